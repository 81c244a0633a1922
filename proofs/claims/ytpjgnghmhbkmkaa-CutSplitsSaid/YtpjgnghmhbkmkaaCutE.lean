import Derived.Test.YtpjgnghmhbkmkaaCutD

/-! Layer 9: Split. -/
namespace Go.Proofs.Ytpjgnghmhbkmkaa
open Go.RowKit
set_option linter.unusedVariables false
set_option linter.unusedSimpArgs false

theorem Kpc.drew {B : Nat} {W w : World} {l : List (Nat × Array Value × TypeId)} (h : Kpc B W l w) : Kpc B W l w.drew := ⟨fun x hx => h.1 x hx, h.2.1.drew, h.2.2⟩
theorem Kpc.below1 {B B1 : Nat} {W w w' : World} {l : List (Nat × Array Value × TypeId)} (h : Kpc B W l w) (hb : Below B1 w w') (hB : B ≤ B1) (hl : ∀ x ∈ l, x.1 < B1) : Kpc B W l w' :=
  ⟨fun x hx => (h.1 x hx).below hb (hl x hx), h.2.1.trans (hb.mono hB), Nat.le_trans h.2.2 hb.size⟩
theorem Two.below {B : Nat} {w w' : World} {v1 v2 : Value} {l1 l2 : List Int} (h : Two B w v1 l1 v2 l2) (hb : Below w.heap.size w w') : Two B w' v1 l1 v2 l2 := ⟨ownI_below h.1 hb, ownI_below h.2.1 hb, h.2.2⟩
theorem new_own1 {w w' : World} {v : Value} {l : List Int} {A : Option Addr} {n c : Nat} {e : TypeId} (h : w'.ownsRow (w.heap.size + 1) e 1 v l.length (litI l)) (hv : v = .slice A n c) : New w A := fun ad e => by
  subst hv; subst e
  rcases h.2 with ⟨h1, _⟩ | ⟨g, cap, cur, h1, hb, _⟩
  · cases h1
  · cases h1; exact Nat.le_of_succ_le hb
/-- two lists of indices and an error -/
def GivesS (c : List Int) (p : Int) (R : List Row) (w : World) (e : Ending) (w' : World) : Prop :=
  ∃ A1 c1 A2 c2, e = .returned (.tuple #[.slice A1 (lft c p R).length c1, .slice A2 (rgt c p R).length c2, .int .i64 (splC c p R)]) ∧ (lft c p R).length ≤ c1 ∧ c1 ≤ maxLen ∧ (rgt c p R).length ≤ c2 ∧ c2 ≤ maxLen ∧ Lies w' w'.heap.size A1 (lft c p R) ∧ Lies w' w'.heap.size A2 (rgt c p R) ∧ New w A1 ∧ New w A2 ∧ Below w.heap.size w w'
theorem givesS_intro {c : List Int} {p : Int} {R : List Row} {w : World} (A1 : Option Addr) (c1 : Nat) (A2 : Option Addr) (c2 : Nat) (w' : World) (h1 : (lft c p R).length ≤ c1) (h2 : c1 ≤ maxLen) (h3 : (rgt c p R).length ≤ c2) (h4 : c2 ≤ maxLen) (h5 : Lies w' w'.heap.size A1 (lft c p R)) (h6 : Lies w' w'.heap.size A2 (rgt c p R)) (h7 : New w A1) (h8 : New w A2) (h9 : Below w.heap.size w w') :
    GivesS c p R w (.returned (.tuple #[.slice A1 (lft c p R).length c1, .slice A2 (rgt c p R).length c2, .int .i64 (splC c p R)])) w' := ⟨A1, c1, A2, c2, rfl, h1, h2, h3, h4, h5, h6, h7, h8, h9⟩
theorem givesS_no {c : List Int} {p : Int} {R : List Row} {w : World} {x : Int} (hx : ¬ x = 0) (h1 : splC c p R = x) (h2 : lft c p R = []) (h3 : rgt c p R = []) (w' : World) (h : Below w.heap.size w w') :
    GivesS c p R w (.returned (.tuple #[.slice none 0 0, .slice none 0 0, .int .i64 x])) w' := by
  refine ⟨none, 0, none, 0, ?_, ?_, by unfold maxLen; omega, ?_, by unfold maxLen; omega, ?_, ?_, (fun _ e => by cases e), (fun _ e => by cases e), h⟩
  · rw [h1, h2, h3]; rfl
  · rw [h2]; exact Nat.le_refl _
  · rw [h3]; exact Nat.le_refl _
  · rw [h2]; exact fun h1 => absurd h1 (by simp)
  · rw [h3]; exact fun h1 => absurd h1 (by simp)

set_option maxHeartbeats 4000000 in
theorem cut_Split (A Ar : Option Addr) (a : List Int) (R : List Row) (c cr : Nat) (p : Int) (w : World) (hA : Lies w w.heap.size A a) (hr : LiesR w w.heap.size Ar R) (hR : OkR R) (hla : (a.length : Int) ≤ 9223372036854775807) (hca : a.length ≤ c) (hlr : R.length ≤ 1000000) :
    Calls Try.prog 32 #[.agg #[.slice A a.length c, .int .i64 p], .slice Ar R.length cr] w (GivesS a p R w) := by
  have HX := Lib.hid ((Kpc.start w).alloc #[.slice A a.length c, .int .i64 p] 40)
  have HB0 := Lib.hid (show (w.alloc (.cells #[.slice A a.length c, .int .i64 p] 40)).heap.size = w.heap.size + 1 from alloc_size' _ _)
  have KI := Lib.hid (fun W (h : Below w.heap.size w W) => cut_Is A a c w.heap.size p a.length W (hA.below h) h.size hla hca)
  obtain ⟨y0, y1, _, _⟩ := HX.out.head.two
  by_cases hC : isC a p a.length = true
  · rw [hC] at KI
    have hLC : ∀ x, lefC a p x = dotC a x := fun x => by unfold lefC; rw [if_pos hC]
    have KL := Lib.hid (fun W (h : Below w.heap.size w W) k (hk : k < R.length) => cut_Left A (R.getD k row0).a a (R.getD k row0).l c (R.getD k row0).c w.heap.size p W (hA.below h) ((hr.below h).2 _ (getD_mem hk)) h.size hla (by have := hR _ (getD_mem hk); omega) hca (hR _ (getD_mem hk)).1)
    have HE : Hid (∀ k, k < R.length → dotE a (R.getD k row0).l = true → lefC a p (R.getD k row0).l = 0 ∧ lefB a p (R.getD k row0).l = goesL a p R k) := fun k hk h => by
      have h1 : lefC a p (R.getD k row0).l = 0 := by rw [hLC]; unfold dotC; rw [if_pos h]
      exact ⟨h1, by unfold lefB goesL; rw [h1]; simp⟩
    have HN : Hid (∀ k, k < R.length → dotE a (R.getD k row0).l = false → lefC a p (R.getD k row0).l = 80 ∧ splC a p R = 80 ∧ lft a p R = [] ∧ rgt a p R = []) := fun k hk h => by
      have h2 : splC a p R = 80 := by unfold splC; rw [if_pos hC, splE_no hk h]; rfl
      refine ⟨by rw [hLC]; unfold dotC; rw [h]; rfl, h2, by unfold lft; rw [h2, if_neg (by decide)], by unfold rgt; rw [h2, if_neg (by decide)]⟩
    have HF : Hid ((∀ j, j < R.length → dotE a (R.getD j row0).l = true) → splC a p R = 0 ∧ lft a p R = pcK (goesL a p R) R.length ∧ rgt a p R = pcK (fun j => !goesL a p R j) R.length) := fun h => by
      have h2 : splC a p R = 0 := by unfold splC; rw [if_pos hC, splE_iff.2 h]; rfl
      exact ⟨h2, by unfold lft; rw [if_pos h2], by unfold rgt; rw [if_pos h2]⟩
    have HAT := Lib.hid (fun W (h : Below w.heap.size w W) k (hk : k < R.length) => (hr.below h).at (k := k) hk)
    have HG := Lib.hid (@givesS_intro a p R w)
    have HGN := Lib.hid (fun (x : Int) => @givesS_no a p R w x)
    generalize hlf : lft a p R = lf at *
    generalize hrg : rgt a p R = rg at *
    generalize hsp : splC a p R = sp at *
    generalize GivesS a p R w = Q at *
    clear hA hr hlf hrg hsp hC hLC
    generalize hM : R.length = M at *
    have HM := Lib.hid hM
    clear hM
    go_enter Try.func32, Try.ntmps32
    go_wp2_with fail
    refine (KI.out _ HX.out.2.1).mono ?_
    rintro e w1 ⟨rfl, b1⟩
    have J1 := Lib.hid (HX.out.below b1)
    have hs1 : w.heap.size + 1 ≤ w1.heap.size := by rw [← HB0.out]; exact b1.size
    clear b1
    go_wp2
    go_loopw [7, 8, 21] (fun v1 v2 i wr => ∃ (k : Nat), k ≤ M ∧ i = .int .i64 k ∧ Hid (Two (w.heap.size + 1) wr v1 (pcK (goesL a p R) k) v2 (pcK (fun j => !goesL a p R j) k)) ∧ Hid (∀ j, j < k → dotE a (R.getD j row0).l = true) ∧ Hid (Kpc w.heap.size w [(w.heap.size, #[.slice A a.length c, .int .i64 p], 40)] wr) ∧ Hid (w.heap.size + 1 ≤ wr.heap.size)) (fun _ _ i _ => M - (intOf i).toNat)
    case atStart => exact ⟨0, by omega, rfl, ⟨World.ownsRow_nil _ _ _ _, World.ownsRow_nil _ _ _ _, .inl rfl⟩, fun j hj => absurd hj (by omega), J1.out, hs1⟩
    case round =>
      obtain ⟨k, hk, rfl, HT, HD, HJ, HS⟩ := hrel
      by_cases hlt : k < M
      · obtain ⟨ad, hAr, hadb, hcell, hlies⟩ := HAT.out wr HJ.out.2.1 k hlt
        have HCK : Hid (∀ W, Below w.heap.size w W → W.cell? (ad.add k) = some (.slice (R.getD k row0).a (R.getD k row0).l.length (R.getD k row0).c)) := fun W h => by
          obtain ⟨ad2, e2, _, hc2, _⟩ := HAT.out W h k hlt
          rw [hAr] at e2; cases e2; exact hc2
        subst hAr
        obtain ⟨x0, x1, _, _⟩ := HJ.out.head.two
        have K := Lib.hid (fun W (h : Below w.heap.size w W) => KL.out W h k hlt)
        have HE1 := Lib.hid (HE.out k hlt)
        have HN1 := Lib.hid (HN.out k hlt)
        have HPS : Hid (pcK (goesL a p R) (k + 1) = if goesL a p R k then pcK (goesL a p R) k ++ [(k : Int)] else pcK (goesL a p R) k) := rfl
        have HQS : Hid (pcK (fun j => !goesL a p R j) (k + 1) = if !goesL a p R k then pcK (fun j => !goesL a p R j) k ++ [(k : Int)] else pcK (fun j => !goesL a p R j) k) := rfl
        have hl1 := pcK_len (goesL a p R) k
        have hl2 := pcK_len (fun j => !goesL a p R j) k
        have HDX : Hid (dotE a (R.getD k row0).l = true → ∀ j, j < k + 1 → dotE a (R.getD j row0).l = true) := fun h j hj => by
          rcases Nat.lt_or_ge j k with g | g
          · exact HD.out j g
          · rw [show j = k from by omega]; exact h
        generalize R.getD k row0 = r at *
        obtain ⟨ra, rl, rc⟩ := r
        simp only at hcell K HE1 HN1 HDX HCK
        generalize lefC a p rl = lc at *
        generalize lefB a p rl = lb at *
        generalize goesL a p R k = gl at *
        generalize pcK (goesL a p R) k = P1 at *
        generalize pcK (fun j => !goesL a p R j) k = P2 at *
        have HL1 : Hid (P1.length + 1 ≤ 1000000000) := by show _ ≤ _; omega
        have HL2 : Hid (P2.length + 1 ≤ 1000000000) := by show _ ≤ _; omega
        clear hlies hl1 hl2
        have hlg : (k : Int) < (M : Int) := by omega
        cases hq : dotE a rl
        · obtain ⟨n1, n2, n3, n4⟩ := HN1.out hq
          subst n1
          go_wp2_with fail
          refine (K.out _ HJ.out.2.1).mono ?_
          rintro e w2 ⟨rfl, b2⟩
          have J2 := Lib.hid (HJ.out.below b2)
          clear b2
          go_wp2
          go_ret3
          exact HGN.out _ (by omega) n2 n3 n4 _ J2.out.2.1
        · obtain ⟨n1, n2⟩ := HE1.out hq
          subst n1
          subst n2
          have HDY := Lib.hid (HDX.out hq)
          clear hq HE1 HN1 HDX
          go_wp2_with fail
          refine (K.out _ HJ.out.2.1).mono ?_
          rintro e w2 ⟨rfl, b2⟩
          have J2 := Lib.hid (HJ.out.below b2)
          have HT2 := Lib.hid (HT.out.below b2)
          have HS2 : Hid (w.heap.size + 1 ≤ w2.heap.size) := Nat.le_trans HS.out b2.size
          obtain ⟨x2, x3, _, _⟩ := J2.out.head.two
          clear b2
          cases lb
          · go_wp2_with (at_builtin; refine app_int_at rfl (.tmp 40) (.tmp 42) rfl _ P2 k _ P1 rfl HT2.out.b HT2.out.a HT2.out.swap.c rfl HS2.out HL2.out ?_; intro v' w4 htw hb4)
            refine ⟨⟨k + 1, by omega, by go_num, (by show Two _ _ _ _ _ _; rw [HPS.out, HQS.out]; exact htw.swap), HDY.out, J2.out.below1 hb4 (by omega) (fun x hx => by rw [List.mem_singleton.1 hx]; omega), Nat.le_trans HS2.out hb4.size⟩, by first | (simp [intOf]; done) | (simp [intOf]; omega)⟩
          · go_wp2_with (at_builtin; refine app_int_at rfl (.tmp 36) (.tmp 38) rfl _ P1 k _ P2 rfl HT2.out.a HT2.out.b HT2.out.c rfl HS2.out HL1.out ?_; intro v' w4 htw hb4)
            refine ⟨⟨k + 1, by omega, by go_num, (by show Two _ _ _ _ _ _; rw [HPS.out, HQS.out]; exact htw), HDY.out, J2.out.below1 hb4 (by omega) (fun x hx => by rw [List.mem_singleton.1 hx]; omega), Nat.le_trans HS2.out hb4.size⟩, by first | (simp [intOf]; done) | (simp [intOf]; omega)⟩
      · obtain rfl : k = M := by omega
        have HTW := Lib.hid HT.out
        obtain ⟨f1, f2, f3⟩ := HF.out HD.out
        obtain ⟨A1, c1, rfl, g1, g2, g3⟩ := lies_ownI HTW.out.a
        obtain ⟨A2, c2, rfl, i1, i2, i3⟩ := lies_ownI HTW.out.b
        have n1 := new_own1 HTW.out.a rfl
        have n2 := new_own1 HTW.out.b rfl
        have HFin := Lib.hid (HG.out A1 c1 A2 c2 wr (by rw [f2]; exact g1) g2 (by rw [f3]; exact i1) i2 (by rw [f2]; exact g3) (by rw [f3]; exact i3) n1 n2 HJ.out.2.1)
        rw [f1, f2, f3] at HFin
        clear g3 i3 n1 n2
        go_wp2
        go_ret3
        exact HFin.out
  · have hC2 : isC a p a.length = false := by simpa using hC
    rw [hC2] at KI
    have hsp : splC a p R = 90 := by unfold splC; rw [hC2]; rfl
    have hlf : lft a p R = [] := by unfold lft; rw [hsp, if_neg (by decide)]
    have hrg : rgt a p R = [] := by unfold rgt; rw [hsp, if_neg (by decide)]
    have HGN := Lib.hid (fun (x : Int) => @givesS_no a p R w x)
    generalize lft a p R = lf at *
    generalize rgt a p R = rg at *
    generalize splC a p R = sp at *
    generalize GivesS a p R w = Q at *
    clear hA hr hC hC2
    go_enter Try.func32, Try.ntmps32
    go_wp2_with fail
    refine (KI.out _ HX.out.2.1).mono ?_
    rintro e w1 ⟨rfl, b1⟩
    have J1 := Lib.hid (HX.out.below b1)
    clear b1
    go_wp2
    go_ret3
    subst hsp
    exact HGN.out _ (by decide) rfl hlf hrg _ J1.out.2.1

set_option maxHeartbeats 4000000 in
theorem ref_Split (A Ar : Option Addr) (a : List Int) (R : List Row) (c cr : Nat) (p : Int) (w : World) (hA : Lies w w.heap.size A a) (hr : LiesR w w.heap.size Ar R) (hlr : R.length ≤ 1000000) :
    Calls Try.prog 33 #[.agg #[.slice A a.length c, .int .i64 p], .slice Ar R.length cr] w (GivesS a p R w) := by
  have HX := Lib.hid ((Kpc.start w).alloc #[.slice A a.length c, .int .i64 p] 40)
  have HB0 := Lib.hid (show (w.alloc (.cells #[.slice A a.length c, .int .i64 p] 40)).heap.size = w.heap.size + 1 from alloc_size' _ _)
  have KI := Lib.hid (fun W (h : Below w.heap.size w W) => ref_Is9 A a c w.heap.size p a.length W (hA.below h) h.size)
  obtain ⟨y0, y1, _, _⟩ := HX.out.head.two
  by_cases hC : isC a p a.length = true
  · rw [hC] at KI
    have hLC : ∀ x, lefC a p x = dotC a x := fun x => by unfold lefC; rw [if_pos hC]
    have KL := Lib.hid (fun W (h : Below w.heap.size w W) k (hk : k < R.length) => ref_Left9 A (R.getD k row0).a a (R.getD k row0).l c (R.getD k row0).c w.heap.size p W (hA.below h) ((hr.below h).2 _ (getD_mem hk)) h.size)
    have HE : Hid (∀ k, k < R.length → dotE a (R.getD k row0).l = true → lefC a p (R.getD k row0).l = 0 ∧ lefB a p (R.getD k row0).l = goesL a p R k) := fun k hk h => by
      have h1 : lefC a p (R.getD k row0).l = 0 := by rw [hLC]; unfold dotC; rw [if_pos h]
      exact ⟨h1, by unfold lefB goesL; rw [h1]; simp⟩
    have HN : Hid (∀ k, k < R.length → dotE a (R.getD k row0).l = false → lefC a p (R.getD k row0).l = 80 ∧ splC a p R = 80 ∧ lft a p R = [] ∧ rgt a p R = []) := fun k hk h => by
      have h2 : splC a p R = 80 := by unfold splC; rw [if_pos hC, splE_no hk h]; rfl
      refine ⟨by rw [hLC]; unfold dotC; rw [h]; rfl, h2, by unfold lft; rw [h2, if_neg (by decide)], by unfold rgt; rw [h2, if_neg (by decide)]⟩
    have HF : Hid ((∀ j, j < R.length → dotE a (R.getD j row0).l = true) → splC a p R = 0 ∧ lft a p R = pcK (goesL a p R) R.length ∧ rgt a p R = pcK (fun j => !goesL a p R j) R.length) := fun h => by
      have h2 : splC a p R = 0 := by unfold splC; rw [if_pos hC, splE_iff.2 h]; rfl
      exact ⟨h2, by unfold lft; rw [if_pos h2], by unfold rgt; rw [if_pos h2]⟩
    have HAT := Lib.hid (fun W (h : Below w.heap.size w W) k (hk : k < R.length) => (hr.below h).at (k := k) hk)
    have HG := Lib.hid (@givesS_intro a p R w)
    have HGN := Lib.hid (fun (x : Int) => @givesS_no a p R w x)
    generalize hlf : lft a p R = lf at *
    generalize hrg : rgt a p R = rg at *
    generalize hsp : splC a p R = sp at *
    generalize GivesS a p R w = Q at *
    clear hA hr hlf hrg hsp hC hLC
    generalize hM : R.length = M at *
    have HM := Lib.hid hM
    clear hM
    go_enter Try.func33, Try.ntmps33
    go_wp2_with fail
    refine (KI.out _ HX.out.2.1).mono ?_
    rintro e w1 ⟨rfl, b1⟩
    have J1 := Lib.hid (HX.out.below b1)
    have hs1 : w.heap.size + 1 ≤ w1.heap.size := by rw [← HB0.out]; exact b1.size
    clear b1
    go_wp2
    go_loopw [7, 8, 9] (fun v1 v2 i wr => ∃ (k : Nat), k ≤ M ∧ i = .int .i64 k ∧ Hid (Two (w.heap.size + 1) wr v1 (pcK (goesL a p R) k) v2 (pcK (fun j => !goesL a p R j) k)) ∧ Hid (∀ j, j < k → dotE a (R.getD j row0).l = true) ∧ Hid (Kpc w.heap.size w [(w.heap.size, #[.slice A a.length c, .int .i64 p], 40)] wr) ∧ Hid (w.heap.size + 1 ≤ wr.heap.size)) (fun _ _ i _ => M - (intOf i).toNat)
    case atStart => exact ⟨0, by omega, rfl, ⟨World.ownsRow_nil _ _ _ _, World.ownsRow_nil _ _ _ _, .inl rfl⟩, fun j hj => absurd hj (by omega), J1.out, hs1⟩
    case round =>
      obtain ⟨k, hk, rfl, HT, HD, HJ, HS⟩ := hrel
      by_cases hlt : k < M
      · obtain ⟨ad, hAr, hadb, hcell, hlies⟩ := HAT.out wr HJ.out.2.1 k hlt
        have HCK : Hid (∀ W, Below w.heap.size w W → W.cell? (ad.add k) = some (.slice (R.getD k row0).a (R.getD k row0).l.length (R.getD k row0).c)) := fun W h => by
          obtain ⟨ad2, e2, _, hc2, _⟩ := HAT.out W h k hlt
          rw [hAr] at e2; cases e2; exact hc2
        subst hAr
        obtain ⟨x0, x1, _, _⟩ := HJ.out.head.two
        have K := Lib.hid (fun W (h : Below w.heap.size w W) => KL.out W h k hlt)
        have HE1 := Lib.hid (HE.out k hlt)
        have HN1 := Lib.hid (HN.out k hlt)
        have HPS : Hid (pcK (goesL a p R) (k + 1) = if goesL a p R k then pcK (goesL a p R) k ++ [(k : Int)] else pcK (goesL a p R) k) := rfl
        have HQS : Hid (pcK (fun j => !goesL a p R j) (k + 1) = if !goesL a p R k then pcK (fun j => !goesL a p R j) k ++ [(k : Int)] else pcK (fun j => !goesL a p R j) k) := rfl
        have hl1 := pcK_len (goesL a p R) k
        have hl2 := pcK_len (fun j => !goesL a p R j) k
        have HDX : Hid (dotE a (R.getD k row0).l = true → ∀ j, j < k + 1 → dotE a (R.getD j row0).l = true) := fun h j hj => by
          rcases Nat.lt_or_ge j k with g | g
          · exact HD.out j g
          · rw [show j = k from by omega]; exact h
        generalize R.getD k row0 = r at *
        obtain ⟨ra, rl, rc⟩ := r
        simp only at hcell K HE1 HN1 HDX HCK
        generalize lefC a p rl = lc at *
        generalize lefB a p rl = lb at *
        generalize goesL a p R k = gl at *
        generalize pcK (goesL a p R) k = P1 at *
        generalize pcK (fun j => !goesL a p R j) k = P2 at *
        have HL1 : Hid (P1.length + 1 ≤ 1000000000) := by show _ ≤ _; omega
        have HL2 : Hid (P2.length + 1 ≤ 1000000000) := by show _ ≤ _; omega
        clear hlies hl1 hl2
        have hlg : (k : Int) < (M : Int) := by omega
        cases hq : dotE a rl
        · obtain ⟨n1, n2, n3, n4⟩ := HN1.out hq
          subst n1
          go_wp2
          have JD := Lib.hid HJ.out.drew
          have HT2 := Lib.hid (HT.out.below (Below.refl _ _).drew)
          have HS2 : Hid (w.heap.size + 1 ≤ wr.drew.heap.size) := HS.out
          obtain ⟨x0, x1, _, _⟩ := JD.out.head.two
          have hcd : wr.drew.cell? (ad.add k) = some (.slice ra rl.length rc) := hcell
          go_region_held3 (fun W => W.cell? ⟨w.heap.size, 0, none⟩ = some (.slice A a.length c) ∧ W.cell? ⟨w.heap.size, 1, none⟩ = some (.int .i64 p) ∧ W.cell? (ad.add k) = some (.slice ra rl.length rc)) (first | assumption | exact hcd | go_keep)
            (first
              | (go_at_call 35; ((refine (K.out _ JD.out.2.1).mono ?_); rintro e w2 ⟨rfl, b2⟩; have J2 := Lib.hid (JD.out.below b2); have HT2 := Lib.hid (HT2.out.below b2); have HS2 := Lib.hid (show w.heap.size + 1 ≤ w2.heap.size from Nat.le_trans HS2.out b2.size); have hcx := HCK.out _ J2.out.2.1; obtain ⟨x2, x3, _, _⟩ := J2.out.head.two; clear b2)))
          go_wp2
          go_ret3
          exact HGN.out _ (by omega) n2 n3 n4 _ J2.out.2.1
        · obtain ⟨n1, n2⟩ := HE1.out hq
          subst n1
          subst n2
          have HDY := Lib.hid (HDX.out hq)
          clear hq HE1 HN1 HDX
          go_wp2
          have JD := Lib.hid HJ.out.drew
          have HT2 := Lib.hid (HT.out.below (Below.refl _ _).drew)
          have HS2 : Hid (w.heap.size + 1 ≤ wr.drew.heap.size) := HS.out
          obtain ⟨x0, x1, _, _⟩ := JD.out.head.two
          have hcd : wr.drew.cell? (ad.add k) = some (.slice ra rl.length rc) := hcell
          go_region_held3 (fun W => W.cell? ⟨w.heap.size, 0, none⟩ = some (.slice A a.length c) ∧ W.cell? ⟨w.heap.size, 1, none⟩ = some (.int .i64 p) ∧ W.cell? (ad.add k) = some (.slice ra rl.length rc)) (first | assumption | exact hcd | go_keep)
            (first
              | (go_at_call 35; ((refine (K.out _ JD.out.2.1).mono ?_); rintro e w2 ⟨rfl, b2⟩; have J2 := Lib.hid (JD.out.below b2); have HT2 := Lib.hid (HT2.out.below b2); have HS2 := Lib.hid (show w.heap.size + 1 ≤ w2.heap.size from Nat.le_trans HS2.out b2.size); have hcx := HCK.out _ J2.out.2.1; obtain ⟨x2, x3, _, _⟩ := J2.out.head.two; clear b2)))
          cases lb
          · go_wp2_with (at_builtin; refine app_int_at rfl (.tmp 41) (.tmp 43) rfl _ P2 k _ P1 rfl HT2.out.b HT2.out.a HT2.out.swap.c rfl HS2.out HL2.out ?_; intro v' w4 htw hb4)
            refine ⟨⟨k + 1, by omega, by go_num, (by show Two _ _ _ _ _ _; rw [HPS.out, HQS.out]; exact htw.swap), HDY.out, J2.out.below1 hb4 (by omega) (fun x hx => by rw [List.mem_singleton.1 hx]; omega), Nat.le_trans HS2.out hb4.size⟩, by first | (simp [intOf]; done) | (simp [intOf]; omega)⟩
          · go_wp2_with (at_builtin; refine app_int_at rfl (.tmp 37) (.tmp 39) rfl _ P1 k _ P2 rfl HT2.out.a HT2.out.b HT2.out.c rfl HS2.out HL1.out ?_; intro v' w4 htw hb4)
            refine ⟨⟨k + 1, by omega, by go_num, (by show Two _ _ _ _ _ _; rw [HPS.out, HQS.out]; exact htw), HDY.out, J2.out.below1 hb4 (by omega) (fun x hx => by rw [List.mem_singleton.1 hx]; omega), Nat.le_trans HS2.out hb4.size⟩, by first | (simp [intOf]; done) | (simp [intOf]; omega)⟩
      · obtain rfl : k = M := by omega
        have HTW := Lib.hid HT.out
        obtain ⟨f1, f2, f3⟩ := HF.out HD.out
        obtain ⟨A1, c1, rfl, g1, g2, g3⟩ := lies_ownI HTW.out.a
        obtain ⟨A2, c2, rfl, i1, i2, i3⟩ := lies_ownI HTW.out.b
        have n1 := new_own1 HTW.out.a rfl
        have n2 := new_own1 HTW.out.b rfl
        have HFin := Lib.hid (HG.out A1 c1 A2 c2 wr (by rw [f2]; exact g1) g2 (by rw [f3]; exact i1) i2 (by rw [f2]; exact g3) (by rw [f3]; exact i3) n1 n2 HJ.out.2.1)
        rw [f1, f2, f3] at HFin
        clear g3 i3 n1 n2
        go_wp2
        go_ret3
        exact HFin.out
  · have hC2 : isC a p a.length = false := by simpa using hC
    rw [hC2] at KI
    have hsp : splC a p R = 90 := by unfold splC; rw [hC2]; rfl
    have hlf : lft a p R = [] := by unfold lft; rw [hsp, if_neg (by decide)]
    have hrg : rgt a p R = [] := by unfold rgt; rw [hsp, if_neg (by decide)]
    have HGN := Lib.hid (fun (x : Int) => @givesS_no a p R w x)
    generalize lft a p R = lf at *
    generalize rgt a p R = rg at *
    generalize splC a p R = sp at *
    generalize GivesS a p R w = Q at *
    clear hA hr hC hC2
    go_enter Try.func33, Try.ntmps33
    go_wp2_with fail
    refine (KI.out _ HX.out.2.1).mono ?_
    rintro e w1 ⟨rfl, b1⟩
    have J1 := Lib.hid (HX.out.below b1)
    clear b1
    go_wp2
    go_ret3
    subst hsp
    exact HGN.out _ (by decide) rfl hlf hrg _ J1.out.2.1

end Go.Proofs.Ytpjgnghmhbkmkaa
