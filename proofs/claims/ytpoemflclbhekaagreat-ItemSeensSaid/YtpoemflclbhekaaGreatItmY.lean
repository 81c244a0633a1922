/- Layer 22 (item): scores, in the reference: Score, GetScore; what was read without an error is written as the bytes that were read. -/
import Derived.Test.YtpoemflclbhekaaGreatItmLv
import Derived.Test.YtpoemflclbhekaaGreatItmRf
import Derived.Test.YtpoemflclbhekaaGreatItmO
import Derived.Test.YtpoemflclbhekaaGreatBinRf
import Derived.Test.YtpoemflclbhekaaGreatRegJ
namespace Go.Proofs.YtpoemflclbhekaaGreat
open Go.RowKit
set_option linter.unusedVariables false
set_option linter.unusedSimpArgs false

theorem gS_one {b : List Int} (hb : byt b) (h : (gS b 0 0).1.2 = 0) : 0 < (gS b 0 0).1.1 ∧ (gS b 0 0).1.1 ≤ b.length ∧ scW (gS b 0 0).2.1 (gS b 0 0).2.2 = b.take (gS b 0 0).1.1 := by
  have h : chkF (scoB ((rN b 0 0 274877906944).2 : Nat) ((rN b (rN b 0 0 274877906944).1.1 (rN b 0 0 274877906944).1.2 1099511627776).2 : Nat)) (rN b (rN b 0 0 274877906944).1.1 (rN b 0 0 274877906944).1.2 1099511627776).1.2 = 0 := h
  obtain ⟨hr, h0⟩ := chk_zero h
  obtain ⟨g0, g1, g2, g3⟩ := at_N hb h0
  obtain ⟨-, i1, i2, i3⟩ := at_N hb g0
  refine ⟨by show 0 < (rN b (rN b 0 0 274877906944).1.1 (rN b 0 0 274877906944).1.2 1099511627776).1.1; omega, g2, ?_⟩
  show scW (if chkF _ _ = 0 then (_, _) else (0, 0)).1 (if chkF _ _ = 0 then (_, _) else (0, 0)).2 = b.take (rN b (rN b 0 0 274877906944).1.1 (rN b 0 0 274877906944).1.2 1099511627776).1.1
  rw [if_pos h]
  unfold scW
  rw [if_pos hr]
  unfold scB nB
  rw [List.flatMap_cons, List.flatMap_cons, List.flatMap_nil, List.append_nil, Int.toNat_natCast, Int.toNat_natCast, i3, g3, ← take_two b (Nat.le_of_lt i1) (Nat.le_of_lt g1)]
  simp
def PSco3 : List (List Nat) := [[], [0], [1], [2], [], [4], [5], [6, 3], [3, 7, 7], [8, 8, 0, 1, 2, 3, 4, 5, 6, 7, 8]]
def ESco3 (B : Nat) (p0 p1 : Value) (P Q : Nat) (l D : List Int) : EJ :=
  [(none, fun _ y => y = p0), (none, fun _ y => y = .int .i64 (P : Nat)), (none, fun _ y => y = .int .u64 (P : Nat)), (some 8, fun X y => OwnsY X B y l), (none, fun _ y => y = p1), (none, fun _ y => y = .int .i64 (Q : Nat)), (none, fun _ y => y = .int .u64 (Q : Nat)), (some 8, fun X y => ∃ A c, y = .slice A D.length c ∧ LiesY X X.heap.size A D ∧ (A = none → c = 0)), (none, fun X y => OwnsY X B y (l ++ D)), (none, fun X y => OwnsY X B y (l ++ D))]
theorem eSco3_st (B : Nat) (p0 p1 : Value) (P Q : Nat) (l D : List Int) : StE (ESco3 B p0 p1 P Q l D) := by
  intro p hp X X' v hb h
  simp only [ESco3, List.mem_cons, List.not_mem_nil, or_false] at hp
  rcases hp with rfl | rfl | rfl | rfl | rfl | rfl | rfl | rfl | rfl | rfl
  · exact h
  · exact h
  · exact h
  · exact OwnsY.below h hb
  · exact h
  · exact h
  · exact h
  · obtain ⟨A, c, e, h1, h2⟩ := h
    exact ⟨A, c, e, h1.up hb, h2⟩
  · exact OwnsY.below h hb
  · exact OwnsY.below h hb
theorem len10' {vs : List Value} (h : vs.length = 10) : ∃ y0 y1 y2 y3 y4 y5 y6 y7 y8 y9, vs = [y0, y1, y2, y3, y4, y5, y6, y7, y8, y9] := by
  match vs, h with
  | y0 :: y1 :: y2 :: y3 :: y4 :: y5 :: y6 :: y7 :: y8 :: y9 :: [], _ => exact ⟨y0, y1, y2, y3, y4, y5, y6, y7, y8, y9, rfl⟩
set_option maxRecDepth 2000000 in
set_option maxHeartbeats 8000000 in
theorem ref_Score (p q : Int) (w : World) : Calls Tryz.prog 8 #[.agg #[.int .i64 p, .int .i64 q]] w (GivesY (scW p q) w) := by
  have HXB := Lib.hid (Box.new w #[.int .i64 p, .int .i64 q] 23)
  have HB := Lib.hid ((Below.refl w.heap.size w).alloc (Nat.le_refl _) (.cells #[.int .i64 p, .int .i64 q] 23))
  have KR := Lib.hid (fun W => ref13_is p q W)
  obtain ⟨DD, hDD⟩ : ∃ DD, DD = scW p q := ⟨_, rfl⟩
  rw [← hDD]
  have HZ1 : Hid (scoB p q = true → DD = uB p.toNat ++ uB q.toNat) := fun h => by rw [hDD]; unfold scW; rw [if_pos h]; unfold scB nB; simp
  have HZ0 : Hid (scoB p q = false → DD = []) := fun h => by rw [hDD]; unfold scW; rw [h]; rfl
  have HPQ : Hid (scoB p q = true → (0 ≤ p ∧ p < 18446744073709551616) ∧ 0 ≤ q ∧ q < 18446744073709551616) := fun h => by
    obtain ⟨h1, h2, h3, h4, -⟩ := scoB_ok h
    (show _ ∧ _); omega
  clear hDD
  obtain ⟨x0, x1, -, -⟩ := HXB.out.two
  generalize scoB p q = sb at *
  cases sb
  · have HZ : Hid (DD = []) := HZ0.out rfl
    clear HZ0 HZ1 HPQ
    go_enter Tryz.func8, Tryz.ntmps8
    go_wp2_with fail
    refine (KR.out _).mono ?_
    rintro e w1 ⟨rfl, h1⟩
    have HB := Lib.hid (HB.out.trans (h1.mono HB.out.size))
    clear h1
    go_wp2
    go_ret
    rw [HZ.out]
    exact ⟨⟨_, rfl, OwnsY.nil _ _⟩, HB.out⟩
  · obtain ⟨⟨p1, p2⟩, q1, q2⟩ := HPQ.out rfl
    have HZ := HZ1.out rfl
    obtain ⟨P, rfl⟩ := Int.eq_ofNat_of_zero_le p1
    obtain ⟨Q, rfl⟩ := Int.eq_ofNat_of_zero_le q1
    rw [Int.toNat_natCast, Int.toNat_natCast] at HZ
    have HZ := Lib.hid HZ
    have KUP := Lib.hid (fun W => ref_UY P W (by omega))
    have KUQ := Lib.hid (fun W => ref_UY Q W (by omega))
    unfold GivesY at KUP KUQ
    have HUP := Lib.hid (uB_len (n := P) (by omega)).2
    have HUQ := Lib.hid (uB_len (n := Q) (by omega)).2
    have hup : (P : Int) % 18446744073709551616 = (P : Int) := by omega
    have huq : (Q : Int) % 18446744073709551616 = (Q : Int) := by omega
    clear HZ0 HZ1 HPQ p1 p2 q1 q2
    go_enter Tryz.func8, Tryz.ntmps8
    go_wp2_with fail
    refine (KR.out _).mono ?_
    rintro e W0 ⟨rfl, h1⟩
    have HXB := Lib.hid (HXB.out.below h1 HXB.out.lt)
    have HB := Lib.hid (HB.out.trans (h1.mono HB.out.size))
    clear h1 KR x0 x1
    go_wp2
    refine wp_region_steps (GJ PSco3 (ESco3 W0.heap.size (.pointer (some ⟨w.heap.size, 0, none⟩)) (.pointer (some ⟨w.heap.size, 1, none⟩)) P Q (uB P) (uB Q)) (fun X => Below W0.heap.size W0 X)) PSco3 (by kernel_rfl) (by kernel_rfl) (by kernel_rfl) (by kernel_rfl) ?_ ?_ ?_ ?_
    · exact fun f g vs X hfg h => GJ.congr (n := 10) (by decide) (by decide) (by simp [ESco3]) (by simp [ESco3]) hfg h
    · intro vs _
      exact GJ.start ((Below.refl _ _).drew)
    · refine ⟨?_, ?_, ?_, ?_, ?_, ?_, ?_, ?_, ?_, ?_, trivial⟩
      all_goals
        intro f vs X hlen hf hp hj K hK
        obtain ⟨y0, y1, y2, y3, y4, y5, y6, y7, y8, y9, rfl⟩ := len10' hlen
        clear hlen
        have HJ := Lib.hid hj
        clear hj
      · rw [if_pos (by rfl)]
        simp only [putAll, Act.put, List.setIfInBounds_toArray, List.set_cons_zero, List.set_cons_succ] at hK ⊢
        go_simp
        refine hK _ X ?_
        exact HJ.out.step (i := 0) rfl hp (by simp) _ rfl rfl
      · simp only [putAll, Act.put, List.setIfInBounds_toArray, List.set_cons_zero, List.set_cons_succ] at hK ⊢
        have eq0 : y0 = .pointer (some ⟨w.heap.size, 0, none⟩) := HJ.out.get (i := 0) rfl (hp 0 (by simp)) (fun k e => by cases e)
        subst eq0
        rw [if_pos (by rfl)]
        obtain ⟨x0, x1, -, -⟩ := (HXB.out.below HJ.out.1 HXB.out.lt).two
        go_simp
        refine hK _ X ?_
        exact HJ.out.step (i := 1) rfl hp (by simp) _ rfl rfl
      · simp only [putAll, Act.put, List.setIfInBounds_toArray, List.set_cons_zero, List.set_cons_succ] at hK ⊢
        have eq1 : y1 = .int .i64 (P : Nat) := HJ.out.get (i := 1) rfl (hp 1 (by simp)) (fun k e => by cases e)
        subst eq1
        rw [if_pos (by rfl)]
        go_simp
        refine hK _ X ?_
        exact HJ.out.step (i := 2) rfl hp (by simp) _ rfl (by first | rfl | exact congrArg (Value.int .u64) hup)
      · simp only [putAll, Act.put, List.setIfInBounds_toArray, List.set_cons_zero, List.set_cons_succ] at hK ⊢
        have eq2 : y2 = .int .u64 (P : Nat) := HJ.out.get (i := 2) rfl (hp 2 (by simp)) (fun k e => by cases e)
        subst eq2
        rw [if_pos (by rfl)]
        go_simp
        refine (KUP.out X).mono ?_
        rintro e w3 ⟨⟨v, rfl, h1⟩, q3⟩
        refine hK _ w3 ?_
        exact HJ.out.below (i := 3) rfl hp (by simp) _ (HJ.out.1.trans (q3.mono HJ.out.1.size)) rfl (ownY_le h1 HJ.out.1.size) (eSco3_st _ _ _ _ _ _ _) q3
      · rw [if_pos (by rfl)]
        simp only [putAll, Act.put, List.setIfInBounds_toArray, List.set_cons_zero, List.set_cons_succ] at hK ⊢
        go_simp
        refine hK _ X ?_
        exact HJ.out.step (i := 4) rfl hp (by simp) _ rfl rfl
      · simp only [putAll, Act.put, List.setIfInBounds_toArray, List.set_cons_zero, List.set_cons_succ] at hK ⊢
        have eq4 : y4 = .pointer (some ⟨w.heap.size, 1, none⟩) := HJ.out.get (i := 4) rfl (hp 4 (by simp)) (fun k e => by cases e)
        subst eq4
        rw [if_pos (by rfl)]
        obtain ⟨x0, x1, -, -⟩ := (HXB.out.below HJ.out.1 HXB.out.lt).two
        go_simp
        refine hK _ X ?_
        exact HJ.out.step (i := 5) rfl hp (by simp) _ rfl rfl
      · simp only [putAll, Act.put, List.setIfInBounds_toArray, List.set_cons_zero, List.set_cons_succ] at hK ⊢
        have eq5 : y5 = .int .i64 (Q : Nat) := HJ.out.get (i := 5) rfl (hp 5 (by simp)) (fun k e => by cases e)
        subst eq5
        rw [if_pos (by rfl)]
        go_simp
        refine hK _ X ?_
        exact HJ.out.step (i := 6) rfl hp (by simp) _ rfl (by first | rfl | exact congrArg (Value.int .u64) huq)
      · simp only [putAll, Act.put, List.setIfInBounds_toArray, List.set_cons_zero, List.set_cons_succ] at hK ⊢
        have eq6 : y6 = .int .u64 (Q : Nat) := HJ.out.get (i := 6) rfl (hp 6 (by simp)) (fun k e => by cases e)
        subst eq6
        rw [if_pos (by rfl)]
        go_simp
        refine (KUQ.out X).mono ?_
        rintro e w3 ⟨⟨v, rfl, h1⟩, q3⟩
        obtain ⟨A6, c6, rfl, -, -, g3, g4, -⟩ := h1.lies
        refine hK _ w3 ?_
        exact HJ.out.below (i := 7) rfl hp (by simp) _ (HJ.out.1.trans (q3.mono HJ.out.1.size)) rfl (⟨A6, c6, rfl, g3, g4⟩) (eSco3_st _ _ _ _ _ _ _) q3
      · simp only [putAll, Act.put, List.setIfInBounds_toArray, List.set_cons_zero, List.set_cons_succ] at hK ⊢
        have ho : OwnsY X W0.heap.size y3 (uB P) := HJ.out.get (i := 3) rfl (hp 3 (by simp)) (fun k e => by cases e; exact hf)
        obtain ⟨A6, c6, e6, h6, n6⟩ := HJ.out.get (i := 7) rfl (hp 7 (by simp)) (fun k e => by cases e; exact hf)
        have e7 : y7 = .slice A6 (uB Q).length c6 := e6
        clear e6
        subst e7
        rw [if_pos (by rfl)]
        refine app_ownO (B := W0.heap.size) (.tmp 9) (.tmp 13) rfl y3 (uB P) (uB Q) A6 c6 (uB Q).length rfl rfl rfl n6 ho h6 HJ.out.1.size (by have := HUP.out; have := HUQ.out; omega) ?_
        intro v' w' h1 h2
        refine hK _ w' ?_
        refine HJ.out.move (i := 8) rfl hp (by simp) v' (HJ.out.1.trans h2) rfl h1 ?_
        intro j u C y he hj hji hu hk hc
        have hj10 : j < 10 := by have := (List.getElem?_eq_some_iff.1 he).1; simpa [ESco3] using this
        match j, hj10, he with
        | 0, _, he => cases he; exact hc
        | 1, _, he => cases he; exact hc
        | 2, _, he => cases he; exact hc
        | 3, _, he => exact absurd rfl (by cases he; exact hu)
        | 4, _, he => cases he; exact hc
        | 5, _, he => cases he; exact hc
        | 6, _, he => cases he; exact hc
        | 7, _, he => exact absurd rfl (by cases he; exact hu)
        | 8, _, he => exact absurd rfl hji
        | 9, _, he => exact absurd (HJ.out.pre (i := 9) (j := 8) rfl hj (by simp)) (by rw [hf]; simp)
      · simp only [putAll, Act.put, List.setIfInBounds_toArray, List.set_cons_zero, List.set_cons_succ] at hK ⊢
        have ho : OwnsY X W0.heap.size y8 (uB P ++ uB Q) := HJ.out.get (i := 8) rfl (hp 8 (by simp)) (fun k e => by cases e)
        rw [if_pos (by rfl)]
        go_simp
        refine hK _ X ?_
        exact HJ.out.step (i := 9) rfl hp (by simp) _ rfl ho
    · intro vs X hl hj
      obtain ⟨y0, y1, y2, y3, y4, y5, y6, y7, y8, y9, rfl⟩ := len10' hl
      have ho : OwnsY X W0.heap.size y9 (uB P ++ uB Q) := hj.get (i := 9) rfl rfl (fun k e => by cases e)
      have HO := Lib.hid (ownY_le ho HB.out.size)
      have HBX := Lib.hid (HB.out.trans (hj.1.mono HB.out.size))
      clear hj hl ho
      simp only [putAll, Act.put, List.setIfInBounds_toArray, List.set_cons_zero, List.set_cons_succ]
      go_wp2
      go_ret
      rw [HZ.out]
      exact ⟨⟨_, rfl, HO.out⟩, HBX.out⟩
/-- the memory of the reference's GetScore -/
structure SJ (w : World) (wr : World) : Prop where
  b1 : Box wr (w.heap.size + 1) #[.slice none 0 0, .int .i64 0, .int .i64 0] 34
  b2 : Box wr (w.heap.size + 2) #[.int .i64 0, .int .i64 0] 23
  bel : Below w.heap.size w wr
theorem SJ.below {w : World} {wr wy : World} (h : SJ w wr) (hb : Below wr.heap.size wr wy) : SJ w wy :=
  ⟨h.b1.below hb h.b1.lt, h.b2.below hb h.b2.lt, h.bel.trans (hb.mono h.bel.size)⟩
theorem SJ.lt {w wr : World} (h : SJ w wr) : w.heap.size + 3 ≤ wr.heap.size := by have := h.b2.lt; omega
theorem set3_other {G : Nat} {A : Option Addr} {N c : Nat} (wr : World) (k2 e2 : Int) {j : Nat} (hj : j ≠ G) : (((wr.setCell ⟨G, 0, none⟩ (.slice A N c)).setCell ⟨G, 1, none⟩ (.int .i64 k2)).setCell ⟨G, 2, none⟩ (.int .i64 e2)).heap[j]? = wr.heap[j]? :=
  (Below.heap_setCell _ _ _ _ hj).trans ((Below.heap_setCell _ _ _ _ hj).trans (Below.heap_setCell _ _ _ _ hj))
theorem SJ.set {w : World} {A : Option Addr} {N c : Nat} {wr : World} (h : SJ w wr) (k2 e2 : Int) {G : Nat} (hG : w.heap.size + 3 ≤ G) :
    SJ w (((wr.setCell ⟨G, 0, none⟩ (.slice A N c)).setCell ⟨G, 1, none⟩ (.int .i64 k2)).setCell ⟨G, 2, none⟩ (.int .i64 e2)) :=
  ⟨(set3_other wr k2 e2 (by omega)).trans h.b1, (set3_other wr k2 e2 (by omega)).trans h.b2,
   ((h.bel.setCell (by show _ ≤ G; omega) _).setCell (by show _ ≤ G; omega) _).setCell (by show _ ≤ G; omega) _⟩
def GivesRS (A : Option Addr) (N c : Nat) (out : (Nat × Int) × (Int × Int)) (w : World) (r : Ending) (w' : World) : Prop :=
  r = .returned (.tuple #[.agg #[.slice A N c, .int .i64 (out.1.1 : Nat), .int .i64 out.1.2], .agg #[.int .i64 out.2.1, .int .i64 out.2.2]]) ∧ Below w.heap.size w w'
set_option maxRecDepth 2000000 in
set_option maxHeartbeats 16000000 in
theorem ref_GetScore (b : List Int) (A : Option Addr) (c k : Nat) (e : Int) (w : World) (hA : LiesY w w.heap.size A b) (hb : byt b) (hl : b.length ≤ 1000000) (hk : k ≤ b.length) : Calls Tryz.prog 11 #[.agg #[.slice A b.length c, .int .i64 (k : Nat), .int .i64 e]] w (GivesRS A b.length c (gS b k e) w) := by
  have i1 : I64 274877906944 := by unfold I64; omega
  have i2 : I64 1099511627776 := by unfold I64; omega
  have hb1 := (Below.refl w.heap.size w).alloc (Nat.le_refl _) (.cells #[.slice A b.length c, .int .i64 (k : Nat), .int .i64 e] 34)
  have hb2 := hb1.alloc hb1.size (.cells #[.slice none 0 0, .int .i64 0, .int .i64 0] 34)
  have hb3 := hb2.alloc hb2.size (.cells #[.int .i64 0, .int .i64 0] 23)
  have hx1 := (Box.new (w.alloc (.cells #[.slice A b.length c, .int .i64 (k : Nat), .int .i64 e] 34)) #[.slice none 0 0, .int .i64 0, .int .i64 0] 34).alloc (.cells #[.int .i64 0, .int .i64 0] 23)
  have hx2 := Box.new ((w.alloc (.cells #[.slice A b.length c, .int .i64 (k : Nat), .int .i64 e] 34)).alloc (.cells #[.slice none 0 0, .int .i64 0, .int .i64 0] 34)) #[.int .i64 0, .int .i64 0] 23
  rw [alloc_size'] at hx1
  rw [alloc_size', alloc_size'] at hx2
  have HC : Hid (SJ w (((w.alloc (.cells #[.slice A b.length c, .int .i64 (k : Nat), .int .i64 e] 34)).alloc (.cells #[.slice none 0 0, .int .i64 0, .int .i64 0] 34)).alloc (.cells #[.int .i64 0, .int .i64 0] 23))) := ⟨hx1, hx2, hb3⟩
  have K1 := Lib.hid (ref_ReadN21 b A c k e 274877906944 i1 _ ((hA.below hb3).mono hb3.size) hb hl hk)
  have hk1 := rN_at hb hk e 274877906944
  have K2 : Hid (∀ (W : World), Below w.heap.size w W → Calls Tryz.prog 35 #[.agg #[.slice A b.length c, .int .i64 ((rN b k e 274877906944).1.1 : Nat), .int .i64 (rN b k e 274877906944).1.2], .int .i64 1099511627776] W fun r w' => r = .returned (.tuple #[.agg #[.slice A b.length c, .int .i64 ((rN b (rN b k e 274877906944).1.1 (rN b k e 274877906944).1.2 1099511627776).1.1 : Nat), .int .i64 (rN b (rN b k e 274877906944).1.1 (rN b k e 274877906944).1.2 1099511627776).1.2], .int .i64 ((rN b (rN b k e 274877906944).1.1 (rN b k e 274877906944).1.2 1099511627776).2 : Nat)]) ∧ Below W.heap.size W w') := fun W h => ref_ReadN21 b A c _ _ 1099511627776 i2 W ((hA.below h).mono h.size) hb hl hk1
  have HG : Hid (gS b k e = (((rN b (rN b k e 274877906944).1.1 (rN b k e 274877906944).1.2 1099511627776).1.1, chkF (scoB ((rN b k e 274877906944).2 : Nat) ((rN b (rN b k e 274877906944).1.1 (rN b k e 274877906944).1.2 1099511627776).2 : Nat)) (rN b (rN b k e 274877906944).1.1 (rN b k e 274877906944).1.2 1099511627776).1.2), if chkF (scoB ((rN b k e 274877906944).2 : Nat) ((rN b (rN b k e 274877906944).1.1 (rN b k e 274877906944).1.2 1099511627776).2 : Nat)) (rN b (rN b k e 274877906944).1.1 (rN b k e 274877906944).1.2 1099511627776).1.2 = 0 then ((((rN b k e 274877906944).2 : Nat) : Int), (((rN b (rN b k e 274877906944).1.1 (rN b k e 274877906944).1.2 1099511627776).2 : Nat) : Int)) else ((0 : Int), (0 : Int)))) := rfl
  clear hb1 hb2 hb3 hx1 hx2 hA hb hk1
  generalize gS b k e = out at *
  generalize rN b k e 274877906944 = r1 at *
  obtain ⟨⟨k1, e1⟩, a⟩ := r1
  simp only at K1 K2 HG
  generalize rN b k1 e1 1099511627776 = r2 at *
  obtain ⟨⟨k2, e2⟩, d⟩ := r2
  simp only at K1 K2 HG
  generalize hN : b.length = N at *
  clear hN
  obtain ⟨R, hR⟩ : ∃ R, R = scoB (a : Nat) (d : Nat) := ⟨_, rfl⟩
  have KR := Lib.hid (fun W => ref13_is (a : Nat) (d : Nat) W)
  rw [← hR] at HG KR
  obtain ⟨EE, hEE⟩ : ∃ EE, EE = chkF R e2 := ⟨_, rfl⟩
  rw [← hEE] at HG
  have KFM := Lib.hid (fun W => ref_form A N c k2 e2 R W)
  rw [← hEE] at KFM
  have HGG := HG
  clear HG hR hEE
  go_enter Tryz.func11, Tryz.ntmps11
  go_wp2_with fail
  refine (K1.out).mono ?_
  rintro r w1 ⟨rfl, h1⟩
  have hal := (Below.refl w1.heap.size w1).alloc (Nat.le_refl _) (.cells #[.slice A N c, .int .i64 (k1 : Nat), .int .i64 e1] 34)
  have HC := Lib.hid ((HC.out.below h1).below hal)
  have K2 := Lib.hid (K2.out _ HC.out.bel)
  clear h1 hal K1
  go_wp2_with fail
  refine (K2.out).mono ?_
  rintro r w2 ⟨rfl, h1⟩
  have hal := (Below.refl w2.heap.size w2).alloc (Nat.le_refl _) (.cells #[.slice A N c, .int .i64 (k2 : Nat), .int .i64 e2] 34)
  have hal2 := hal.alloc hal.size (.cells #[.int .i64 (a : Nat), .int .i64 (d : Nat)] 23)
  have hg3 : w.heap.size + 3 ≤ w2.heap.size := (HC.out.below h1).lt
  have HK := Lib.hid ((HC.out.below h1).below hal2)
  have H6 := Lib.hid ((Box.new w2 #[.slice A N c, .int .i64 (k2 : Nat), .int .i64 e2] 34).alloc (.cells #[.int .i64 (a : Nat), .int .i64 (d : Nat)] 23))
  have h8 := Box.new (w2.alloc (.cells #[.slice A N c, .int .i64 (k2 : Nat), .int .i64 e2] 34)) #[.int .i64 (a : Nat), .int .i64 (d : Nat)] 23
  rw [alloc_size'] at h8
  have HB8 := Lib.hid h8
  clear h1 hal hal2 h8 K2 HC
  go_upto_region 4 with fail
  generalize (w2.alloc (.cells #[.slice A N c, .int .i64 (k2 : Nat), .int .i64 e2] 34)).alloc (.cells #[.int .i64 (a : Nat), .int .i64 (d : Nat)] 23) = X at *
  generalize hg8 : w2.heap.size + 1 = g8 at *
  have hne0 : g8 ≠ w2.heap.size := by omega
  have hg4 : w.heap.size + 3 ≤ g8 := by omega
  clear hg8
  generalize w2.heap.size = g6 at *
  have hd := (Below.refl X.heap.size X).drew
  obtain ⟨v0, v1, v2, -, -, -⟩ := (box_drewI H6.out).three
  obtain ⟨x0, x1, -, -⟩ := (box_drewI HB8.out).two
  have KQ := Lib.hid (KR.out X.drew)
  have HD := Lib.hid hd
  clear hd KR
  go_region_with (first | (go_at_call 31; refine Calls.mono KQ.out ?_; rintro r w5 ⟨rfl, g2⟩; have g3 := HD.out.trans g2; have HK := Lib.hid (HK.out.below g3); have HB8 := Lib.hid (HB8.out.below g3 HB8.out.lt); have H6 := Lib.hid (H6.out.below g3 H6.out.lt); clear g2 g3; obtain ⟨v0, v1, v2, -, -, -⟩ := H6.out.three) | (go_at_call 36; refine Calls.mono (KFM.out _) ?_; rintro r w6 ⟨rfl, g3⟩; have HK := Lib.hid (HK.out.below g3); have HB8 := Lib.hid (HB8.out.below g3 HB8.out.lt); have H6 := Lib.hid (H6.out.below g3 H6.out.lt); clear g3; obtain ⟨v0, v1, v2, f0, f1, f2⟩ := H6.out.three))
  all_goals
    have HK7 : Hid (SJ w (((w6.setCell ⟨g6, 0, none⟩ (.slice A N c)).setCell ⟨g6, 1, none⟩ (.int .i64 (k2 : Nat))).setCell ⟨g6, 2, none⟩ (.int .i64 EE))) := HK.out.set (k2 : Nat) EE hg3
    have HB7 : Hid (Box (((w6.setCell ⟨g6, 0, none⟩ (.slice A N c)).setCell ⟨g6, 1, none⟩ (.int .i64 (k2 : Nat))).setCell ⟨g6, 2, none⟩ (.int .i64 EE)) g8 #[.int .i64 (a : Nat), .int .i64 (d : Nat)] 23) := (set3_other w6 (k2 : Nat) EE (by omega)).trans HB8.out
    have H67 : Hid (Box (((w6.setCell ⟨g6, 0, none⟩ (.slice A N c)).setCell ⟨g6, 1, none⟩ (.int .i64 (k2 : Nat))).setCell ⟨g6, 2, none⟩ (.int .i64 EE)) g6 #[.slice A N c, .int .i64 (k2 : Nat), .int .i64 EE] 34) := ((H6.out.set 0 _).set 1 _).set 2 _
    go_upto_region 5 with fail
    generalize ((w6.setCell ⟨g6, 0, none⟩ (.slice A N c)).setCell ⟨g6, 1, none⟩ (.int .i64 (k2 : Nat))).setCell ⟨g6, 2, none⟩ (.int .i64 EE) = w7 at *
    clear HK HB8 H6 v0 v1 v2 f0 f1 f2 KQ KFM HD
    have hne1 : ¬ g8 = w.heap.size + 1 := by omega
    have hne2 : ¬ w.heap.size + 1 = g8 := by omega
    have hne3 : ¬ g8 = w.heap.size + 1 + 1 := by omega
    have hne4 : ¬ w.heap.size + 1 + 1 = g8 := by omega
    have hne5 : ¬ g6 = w.heap.size + 1 := by omega
    have hne6 : ¬ w.heap.size + 1 = g6 := by omega
    have hne7 : ¬ g6 = w.heap.size + 1 + 1 := by omega
    by_cases hE : EE = 0
    · subst hE
      have HO : Hid (out = ((k2, (0 : Int)), (((a : Nat) : Int), ((d : Nat) : Int)))) := HGG.out.trans (by rw [if_pos rfl])
      clear HGG
      obtain ⟨v0, v1, v2, -, -, -⟩ := H67.out.three
      obtain ⟨d0, d1, d2, -, -, -⟩ := (box_drewI H67.out).three
      obtain ⟨u0, u1, u2, f0, f1, f2⟩ := (box_drewI HK7.out.b1).three
      obtain ⟨u0', u1', u2', f0', f1', f2'⟩ := HK7.out.b1.three
      obtain ⟨x0, x1, -, -⟩ := (box_drewI HB7.out).two
      obtain ⟨x0', x1', -, -⟩ := HB7.out.two
      obtain ⟨q0, q1, qf0, qf1⟩ := (box_drewI (show Box w7 (w.heap.size + 1 + 1) _ _ from HK7.out.b2)).two
      obtain ⟨q0', q1', qf0', qf1'⟩ := (show Box w7 (w.heap.size + 1 + 1) _ _ from HK7.out.b2).two
      have hf1 : Box (((((w7.setCell ⟨w.heap.size + 1, 0, none⟩ (.slice A N c)).setCell ⟨w.heap.size + 1, 1, none⟩ (.int .i64 (k2 : Nat))).setCell ⟨w.heap.size + 1, 2, none⟩ (.int .i64 0)).setCell ⟨w.heap.size + 1 + 1, 0, none⟩ (.int .i64 (a : Nat))).setCell ⟨w.heap.size + 1 + 1, 1, none⟩ (.int .i64 (d : Nat))).drew (w.heap.size + 1) #[.slice A N c, .int .i64 (k2 : Nat), .int .i64 0] 34 := box_drewI ((Wr.set (w.heap.size + 1 + 1) 1 _ _).box ((Wr.set (w.heap.size + 1 + 1) 0 _ _).box (((HK7.out.b1.set 0 _).set 1 _).set 2 _) (by omega)) (by omega))
      have hf2 : Box (((((w7.setCell ⟨w.heap.size + 1, 0, none⟩ (.slice A N c)).setCell ⟨w.heap.size + 1, 1, none⟩ (.int .i64 (k2 : Nat))).setCell ⟨w.heap.size + 1, 2, none⟩ (.int .i64 0)).setCell ⟨w.heap.size + 1 + 1, 0, none⟩ (.int .i64 (a : Nat))).setCell ⟨w.heap.size + 1 + 1, 1, none⟩ (.int .i64 (d : Nat))).drew (w.heap.size + 1 + 1) #[.int .i64 (a : Nat), .int .i64 (d : Nat)] 23 := box_drewI ((((Wr.set (w.heap.size + 1) 2 _ _).box ((Wr.set (w.heap.size + 1) 1 _ _).box ((Wr.set (w.heap.size + 1) 0 _ _).box HK7.out.b2 (by omega)) (by omega)) (by omega)).set 0 _).set 1 _)
      have hbf : Below w.heap.size w (((((w7.setCell ⟨w.heap.size + 1, 0, none⟩ (.slice A N c)).setCell ⟨w.heap.size + 1, 1, none⟩ (.int .i64 (k2 : Nat))).setCell ⟨w.heap.size + 1, 2, none⟩ (.int .i64 0)).setCell ⟨w.heap.size + 1 + 1, 0, none⟩ (.int .i64 (a : Nat))).setCell ⟨w.heap.size + 1 + 1, 1, none⟩ (.int .i64 (d : Nat))).drew := (((((HK7.out.bel.setCell (p := ⟨w.heap.size + 1, 0, none⟩) (by show w.heap.size ≤ w.heap.size + 1; omega) _).setCell (p := ⟨w.heap.size + 1, 1, none⟩) (by show w.heap.size ≤ w.heap.size + 1; omega) _).setCell (p := ⟨w.heap.size + 1, 2, none⟩) (by show w.heap.size ≤ w.heap.size + 1; omega) _).setCell (p := ⟨w.heap.size + 1 + 1, 0, none⟩) (by show w.heap.size ≤ w.heap.size + 1 + 1; omega) _).setCell (p := ⟨w.heap.size + 1 + 1, 1, none⟩) (by show w.heap.size ≤ w.heap.size + 1 + 1; omega) _).drew
      have HF1 := Lib.hid hf1
      have HF2 := Lib.hid hf2
      have HBF := Lib.hid hbf
      clear hf1 hf2 hbf
      go_wp2
      go_region
      go_wp2
      generalize (((((w7.setCell ⟨w.heap.size + 1, 0, none⟩ (.slice A N c)).setCell ⟨w.heap.size + 1, 1, none⟩ (.int .i64 (k2 : Nat))).setCell ⟨w.heap.size + 1, 2, none⟩ (.int .i64 0)).setCell ⟨w.heap.size + 1 + 1, 0, none⟩ (.int .i64 (a : Nat))).setCell ⟨w.heap.size + 1 + 1, 1, none⟩ (.int .i64 (d : Nat))).drew = wf at *
      have s0 := HF1.out.cell 0
      have s1 := HF1.out.cell 1
      have s2 := HF1.out.cell 2
      have t0 := HF2.out.cell 0
      have t1 := HF2.out.cell 1
      refine bodyPost_ret (v := .tuple #[.agg #[.slice A N c, .int .i64 (k2 : Nat), .int .i64 0], .agg #[.int .i64 (a : Nat), .int .i64 (d : Nat)]]) (by simp [results, Tryz.results11, go_sem, s0, s1, s2, t0, t1]) rfl ⟨?_, HBF.out⟩
      rw [HO.out]
    · have HO : Hid (out = ((k2, EE), ((0 : Int), (0 : Int)))) := HGG.out.trans (by rw [if_neg hE])
      have g2 : (EE != 0) = true := by simpa using hE
      clear HGG hE HB7
      obtain ⟨v0, v1, v2, -, -, -⟩ := H67.out.three
      obtain ⟨u0, u1, u2, f0, f1, f2⟩ := HK7.out.b1.three
      obtain ⟨q0, q1, qf0, qf1⟩ := (show Box w7 (w.heap.size + 1 + 1) _ _ from HK7.out.b2).two
      have hf1 : Box (((((w7.setCell ⟨w.heap.size + 1, 0, none⟩ (.slice A N c)).setCell ⟨w.heap.size + 1, 1, none⟩ (.int .i64 (k2 : Nat))).setCell ⟨w.heap.size + 1, 2, none⟩ (.int .i64 EE)).setCell ⟨w.heap.size + 1 + 1, 0, none⟩ (.int .i64 0)).setCell ⟨w.heap.size + 1 + 1, 1, none⟩ (.int .i64 0)) (w.heap.size + 1) #[.slice A N c, .int .i64 (k2 : Nat), .int .i64 EE] 34 := (Wr.set (w.heap.size + 1 + 1) 1 _ _).box ((Wr.set (w.heap.size + 1 + 1) 0 _ _).box (((HK7.out.b1.set 0 _).set 1 _).set 2 _) (by omega)) (by omega)
      have hf2 : Box (((((w7.setCell ⟨w.heap.size + 1, 0, none⟩ (.slice A N c)).setCell ⟨w.heap.size + 1, 1, none⟩ (.int .i64 (k2 : Nat))).setCell ⟨w.heap.size + 1, 2, none⟩ (.int .i64 EE)).setCell ⟨w.heap.size + 1 + 1, 0, none⟩ (.int .i64 0)).setCell ⟨w.heap.size + 1 + 1, 1, none⟩ (.int .i64 0)) (w.heap.size + 1 + 1) #[.int .i64 0, .int .i64 0] 23 := (((Wr.set (w.heap.size + 1) 2 _ _).box ((Wr.set (w.heap.size + 1) 1 _ _).box ((Wr.set (w.heap.size + 1) 0 _ _).box HK7.out.b2 (by omega)) (by omega)) (by omega)).set 0 _).set 1 _
      have hbf : Below w.heap.size w (((((w7.setCell ⟨w.heap.size + 1, 0, none⟩ (.slice A N c)).setCell ⟨w.heap.size + 1, 1, none⟩ (.int .i64 (k2 : Nat))).setCell ⟨w.heap.size + 1, 2, none⟩ (.int .i64 EE)).setCell ⟨w.heap.size + 1 + 1, 0, none⟩ (.int .i64 0)).setCell ⟨w.heap.size + 1 + 1, 1, none⟩ (.int .i64 0)) := (((((HK7.out.bel.setCell (p := ⟨w.heap.size + 1, 0, none⟩) (by show w.heap.size ≤ w.heap.size + 1; omega) _).setCell (p := ⟨w.heap.size + 1, 1, none⟩) (by show w.heap.size ≤ w.heap.size + 1; omega) _).setCell (p := ⟨w.heap.size + 1, 2, none⟩) (by show w.heap.size ≤ w.heap.size + 1; omega) _).setCell (p := ⟨w.heap.size + 1 + 1, 0, none⟩) (by show w.heap.size ≤ w.heap.size + 1 + 1; omega) _).setCell (p := ⟨w.heap.size + 1 + 1, 1, none⟩) (by show w.heap.size ≤ w.heap.size + 1 + 1; omega) _)
      have HF1 := Lib.hid hf1
      have HF2 := Lib.hid hf2
      have HBF := Lib.hid hbf
      clear hf1 hf2 hbf
      go_wp2
      generalize (((((w7.setCell ⟨w.heap.size + 1, 0, none⟩ (.slice A N c)).setCell ⟨w.heap.size + 1, 1, none⟩ (.int .i64 (k2 : Nat))).setCell ⟨w.heap.size + 1, 2, none⟩ (.int .i64 EE)).setCell ⟨w.heap.size + 1 + 1, 0, none⟩ (.int .i64 0)).setCell ⟨w.heap.size + 1 + 1, 1, none⟩ (.int .i64 0)) = wf at *
      have s0 := HF1.out.cell 0
      have s1 := HF1.out.cell 1
      have s2 := HF1.out.cell 2
      have t0 := HF2.out.cell 0
      have t1 := HF2.out.cell 1
      refine bodyPost_ret (v := .tuple #[.agg #[.slice A N c, .int .i64 (k2 : Nat), .int .i64 EE], .agg #[.int .i64 0, .int .i64 0]]) (by simp [results, Tryz.results11, go_sem, s0, s1, s2, t0, t1]) rfl ⟨?_, HBF.out⟩
      rw [HO.out]
end Go.Proofs.YtpoemflclbhekaaGreat
