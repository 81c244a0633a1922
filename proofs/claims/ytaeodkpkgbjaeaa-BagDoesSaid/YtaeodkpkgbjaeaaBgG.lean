/- Layer 18 (bag): the reference's Add. -/
import Derived.Test.YtaeodkpkgbjaeaaBgF
namespace Go.Proofs.Ytaeodkpkgbjaeaa
open Go.RowKit
set_option linter.unusedVariables false
set_option linter.unusedSimpArgs false

/-- a slice of scores and an error -/
def RefR (A0 : Option Addr) (l : List PQ) (x : Int) (w : World) (e : Ending) (w' : World) : Prop := ∃ A c, e = .returned (.tuple #[.slice A l.length c, .int .i64 x]) ∧ l.length ≤ c ∧ (A = none → c = 0) ∧ LiesS w' w'.heap.size A l ∧ Below w.heap.size w w' ∧ (A = A0 ∨ ∀ ad, A = some ad → w.heap.size ≤ ad.block ∧ ad.block < w'.heap.size)
theorem OwnS.sl {w : World} {B : Nat} {v : Value} {l : List PQ} (h : OwnS w B v l) : ∃ A c, v = .slice A l.length c ∧ l.length ≤ c ∧ (A = none → c = 0) ∧ LiesS w w.heap.size A l ∧ ∀ ad, A = some ad → B ≤ ad.block ∧ ad.block < w.heap.size := by
  have h2 := h
  rcases h.2 with ⟨hv1, h0⟩ | ⟨g, cap, cur, hv1, hbg, hh, hnc, -⟩
  · have h0' : l = [] := List.eq_nil_of_length_eq_zero h0
    subst h0'
    exact ⟨none, 0, hv1, by simp, fun _ => rfl, LiesS.nil, fun _ h => by cases h⟩
  · obtain ⟨A, c, e2, hl⟩ := OwnS.lies h2
    subst hv1
    cases e2
    exact ⟨_, cap, rfl, hnc, (by intro h; cases h), hl, fun ad h => by cases h; exact ⟨hbg, (Array.getElem?_eq_some_iff.1 hh).1⟩⟩
theorem own_emptyR (W : World) : OwnS (W.alloc (.cells #[] 24)) W.heap.size (.slice (some ⟨W.heap.size, 0, none⟩) 0 0) [] :=
  ⟨rfl, .inr ⟨W.heap.size, 0, #[], rfl, Nat.le_refl _, heap_alloc_new W _, Nat.le_refl _, by unfold maxLen; omega, rfl, rfl⟩⟩
set_option maxRecDepth 100000 in
set_option maxHeartbeats 4000000 in
theorem ref_Add18 (A : Option Addr) (l : List PQ) (ca : Nat) (p q : Int) (w : World) (hA : LiesS w w.heap.size A l) (hz : A = none → ca = 0) (hUp : UpS l) (hl : l.length ≤ 4096) (hca : l.length ≤ ca) :
    Calls Try.prog 81 #[.slice A l.length ca, .agg #[.int .i64 p, .int .i64 q]] w (RefR A (addL l (p, q)) (addE l (p, q)) w) := by
  have J0 := Lib.hid ((Keeps.start w).alloc #[.int .i64 p, .int .i64 q] 24)
  obtain ⟨s0, s1, _, _⟩ := J0.out.head.two
  have K1 := Lib.hid (fun W => ref13_is p q W)
  have HSAME : Hid (∀ x W, Below w.heap.size w W → RefR A l x w (.returned (.tuple #[.slice A l.length ca, .int .i64 x])) W) := fun x W hb => ⟨A, ca, rfl, hca, hz, (hA.below hb).mono hb.size, hb, .inl rfl⟩
  by_cases hok : okP (p, q)
  · have hsc : scoB p q = true := decide_eq_true hok
    rw [hsc] at K1
    by_cases h4 : l.length = 4096
    · have e1 : addE l (p, q) = 3 := by unfold addE; rw [if_pos hok, if_pos h4]
      have e2 : addL l (p, q) = l := by unfold addL; rw [if_neg (by omega)]
      rw [e1, e2]
      rw [h4] at HSAME ⊢
      clear hA hUp hok hsc e1 e2 hca hl h4
      go_enter Try.func81, Try.ntmps81
      go_wp2_with fail
      refine (K1.out _).mono ?_
      rintro e w1 ⟨rfl, b1⟩
      have J1 := Lib.hid (J0.out.below b1)
      clear b1 s0 s1
      go_wp2
      go_ret2
      exact HSAME.out _ _ J1.out.2.1
    · have e1 : addE l (p, q) = 0 := by unfold addE; rw [if_pos hok, if_neg h4]
      have e2 : addL l (p, q) = insS l (posK l (p, q)) (p, q) := by unfold addL; rw [if_pos ⟨hok, by omega⟩]
      obtain ⟨pc, hpc⟩ := (hUp.mono2 hok).cut
      have epk : posK l (p, q) = pc := hpc.count
      have HPUT : Hid (∀ k, k ≤ l.length → (∀ j, j < k → oddC (l.getD j pq0).1 (l.getD j pq0).2 p q < 0) → (k < l.length → ¬ oddC (l.getD k pq0).1 (l.getD k pq0).2 p q < 0) → insS l k (p, q) = addL l (p, q)) := fun k h1 h2 h3 => by
        rw [e2, epk]
        exact hUp.ins_ref hok hpc h1 h2 h3
      rw [e1]
      have HOK : Hid (okP (p, q)) := hok
      have HA := Lib.hid hA
      have HU := Lib.hid hUp.ok
      obtain ⟨N, hN⟩ : ∃ N, l.length = N := ⟨_, rfl⟩
      rw [hN] at hl hca h4 HPUT ⊢
      have HN := Lib.hid hN
      have h4i : ¬ (4096 : Int) ≤ (N : Int) := by omega
      clear hA hUp hN hok hsc e1 e2 hpc epk HSAME
      go_enter Try.func81, Try.ntmps81
      go_wp2_with fail
      refine (K1.out _).mono ?_
      rintro e w1 ⟨rfl, b1⟩
      have J1 := Lib.hid (J0.out.below b1)
      have HB1 := Lib.hid J1.out.2.1
      have HX1 := Lib.hid J1.out.head
      clear b1 s0 s1
      go_wp2
      go_loopw [6] (fun iv wr => ∃ i : Nat, iv = .int .i64 i ∧ i ≤ N ∧ Hid (∀ j, j < i → oddC (l.getD j pq0).1 (l.getD j pq0).2 p q < 0) ∧ Hid (Below w.heap.size w wr) ∧ Hid (Box wr w.heap.size #[.int .i64 p, .int .i64 q] 24)) (fun iv _ => N - (intOf iv).toNat)
      case atStart => exact ⟨0, rfl, Nat.zero_le _, fun j h => absurd h (by omega), HB1, HX1⟩
      case round =>
      obtain ⟨i, rfl, hi, HLT, HB, HX⟩ := hrel
      by_cases hlt : i < N
      · have hii : (i : Int) < (N : Int) := by omega
        have d1 : decide ((i : Int) < (N : Int)) = true := decide_eq_true hii
        have hli : i < l.length := by rw [HN.out]; exact hlt
        obtain ⟨ad, rfl, hadb, c0, c1⟩ := (HA.out.below HB.out).at hli
        have HCL : Hid (∀ W, Below w.heap.size w W → W.cell? (ad.add (i * 2)) = some (.int .i64 (l.getD i pq0).1) ∧ W.cell? ⟨(ad.add (i * 2)).block, (ad.add (i * 2)).off + 1, none⟩ = some (.int .i64 (l.getD i pq0).2)) := fun W hb => by
          obtain ⟨ad', eA, _, c0, c1⟩ := (HA.out.below hb).at hli
          cases eA
          exact ⟨c0, c1⟩
        have ho1 := HU.out _ (getD_memS hli)
        have KO := Lib.hid (fun W => ref13_odder (l.getD i pq0).1 (l.getD i pq0).2 p q ho1 HOK.out W)
        clear hadb ho1
        obtain ⟨a, ha⟩ : ∃ a, a = (l.getD i pq0).1 := ⟨_, rfl⟩
        obtain ⟨b, hb⟩ : ∃ b, b = (l.getD i pq0).2 := ⟨_, rfl⟩
        obtain ⟨o, ho⟩ : ∃ o, o = oddC a b p q := ⟨_, rfl⟩
        rw [← ha] at c0 HCL KO
        rw [← hb] at c1 HCL KO
        rw [← ho] at KO
        have HO := Lib.hid (show o = oddC (l.getD i pq0).1 (l.getD i pq0).2 p q by rw [ho, ha, hb])
        clear ha hb ho
        have KO2 : Hid (∀ W, Below wr.heap.size wr W → Calls Try.prog 28 #[.agg #[.int .i64 a, .int .i64 b], .agg #[.int .i64 p, .int .i64 q]] W fun e w' => e = .returned (.int .i64 o) ∧ ((w'.cell? (ad.add (i * 2)) = some (.int .i64 a) ∧ w'.cell? ⟨(ad.add (i * 2)).block, (ad.add (i * 2)).off + 1, none⟩ = some (.int .i64 b)) ∧ (w'.cell? ⟨w.heap.size, 0, none⟩ = some (.int .i64 p) ∧ w'.cell? ⟨w.heap.size, 1, none⟩ = some (.int .i64 q))) ∧ Hid (Below w.heap.size w w' ∧ Box w' w.heap.size #[.int .i64 p, .int .i64 q] 24)) := fun W hW => by
          refine (KO.out W).mono ?_
          rintro e w' ⟨rfl, hb⟩
          have h2 := hW.trans (hb.mono hW.size)
          have hbb := HB.out.trans (h2.mono HB.out.size)
          have hx := HX.out.below h2 HX.out.lt
          exact ⟨rfl, ⟨HCL.out w' hbb, (hx.cell 0).trans rfl, (hx.cell 1).trans rfl⟩, hbb, hx⟩
        obtain ⟨s0, s1, _, _⟩ := HX.out.two
        by_cases hneg : o < 0
        · go_wp2
          go_region_held3 (fun W => (W.cell? (ad.add (i * 2)) = some (.int .i64 a) ∧ W.cell? ⟨(ad.add (i * 2)).block, (ad.add (i * 2)).off + 1, none⟩ = some (.int .i64 b)) ∧ (W.cell? ⟨w.heap.size, 0, none⟩ = some (.int .i64 p) ∧ W.cell? ⟨w.heap.size, 1, none⟩ = some (.int .i64 q))) (go_keep)
            (first | (go_at_call 28; refine Calls.mono (KO2.out _ ?_) ?_; (first | exact Below.refl _ _ | exact (Below.refl _ _).drew | exact below_drewN (Below.refl _ _) _); rintro e w5 ⟨rfl, ⟨⟨c0, c1⟩, s0, s1⟩, HB5⟩))
          go_wp2
          refine ⟨⟨i + 1, by go_num, by omega, fun j hj => ?_, HB5.out.1, HB5.out.2⟩, by simp only [intOf]; omega⟩
          rcases Nat.lt_or_ge j i with g | g
          · exact HLT.out j g
          · obtain rfl : j = i := by omega
            rw [← HO.out]; exact hneg
        · go_wp2
          go_region_held3 (fun W => (W.cell? (ad.add (i * 2)) = some (.int .i64 a) ∧ W.cell? ⟨(ad.add (i * 2)).block, (ad.add (i * 2)).off + 1, none⟩ = some (.int .i64 b)) ∧ (W.cell? ⟨w.heap.size, 0, none⟩ = some (.int .i64 p) ∧ W.cell? ⟨w.heap.size, 1, none⟩ = some (.int .i64 q))) (go_keep)
            (first | (go_at_call 28; refine Calls.mono (KO2.out _ ?_) ?_; (first | exact Below.refl _ _ | exact (Below.refl _ _).drew | exact below_drewN (Below.refl _ _) _); rintro e w5 ⟨rfl, ⟨⟨c0, c1⟩, s0, s1⟩, HB5⟩))
          go_upto_region 8 with fail
          have hal0 : Below w5.heap.size w5 (w5.alloc (.cells #[] 24)) := (Below.refl _ _).alloc (Nat.le_refl _) _
          have O0 := Lib.hid (own_emptyR w5)
          have L0 := Lib.hid (((HA.out.below HB5.out.1).below (B := w.heap.size) (hal0.mono HB5.out.1.size)).take i)
          have HL0 := Lib.hid (show (l.take i).length = i by rw [List.length_take, HN.out]; omega)
          have hal := Lib.hid (show Below w.heap.size w (w5.alloc (.cells #[] 24)) from HB5.out.1.trans (hal0.mono HB5.out.1.size))
          have hX0 := Lib.hid (HB5.out.2.below hal0 HB5.out.2.lt)
          have hWs := Lib.hid (show w5.heap.size ≤ (w5.alloc (.cells #[] 24)).heap.size from hal0.size)
          have hws := Lib.hid (show w.heap.size ≤ w5.heap.size from HB5.out.1.size)
          clear hal0
          go_wp2_with (
            at_builtin
            first
            | (refine app_rowL (B := w5.heap.size) rfl (.tmp 31) (.tmp 34) rfl _ [] (l.take i) ad ca i rfl rfl HL0.out O0.out L0.out hWs.out (by simp; omega) ?_
               intro v1 W1 g1 g2
               have O1 := Lib.hid g1
               have B1 := Lib.hid g2
               clear g1 g2
               have hX1 := Lib.hid (hX0.out.below (g := w.heap.size) (B := w5.heap.size) B1.out HB5.out.2.lt)
               obtain ⟨s0, s1, _, _⟩ := hX1.out.two
               have hB1 := Lib.hid (hal.out.trans (B1.out.mono hws.out))
               have O1' := Lib.hid (O1.out.alloc (.cells #[.int .i64 p, .int .i64 q] 24))
               have L1 : Hid (LiesS (W1.alloc (.cells #[.int .i64 p, .int .i64 q] 24)) (W1.heap.size + 1) (some ⟨W1.heap.size, 0, none⟩) [(p, q)]) := fun h0 => by
                 refine ⟨_, rfl, Nat.lt_succ_self _, fun j hj => ?_⟩
                 have hj0 : j = 0 := by simpa using hj
                 subst hj0
                 have hb := Box.new W1 #[.int .i64 p, .int .i64 q] 24
                 rw [Addr.add_lit, Addr.add_lit, hb.cell, hb.cell]
                 exact ⟨rfl, rfl⟩
               have hal1 := Lib.hid (show Below W1.heap.size W1 (W1.alloc (.cells #[.int .i64 p, .int .i64 q] 24)) from (Below.refl _ _).alloc (Nat.le_refl _) _)
               have hW1s := Lib.hid (show w5.heap.size ≤ (W1.alloc (.cells #[.int .i64 p, .int .i64 q] 24)).heap.size by have := hal1.out.size; have := B1.out.size; have := hWs.out; omega)
               have hB1' := Lib.hid (hB1.out.trans (hal1.out.mono hB1.out.size)))
            | (refine app_rowL (B := w5.heap.size) rfl (.tmp 36) (.tmp 38) rfl _ ([] ++ l.take i) [(p, q)] ⟨W1.heap.size, 0, none⟩ 1 1 rfl rfl rfl O1'.out L1.out hW1s.out (by rw [List.nil_append, HL0.out]; omega) ?_
               intro v2 W2 g1 g2
               have O2 := Lib.hid g1
               have B2 := Lib.hid g2
               clear g1 g2
               have hB2 := Lib.hid (hB1'.out.trans (B2.out.mono hws.out))
               have L2 := Lib.hid ((HA.out.below hB2.out).drop i)
               have HL2 := Lib.hid (show (l.drop i).length = N - i by rw [List.length_drop, HN.out])
               have hW2s := Lib.hid (show w5.heap.size ≤ W2.heap.size by have := B2.out.size; have := hW1s.out; omega))
            | (refine app_rowL (B := w5.heap.size) rfl (.tmp 40) (.tmp 43) rfl _ ([] ++ l.take i ++ [(p, q)]) (l.drop i) _ _ _ rfl rfl HL2.out O2.out L2.out hW2s.out (by rw [List.nil_append, List.length_append, HL0.out]; simp only [List.length_cons, List.length_nil]; omega) ?_
               intro v3 W3 g1 g2
               have O3 := Lib.hid g1
               have B3 := Lib.hid g2
               clear g1 g2
               have hB3 := Lib.hid (hB2.out.trans (B3.out.mono hws.out))))
          have O4 : Hid (OwnS W3 w5.heap.size v3 (addL l (p, q))) := by
            have h := O3.out
            rw [List.nil_append] at h
            rw [show l.take i ++ [(p, q)] ++ l.drop i = addL l (p, q) from HPUT.out i (by omega) HLT.out (fun _ => by rw [← HO.out]; exact hneg)] at h
            exact h
          obtain ⟨A3, c3, rfl, hc3, hz3, hl3, hn3⟩ := O4.out.sl
          refine bodyPost_ret (v := .tuple #[.slice A3 (addL l (p, q)).length c3, .int .i64 0]) ?_ rfl ⟨A3, c3, rfl, hc3, hz3, hl3, hB3.out, .inr fun ad h => ⟨Nat.le_trans hws.out (hn3 ad h).1, (hn3 ad h).2⟩⟩
          simp [results, Try.results81, go_sem]
      · have d1 : decide ((i : Int) < (N : Int)) = false := decide_eq_false (by omega)
        have d2 : decide (i < N) = false := decide_eq_false hlt
        obtain ⟨s0, s1, _, _⟩ := HX.out.two
        rcases A with _ | ad
        · obtain rfl : ca = 0 := hz rfl
          obtain rfl : i = 0 := by omega
          obtain rfl : N = 0 := by omega
          obtain rfl : l = [] := List.eq_nil_of_length_eq_zero HN.out
          go_wp2
          go_quiet (fail)
          go_upto_region 8 with fail
          have HBq := Lib.hid (show Below w.heap.size w (wr.drewN nq) from below_drewN HB.out _)
          have HXq := Lib.hid (HX.out.below (below_drewN (Below.refl wr.heap.size wr) nq) HX.out.lt)
          generalize wr.drewN nq = wq at HBq HXq ⊢
          have hal0 : Below wq.heap.size wq (wq.alloc (.cells #[] 24)) := (Below.refl _ _).alloc (Nat.le_refl _) _
          have O0 := Lib.hid (own_emptyR wq)
          have hal := Lib.hid (show Below w.heap.size w (wq.alloc (.cells #[] 24)) from HBq.out.trans (hal0.mono HBq.out.size))
          have hX0 := Lib.hid (HXq.out.below hal0 HXq.out.lt)
          have hws := Lib.hid (show w.heap.size ≤ wq.heap.size from HBq.out.size)
          have hWs := Lib.hid (show wq.heap.size ≤ (wq.alloc (.cells #[] 24)).heap.size from hal0.size)
          clear hal0
          go_wp2_with (
            at_builtin
            first
            | (refine app_none (B := wq.heap.size) rfl (.tmp 31) (.tmp 34) rfl _ [] rfl O0.out rfl ?_
               generalize wq.alloc (.cells #[] 24) = W1 at O0 hal hX0 hWs ⊢
               obtain ⟨s0, s1, _, _⟩ := hX0.out.two
               have O1 := Lib.hid (O0.out.alloc (.cells #[.int .i64 p, .int .i64 q] 24))
               have L1 : Hid (LiesS (W1.alloc (.cells #[.int .i64 p, .int .i64 q] 24)) (W1.heap.size + 1) (some ⟨W1.heap.size, 0, none⟩) [(p, q)]) := fun h0 => by
                 refine ⟨_, rfl, Nat.lt_succ_self _, fun j hj => ?_⟩
                 have hj0 : j = 0 := by simpa using hj
                 subst hj0
                 have hb := Box.new W1 #[.int .i64 p, .int .i64 q] 24
                 rw [Addr.add_lit, Addr.add_lit, hb.cell, hb.cell]
                 exact ⟨rfl, rfl⟩
               have hal1 := Lib.hid (show Below W1.heap.size W1 (W1.alloc (.cells #[.int .i64 p, .int .i64 q] 24)) from (Below.refl _ _).alloc (Nat.le_refl _) _)
               have hW1s := Lib.hid (show wq.heap.size ≤ (W1.alloc (.cells #[.int .i64 p, .int .i64 q] 24)).heap.size by have := hal1.out.size; have := hWs.out; omega)
               have hB1' := Lib.hid (hal.out.trans (hal1.out.mono hal.out.size)))
            | (refine app_rowL (B := wq.heap.size) rfl (.tmp 36) (.tmp 38) rfl _ [] [(p, q)] ⟨W1.heap.size, 0, none⟩ 1 1 rfl rfl rfl O1.out L1.out hW1s.out (by simp) ?_
               intro v2 W2 g1 g2
               have O2 := Lib.hid g1
               have B2 := Lib.hid g2
               clear g1 g2
               have hB2 := Lib.hid (hB1'.out.trans (B2.out.mono hws.out)))
            | (refine app_none (B := wq.heap.size) rfl (.tmp 40) (.tmp 43) rfl _ ([] ++ [(p, q)]) rfl O2.out rfl ?_))
          have O4 : Hid (OwnS W2 wq.heap.size v2 (addL [] (p, q))) := by
            have h := O2.out
            rw [show ([] : List PQ) ++ [(p, q)] = addL [] (p, q) from HPUT.out 0 (by omega) HLT.out (fun h => absurd h (by omega))] at h
            exact h
          obtain ⟨A3, c3, rfl, hc3, hz3, hl3, hn3⟩ := O4.out.sl
          refine bodyPost_ret (v := .tuple #[.slice A3 (addL [] (p, q)).length c3, .int .i64 0]) ?_ rfl ⟨A3, c3, rfl, hc3, hz3, hl3, hB2.out, .inr fun ad h => ⟨Nat.le_trans hws.out (hn3 ad h).1, (hn3 ad h).2⟩⟩
          simp [results, Try.results81, go_sem]
        · obtain rfl : i = N := by omega
          obtain ⟨ad2, ead⟩ : ∃ ad2, (if ca = i then some ad else some (ad.add (i * 2))) = some ad2 := by split <;> exact ⟨_, rfl⟩
          go_wp2
          go_quiet (fail)
          go_upto_region 8 with fail
          have HBq := Lib.hid (show Below w.heap.size w (wr.drewN nq) from below_drewN HB.out _)
          have HXq := Lib.hid (HX.out.below (below_drewN (Below.refl wr.heap.size wr) nq) HX.out.lt)
          generalize wr.drewN nq = wq at HBq HXq ⊢
          have hal0 : Below wq.heap.size wq (wq.alloc (.cells #[] 24)) := (Below.refl _ _).alloc (Nat.le_refl _) _
          have O0 := Lib.hid (own_emptyR wq)
          have L0 := Lib.hid (((HA.out.below HBq.out).below (B := w.heap.size) (hal0.mono HBq.out.size)).take i)
          have HL0 := Lib.hid (show (l.take i).length = i by rw [List.length_take, HN.out]; omega)
          have hal := Lib.hid (show Below w.heap.size w (wq.alloc (.cells #[] 24)) from HBq.out.trans (hal0.mono HBq.out.size))
          have hX0 := Lib.hid (HXq.out.below hal0 HXq.out.lt)
          have hWs := Lib.hid (show wq.heap.size ≤ (wq.alloc (.cells #[] 24)).heap.size from hal0.size)
          have hws := Lib.hid (show w.heap.size ≤ wq.heap.size from HBq.out.size)
          clear hal0
          go_wp2_with (
            at_builtin
            first
            | (refine app_rowL (B := wq.heap.size) rfl (.tmp 31) (.tmp 34) rfl _ [] (l.take i) ad ca i rfl rfl HL0.out O0.out L0.out hWs.out (by simp; omega) ?_
               intro v1 W1 g1 g2
               have O1 := Lib.hid g1
               have B1 := Lib.hid g2
               clear g1 g2
               have hX1 := Lib.hid (hX0.out.below (g := w.heap.size) (B := wq.heap.size) B1.out HXq.out.lt)
               obtain ⟨s0, s1, _, _⟩ := hX1.out.two
               have hB1 := Lib.hid (hal.out.trans (B1.out.mono hws.out))
               have O1' := Lib.hid (O1.out.alloc (.cells #[.int .i64 p, .int .i64 q] 24))
               have L1 : Hid (LiesS (W1.alloc (.cells #[.int .i64 p, .int .i64 q] 24)) (W1.heap.size + 1) (some ⟨W1.heap.size, 0, none⟩) [(p, q)]) := fun h0 => by
                 refine ⟨_, rfl, Nat.lt_succ_self _, fun j hj => ?_⟩
                 have hj0 : j = 0 := by simpa using hj
                 subst hj0
                 have hb := Box.new W1 #[.int .i64 p, .int .i64 q] 24
                 rw [Addr.add_lit, Addr.add_lit, hb.cell, hb.cell]
                 exact ⟨rfl, rfl⟩
               have hal1 := Lib.hid (show Below W1.heap.size W1 (W1.alloc (.cells #[.int .i64 p, .int .i64 q] 24)) from (Below.refl _ _).alloc (Nat.le_refl _) _)
               have hW1s := Lib.hid (show wq.heap.size ≤ (W1.alloc (.cells #[.int .i64 p, .int .i64 q] 24)).heap.size by have := hal1.out.size; have := B1.out.size; have := hWs.out; omega)
               have hB1' := Lib.hid (hB1.out.trans (hal1.out.mono hB1.out.size)))
            | (refine app_rowL (B := wq.heap.size) rfl (.tmp 36) (.tmp 38) rfl _ ([] ++ l.take i) [(p, q)] ⟨W1.heap.size, 0, none⟩ 1 1 rfl rfl rfl O1'.out L1.out hW1s.out (by rw [List.nil_append, HL0.out]; omega) ?_
               intro v2 W2 g1 g2
               have O2 := Lib.hid g1
               have B2 := Lib.hid g2
               clear g1 g2
               have hB2 := Lib.hid (hB1'.out.trans (B2.out.mono hws.out))
               have L2 := Lib.hid ((HA.out.below hB2.out).drop i)
               have HL2 := Lib.hid (show (l.drop i).length = 0 by rw [List.length_drop, HN.out]; omega)
               have hW2s := Lib.hid (show wq.heap.size ≤ W2.heap.size by have := B2.out.size; have := hW1s.out; omega))
            | (refine app_rowL (B := wq.heap.size) rfl (.tmp 40) (.tmp 43) rfl _ ([] ++ l.take i ++ [(p, q)]) (l.drop i) ad2 _ _ rfl rfl HL2.out O2.out (show LiesS W2 w.heap.size (some ad2) (l.drop i) from fun h0 => absurd h0 (by rw [HL2.out]; exact Nat.lt_irrefl _)) hW2s.out (by rw [List.nil_append, List.length_append, HL0.out]; simp only [List.length_cons, List.length_nil]; omega) ?_
               intro v3 W3 g1 g2
               have O3 := Lib.hid g1
               have B3 := Lib.hid g2
               clear g1 g2
               have hB3 := Lib.hid (hB2.out.trans (B3.out.mono hws.out))))
          have O4 : Hid (OwnS W3 wq.heap.size v3 (addL l (p, q))) := by
            have h := O3.out
            rw [List.nil_append] at h
            rw [show l.take i ++ [(p, q)] ++ l.drop i = addL l (p, q) from HPUT.out i (by omega) HLT.out (fun h => absurd h (Nat.lt_irrefl _))] at h
            exact h
          obtain ⟨A3, c3, rfl, hc3, hz3, hl3, hn3⟩ := O4.out.sl
          refine bodyPost_ret (v := .tuple #[.slice A3 (addL l (p, q)).length c3, .int .i64 0]) ?_ rfl ⟨A3, c3, rfl, hc3, hz3, hl3, hB3.out, .inr fun ad h => ⟨Nat.le_trans hws.out (hn3 ad h).1, (hn3 ad h).2⟩⟩
          simp [results, Try.results81, go_sem]
  · have hsc : scoB p q = false := decide_eq_false hok
    rw [hsc] at K1
    have e1 : addE l (p, q) = 130 := by unfold addE; rw [if_neg hok]
    have e2 : addL l (p, q) = l := by unfold addL; rw [if_neg (fun h => hok h.1)]
    rw [e1, e2]
    clear hA hUp hok hsc e1 e2 hca hl
    generalize l.length = N at *
    go_enter Try.func81, Try.ntmps81
    go_wp2_with fail
    refine (K1.out _).mono ?_
    rintro e w1 ⟨rfl, b1⟩
    have J1 := Lib.hid (J0.out.below b1)
    clear b1 s0 s1
    go_wp2
    go_ret2
    exact HSAME.out _ _ J1.out.2.1
end Go.Proofs.Ytaeodkpkgbjaeaa
