import Derived.Test.YteenemdiokajbaaExpT
import Derived.Test.YteenemdiokajbaaPatL

/-! Layer 16's reference: asked, edge, Room. -/
namespace Go.Proofs.Yteenemdiokajbaa
open Go.RowKit
set_option linter.unusedVariables false
set_option linter.unusedSimpArgs false

def askT (N : List TN) (d : Int) (x : List Int) : Int := if isT N d = true then (if isV x d = true then 0 else 80) else 100
set_option maxRecDepth 100000 in
set_option maxHeartbeats 4000000 in
theorem ref_asked (N : List TN) (d : Int) (A A2 : Option Addr) (x : List Int) (c c2 B : Nat) (w : World) (hl : N.length ≤ 100000) (hA : LiesT w B A N) (hx : Lies w B A2 x) (hB : B ≤ w.heap.size) :
    Calls Try.prog 43 #[.agg #[.int .i64 d, .slice A N.length c], .slice A2 x.length c2] w fun e w' => e = .returned (.int .i64 (askT N d x)) ∧ Below w.heap.size w w' := by
  have HX := Lib.hid ((Kpc.start w).alloc #[.int .i64 d, .slice A N.length c] 24)
  obtain ⟨y0, y1⟩ := box_cut HX.out.head
  have KT : Hid (∀ W (h : Below w.heap.size w W), Calls Try.prog 16 #[.agg #[.int .i64 d, .slice A N.length c]] W fun e w' => e = .returned (.bool (isT N d)) ∧ Below W.heap.size W w') := fun W h => ref_isT N d A c B W hl (hA.below (h.mono hB)) (Nat.le_trans hB h.size)
  have KV : Hid (∀ W (h : Below w.heap.size w W), Calls Try.prog 17 #[.slice A2 x.length c2, .int .i64 d] W fun e w' => e = .returned (.bool (isV x d)) ∧ Below W.heap.size W w') := fun W h => (ref_is A2 x c2 B d W (hx.below (h.mono hB))).mono fun e w' h => ⟨h.1, by rw [← h.2]; exact Below.refl _ _⟩
  unfold askT
  clear hA hx
  cases hT : isT N d with
  | false =>
    rw [hT] at KT
    simp only [Bool.false_eq_true, if_false]
    clear hT KV
    generalize N.length = M at *
    generalize x.length = LX at *
    go_enter Try.func43, Try.ntmps43
    go_wp2_with fail
    refine (KT.out _ HX.out.2.1).mono ?_
    rintro e w1 ⟨rfl, b1⟩
    have J := Lib.hid (HX.out.below b1)
    clear b1 y0 y1
    go_wp2
    go_ret
    exact ⟨rfl, J.out.2.1⟩
  | true =>
    rw [hT] at KT
    simp only [if_true]
    cases hV : isV x d with
    | false =>
      rw [hV] at KV
      simp only [Bool.false_eq_true, if_false]
      clear hT hV
      generalize N.length = M at *
      generalize x.length = LX at *
      go_enter Try.func43, Try.ntmps43
      go_wp2_with fail
      refine (KT.out _ HX.out.2.1).mono ?_
      rintro e w1 ⟨rfl, b1⟩
      have J := Lib.hid (HX.out.below b1)
      clear b1 y0 y1
      obtain ⟨y0, y1⟩ := box_cut J.out.head
      go_wp2_with fail
      refine (KV.out _ J.out.2.1).mono ?_
      rintro e w2 ⟨rfl, b2⟩
      have J2 := Lib.hid (J.out.below b2)
      clear b2 y0 y1
      go_wp2
      go_ret
      exact ⟨rfl, J2.out.2.1⟩
    | true =>
      rw [hV] at KV
      simp only [if_true]
      clear hT hV
      generalize N.length = M at *
      generalize x.length = LX at *
      go_enter Try.func43, Try.ntmps43
      go_wp2_with fail
      refine (KT.out _ HX.out.2.1).mono ?_
      rintro e w1 ⟨rfl, b1⟩
      have J := Lib.hid (HX.out.below b1)
      clear b1 y0 y1
      obtain ⟨y0, y1⟩ := box_cut J.out.head
      go_wp2_with fail
      refine (KV.out _ J.out.2.1).mono ?_
      rintro e w2 ⟨rfl, b2⟩
      have J2 := Lib.hid (J.out.below b2)
      clear b2 y0 y1
      go_wp2
      go_ret
      exact ⟨rfl, J2.out.2.1⟩
theorem len8P {vs : List Value} (h : vs.length = 8) : ∃ z0 z1 z2 z3 z4 z5 z6 z7, vs = [z0, z1, z2, z3, z4, z5, z6, z7] := by
  match vs, h with
  | [z0, z1, z2, z3, z4, z5, z6, z7], _ => exact ⟨_, _, _, _, _, _, _, _, rfl⟩
theorem mid_between {a b : Int} (h : b + 2 ≤ a) : b < Int.tdiv (a + b) 2 ∧ Int.tdiv (a + b) 2 < a := by
  rcases Int.le_total 0 (a + b) with h0 | h0
  · rw [Int.tdiv_eq_ediv_of_nonneg h0]; omega
  · have e : Int.tdiv (a + b) 2 = -((-(a + b)) / 2) := by
      rw [show a + b = -(-(a + b)) from by omega, Int.neg_tdiv, Int.tdiv_eq_ediv_of_nonneg (by omega)]
      congr 1
      omega
    rw [e]; omega
set_option maxRecDepth 100000 in
set_option maxHeartbeats 8000000 in
theorem edge_lo (N : List TN) (d : Int) (A A2 : Option Addr) (x : List Int) (c c2 B j : Nat) (lo hi : Int) (w : World) (hl : N.length ≤ 1000) (h1 : isT N d = true) (h2 : isV x d = true) (hj : j < x.length) (hA : LiesT w B A N) (hx : Lies w B A2 x) (hB : B ≤ w.heap.size)
    (hlo : -2147483648 ≤ lo) (hhi : hi ≤ 2147483647) (ho : lo ≤ x.getD j 0 ∧ x.getD j 0 ≤ hi) (hP : ∀ v, -2147483648 ≤ v ∧ v ≤ 2147483647 → (wayT N x N.length 0 = wayT N (x.set j v) N.length 0 ↔ lo ≤ v ∧ v ≤ hi)) :
    Calls Try.prog 44 #[.agg #[.int .i64 d, .slice A N.length c], .slice A2 x.length c2, .int .i64 j, .int .i64 (-2147483648)] w fun e w' => e = .returned (.int .i64 lo) ∧ Below w.heap.size w w' := by
  have HX := Lib.hid ((Kpc.start w).alloc #[.int .i64 d, .slice A N.length c] 24)
  obtain ⟨y0, y1⟩ := box_cut HX.out.head
  have KA := Lib.hid (fun W (h : Below w.heap.size w W) => ref_above N d A A2 x c c2 B W h1 h2 (hA.below (h.mono hB)) (hx.below (h.mono hB)) (Nat.le_trans hB h.size))
  have h8 := (isV_iff.1 h2).2
  have KW := Lib.hid (fun v W (h : Below w.heap.size w W) => ref_With A2 x c2 B j v W (hx.below (h.mono hB)) hj (by omega))
  have KB := Lib.hid (fun v (hv : -2147483648 ≤ v ∧ v ≤ 2147483647) W A' c' (h : Below w.heap.size w W) (hlx : Lies W W.heap.size A' (x.set j v)) => ref_above N d A A' (x.set j v) c c' W.heap.size W h1 (set_isV h2 j hv) ((hA.below (h.mono hB)).mono (Nat.le_trans hB h.size)) hlx (Nat.le_refl _))
  obtain ⟨XF, hXF⟩ : ∃ XF : Int → List Int, XF = fun v => x.set j v := ⟨_, rfl⟩
  obtain ⟨WF, hWF⟩ : ∃ WF : Int → List Int, WF = fun v => wayT N (x.set j v) N.length 0 := ⟨_, rfl⟩
  have HXF : Hid (∀ v, (XF v).length = x.length) := fun v => by rw [hXF, List.length_set]
  have HWF : Hid (∀ v, (WF v).length ≤ 1001) := fun v => by
    have e2 := way_len (N := N) (x := x.set j v) N.length 0
    have e4 := tst_len (N := N) (x := x.set j v) N.length 0
    rw [hWF]
    simp only
    omega
  have HWL : Hid ((wayT N x N.length 0).length ≤ 1001) := by
    have e1 := way_len (N := N) (x := x) N.length 0
    have e3 := tst_len (N := N) (x := x) N.length 0
    show _ ≤ _
    omega
  have HD : Hid (∀ v, -2147483648 ≤ v ∧ v ≤ 2147483647 → decide (wayT N x N.length 0 = WF v) = decide (lo ≤ v ∧ v ≤ hi)) := fun v hv => by
    rw [hWF, Bool.eq_iff_iff, decide_eq_true_iff, decide_eq_true_iff]
    exact hP v hv
  have KW2 : Hid (∀ v W (h : Below w.heap.size w W), Calls Try.prog 19 #[.slice A2 x.length c2, .int .i64 j, .int .i64 v] W fun e w' => ∃ g c', e = .returned (.slice (some ⟨g, 0, none⟩) x.length c') ∧ x.length ≤ c' ∧ W.heap.size ≤ g ∧ OwnI w' g (XF v) ∧ Below W.heap.size W w') := fun v W h => by
    have := KW.out v W h
    rw [hXF]
    exact this
  have KB2 : Hid (∀ v (hv : -2147483648 ≤ v ∧ v ≤ 2147483647) W A' c' (h : Below w.heap.size w W) (hlx : Lies W W.heap.size A' (XF v)), Calls Try.prog 18 #[.agg #[.int .i64 d, .slice A N.length c], .slice A' x.length c'] W (GivesI (WF v) W)) := fun v hv W A' c' h hlx => by
    rw [hXF] at hlx
    have := KB.out v hv W A' c' h hlx
    rw [List.length_set] at this
    rw [hWF]
    exact this
  unfold GivesI at KA KB2
  obtain ⟨ba, eA2, _, _⟩ := hx (by omega)
  have HXJ : Hid (∀ W (h : Below w.heap.size w W), W.cell? (ba.add j) = some (.int .i64 (x.getD j 0))) := fun W h => by
    obtain ⟨ad', e, _, hc⟩ := (hx.below (h.mono hB)) (by omega)
    rw [eA2] at e
    cases e
    exact hc j hj
  subst eA2
  have hjg : (j : Int) < (x.length : Int) := by omega
  have hxb := get_isV h2 hj
  clear hA hx h1 h2 KW KB hP hXF hWF h8 hj
  generalize wayT N x N.length 0 = W1 at *
  generalize x.getD j 0 = xj at *
  generalize N.length = M at *
  generalize x.length = LX at *
  go_enter Try.func44, Try.ntmps44
  go_wp2_with fail
  refine (KA.out _ HX.out.2.1).mono ?_
  rintro e w1 ⟨A9, c9, rfl, g1, g2, l9, b1⟩
  have J1 := Lib.hid (HX.out.below b1)
  have HW9' := Lib.hid (fun X (h : Below w1.heap.size w1 X) => (l9.below h).mono h.size)
  have HTB' := Lib.hid (fun X (h : Below w1.heap.size w1 X) => box_cut (J1.out.head.below h J1.out.head.lt))
  have HB1 := Lib.hid J1.out.2.1
  have hsz1 := HB1.out.size
  clear b1 y0 y1 l9 KA
  have xj1 := HXJ.out _ HB1.out
  go_wp2
  skip
  have KWe := Lib.hid (KW2.out (-2147483648))
  have KBe := Lib.hid (KB2.out (-2147483648) (by omega))
  refine wp_region_steps (RowJ [some (.slice A9 (W1).length c9), some (.agg #[.int .i64 d, .slice A M c]), some (.slice (some ba) LX c2), some (.int .i64 (j : Int)), some (.int .i64 (-2147483648)), none, none, some (.bool (decide (W1 = WF (-2147483648))))] [none, none, none, none, none, some (XF (-2147483648)), some (WF (-2147483648)), none] w1.heap.size w1)
    [[], [], [], [], [], [2, 3, 4], [1, 5, 5], [0, 6, 6]] (by kernel_rfl) (by kernel_rfl) (by kernel_rfl) (by kernel_rfl) ?_ ?_ ?_ ?_
  · exact RowJ.alike (n := 8) (by simp) (by simp)
  · exact fun vs _ => RowJ.start (Nat.le_refl _) vs
  · refine ⟨?_, ?_, ?_, ?_, ?_, ?_, ?_, ?_, trivial⟩
    all_goals
      intro f vs X hlen hf hp hj K hK
      obtain ⟨z0, z1, z2, z3, z4, z5, z6, z7, rfl⟩ := len8P hlen
      clear hlen
      have HJ := Lib.hid hj
      clear hj
    · rw [if_pos (by rfl)]
      simp only [putAll, Act.put, List.setIfInBounds_toArray, List.set_cons_zero, List.set_cons_succ] at hK ⊢
      go_simp
      refine hK _ X ?_
      exact HJ.out.step (i := 0) (by simp) _ (fun u hu => by simpa using hu) (fun l hl => by simp at hl) (Below.refl _ _)
    · rw [if_pos (by rfl)]
      have mm := HTB'.out X HJ.out.2.1.1
      have m0 := mm.1
      have m1 := mm.2
      clear mm
      simp only [putAll, Act.put, List.setIfInBounds_toArray, List.set_cons_zero, List.set_cons_succ] at hK ⊢
      go_simp
      refine hK _ X ?_
      exact HJ.out.step (i := 1) (by simp) _ (fun u hu => by simpa using hu) (fun l hl => by simp at hl) (Below.refl _ _)
    · rw [if_pos (by rfl)]
      simp only [putAll, Act.put, List.setIfInBounds_toArray, List.set_cons_zero, List.set_cons_succ] at hK ⊢
      go_simp
      refine hK _ X ?_
      exact HJ.out.step (i := 2) (by simp) _ (fun u hu => by simpa using hu) (fun l hl => by simp at hl) (Below.refl _ _)
    · rw [if_pos (by rfl)]
      simp only [putAll, Act.put, List.setIfInBounds_toArray, List.set_cons_zero, List.set_cons_succ] at hK ⊢
      go_simp
      refine hK _ X ?_
      exact HJ.out.step (i := 3) (by simp) _ (fun u hu => by simpa using hu) (fun l hl => by simp at hl) (Below.refl _ _)
    · rw [if_pos (by rfl)]
      simp only [putAll, Act.put, List.setIfInBounds_toArray, List.set_cons_zero, List.set_cons_succ] at hK ⊢
      go_simp
      refine hK _ X ?_
      exact HJ.out.step (i := 4) (by simp) _ (fun u hu => by simpa using hu) (fun l hl => by simp at hl) (Below.refl _ _)
    · rw [if_pos (by rfl)]
      have e2 : z2 = .slice (some ba) LX c2 := HJ.out.1 2 _ (hp 2 (by simp)) rfl
      subst e2
      have e3 : z3 = .int .i64 (j : Int) := HJ.out.1 3 _ (hp 3 (by simp)) rfl
      subst e3
      have e4 : z4 = .int .i64 (-2147483648) := HJ.out.1 4 _ (hp 4 (by simp)) rfl
      subst e4
      simp only [putAll, Act.put, List.setIfInBounds_toArray, List.set_cons_zero, List.set_cons_succ] at hK ⊢
      go_simp
      refine (KWe.out X (HB1.out.trans (HJ.out.2.1.1.mono hsz1))).mono ?_
      rintro e w5 ⟨g5, c5, rfl, h51, h52, o5, b5⟩
      refine hK _ w5 ?_
      exact HJ.out.step (i := 5) (by simp) _ (fun u hu => by simp at hu) (fun l hl => by simp at hl; subst hl; exact ⟨_, c5, by rw [HXF.out], o5.lies⟩) b5
    · rw [if_pos (by rfl)]
      have e1 : z1 = .agg #[.int .i64 d, .slice A M c] := HJ.out.1 1 _ (hp 1 (by simp)) rfl
      subst e1
      obtain ⟨A5', c5', e5, l5⟩ := HJ.out.2.2 5 _ rfl (hp 5 (by simp))
      have e5' : z5 = .slice A5' ((XF (-2147483648))).length c5' := e5
      rw [HXF.out] at e5'
      subst e5'
      clear e5
      simp only [putAll, Act.put, List.setIfInBounds_toArray, List.set_cons_zero, List.set_cons_succ] at hK ⊢
      go_simp
      refine (KBe.out X A5' c5' (HB1.out.trans (HJ.out.2.1.1.mono hsz1)) l5).mono ?_
      rintro e w5 ⟨A6, c6, rfl, h51, h52, l6, b5⟩
      refine hK _ w5 ?_
      exact HJ.out.step (i := 6) (by simp) _ (fun u hu => by simp at hu) (fun l hl => by simp at hl; subst hl; exact ⟨A6, c6, rfl, l6⟩) b5
    · rw [if_pos (by rfl)]
      have e0 : z0 = .slice A9 (W1).length c9 := HJ.out.1 0 _ (hp 0 (by simp)) rfl
      subst e0
      obtain ⟨A6', c6', e6, l6⟩ := HJ.out.2.2 6 _ rfl (hp 6 (by simp))
      have e6' : z6 = .slice A6' ((WF (-2147483648))).length c6' := e6
      subst e6'
      clear e6
      simp only [putAll, Act.put, List.setIfInBounds_toArray, List.set_cons_zero, List.set_cons_succ] at hK ⊢
      go_simp
      refine (ref_same1 A9 A6' W1 (WF (-2147483648)) c9 c6' X.heap.size X (HW9'.out X HJ.out.2.1.1) l6 (by have := HWL.out; omega) (by have := HWF.out (-2147483648); omega)).mono ?_
      rintro e w5 ⟨rfl, n5, rfl⟩
      refine hK _ _ ?_
      exact HJ.out.step (i := 7) (by simp) _ (fun u hu => by simpa using hu) (fun l hl => by simp at hl) (below_drewN2 (Below.refl _ _) n5)
  · intro vs X hl hj
    obtain ⟨z0, z1, z2, z3, z4, z5, z6, z7, rfl⟩ := len8P hl
    have e7 : z7 = .bool (decide (W1 = WF (-2147483648))) := hj.1 7 _ rfl rfl
    subst e7
    have HBX := Lib.hid (HB1.out.trans (hj.2.1.1.mono hsz1))
    simp only [putAll, Act.put, List.setIfInBounds_toArray, List.set_cons_zero, List.set_cons_succ]
    rw [HD.out (-2147483648) (by omega)]
    have hjX := hj.2.1.1
    clear hj
    have HB1X := Lib.hid (show Below w1.heap.size w1 X from hjX)
    by_cases hin : lo ≤ (-2147483648) ∧ (-2147483648) ≤ hi
    · have a3 : decide (lo ≤ (-2147483648) ∧ (-2147483648) ≤ hi) = true := decide_eq_true hin
      rw [a3]
      have hres : (-2147483648) = lo := by omega
      rw [hres]
      go_wp2
      go_ret
      exact ⟨rfl, HBX.out⟩
    · have a3 : decide (lo ≤ (-2147483648) ∧ (-2147483648) ≤ hi) = false := decide_eq_false hin
      rw [a3]
      have hbad : (-2147483648) < lo := by omega
      clear hin a3
      go_wp2
      go_loopw [10, 11] (fun gv bv wr => ∃ good bad : Int, gv = .int .i64 good ∧ bv = .int .i64 bad ∧ (lo ≤ good ∧ good ≤ hi) ∧ (-2147483648 ≤ bad ∧ bad < lo) ∧ Hid (Below w1.heap.size w1 wr)) (fun gv bv _ => (intOf gv - intOf bv).natAbs)
      case atStart => exact ⟨xj, (-2147483648), rfl, rfl, ho, ⟨by omega, hbad⟩, HB1X.out⟩
      case round =>
        obtain ⟨good, bad, rfl, rfl, ⟨hg1, hg2⟩, ⟨hb1, hb2⟩, HB⟩ := hrel
        have HBw := Lib.hid (HB1.out.trans (HB.out.mono hsz1))
        have hszr := HB.out.size
        by_cases hfar : bad + 2 ≤ good
        · have hmid := mid_between (a := good) (b := bad) (by omega)
          have htd : Int.tdiv (good + bad) 2 = Int.tdiv (good + bad) 2 := rfl
          rw [← htd] at hmid
          obtain ⟨hm1, hm2⟩ := hmid
          clear htd
          have gt1 : (1 : Int) < good - bad := by omega
          go_wp2
          generalize Int.tdiv (good + bad) 2 = mid at *
          have KWm := Lib.hid (KW2.out mid)
          have KBm := Lib.hid (KB2.out mid (by omega))
          have HTBr := Lib.hid (fun X (h : Below wr.heap.size wr X) => HTB'.out X (HB.out.trans (h.mono hszr)))
          have HW9r := Lib.hid (fun X (h : Below wr.heap.size wr X) => HW9'.out X (HB.out.trans (h.mono hszr)))
          have hszw := HBw.out.size
          refine wp_region_steps (RowJ [some (.slice A9 (W1).length c9), some (.agg #[.int .i64 d, .slice A M c]), some (.slice (some ba) LX c2), some (.int .i64 (j : Int)), some (.int .i64 mid), none, none, some (.bool (decide (W1 = WF mid)))] [none, none, none, none, none, some (XF mid), some (WF mid), none] wr.heap.size wr)
            [[], [], [], [], [], [2, 3, 4], [1, 5, 5], [0, 6, 6]] (by kernel_rfl) (by kernel_rfl) (by kernel_rfl) (by kernel_rfl) ?_ ?_ ?_ ?_
          · exact RowJ.alike (n := 8) (by simp) (by simp)
          · exact fun vs _ => RowJ.start (Nat.le_refl _) vs
          · refine ⟨?_, ?_, ?_, ?_, ?_, ?_, ?_, ?_, trivial⟩
            all_goals
              intro f vs X hlen hf hp hj K hK
              obtain ⟨z0, z1, z2, z3, z4, z5, z6, z7, rfl⟩ := len8P hlen
              clear hlen
              have HJ := Lib.hid hj
              clear hj
            · rw [if_pos (by rfl)]
              simp only [putAll, Act.put, List.setIfInBounds_toArray, List.set_cons_zero, List.set_cons_succ] at hK ⊢
              go_simp
              refine hK _ X ?_
              exact HJ.out.step (i := 0) (by simp) _ (fun u hu => by simpa using hu) (fun l hl => by simp at hl) (Below.refl _ _)
            · rw [if_pos (by rfl)]
              have mm := HTBr.out X HJ.out.2.1.1
              have m0 := mm.1
              have m1 := mm.2
              clear mm
              simp only [putAll, Act.put, List.setIfInBounds_toArray, List.set_cons_zero, List.set_cons_succ] at hK ⊢
              go_simp
              refine hK _ X ?_
              exact HJ.out.step (i := 1) (by simp) _ (fun u hu => by simpa using hu) (fun l hl => by simp at hl) (Below.refl _ _)
            · rw [if_pos (by rfl)]
              simp only [putAll, Act.put, List.setIfInBounds_toArray, List.set_cons_zero, List.set_cons_succ] at hK ⊢
              go_simp
              refine hK _ X ?_
              exact HJ.out.step (i := 2) (by simp) _ (fun u hu => by simpa using hu) (fun l hl => by simp at hl) (Below.refl _ _)
            · rw [if_pos (by rfl)]
              simp only [putAll, Act.put, List.setIfInBounds_toArray, List.set_cons_zero, List.set_cons_succ] at hK ⊢
              go_simp
              refine hK _ X ?_
              exact HJ.out.step (i := 3) (by simp) _ (fun u hu => by simpa using hu) (fun l hl => by simp at hl) (Below.refl _ _)
            · rw [if_pos (by rfl)]
              simp only [putAll, Act.put, List.setIfInBounds_toArray, List.set_cons_zero, List.set_cons_succ] at hK ⊢
              go_simp
              refine hK _ X ?_
              exact HJ.out.step (i := 4) (by simp) _ (fun u hu => by simpa using hu) (fun l hl => by simp at hl) (Below.refl _ _)
            · rw [if_pos (by rfl)]
              have e2 : z2 = .slice (some ba) LX c2 := HJ.out.1 2 _ (hp 2 (by simp)) rfl
              subst e2
              have e3 : z3 = .int .i64 (j : Int) := HJ.out.1 3 _ (hp 3 (by simp)) rfl
              subst e3
              have e4 : z4 = .int .i64 mid := HJ.out.1 4 _ (hp 4 (by simp)) rfl
              subst e4
              simp only [putAll, Act.put, List.setIfInBounds_toArray, List.set_cons_zero, List.set_cons_succ] at hK ⊢
              go_simp
              refine (KWm.out X (HBw.out.trans (HJ.out.2.1.1.mono hszw))).mono ?_
              rintro e w5 ⟨g5, c5, rfl, h51, h52, o5, b5⟩
              refine hK _ w5 ?_
              exact HJ.out.step (i := 5) (by simp) _ (fun u hu => by simp at hu) (fun l hl => by simp at hl; subst hl; exact ⟨_, c5, by rw [HXF.out], o5.lies⟩) b5
            · rw [if_pos (by rfl)]
              have e1 : z1 = .agg #[.int .i64 d, .slice A M c] := HJ.out.1 1 _ (hp 1 (by simp)) rfl
              subst e1
              obtain ⟨A5', c5', e5, l5⟩ := HJ.out.2.2 5 _ rfl (hp 5 (by simp))
              have e5' : z5 = .slice A5' ((XF mid)).length c5' := e5
              rw [HXF.out] at e5'
              subst e5'
              clear e5
              simp only [putAll, Act.put, List.setIfInBounds_toArray, List.set_cons_zero, List.set_cons_succ] at hK ⊢
              go_simp
              refine (KBm.out X A5' c5' (HBw.out.trans (HJ.out.2.1.1.mono hszw)) l5).mono ?_
              rintro e w5 ⟨A6, c6, rfl, h51, h52, l6, b5⟩
              refine hK _ w5 ?_
              exact HJ.out.step (i := 6) (by simp) _ (fun u hu => by simp at hu) (fun l hl => by simp at hl; subst hl; exact ⟨A6, c6, rfl, l6⟩) b5
            · rw [if_pos (by rfl)]
              have e0 : z0 = .slice A9 (W1).length c9 := HJ.out.1 0 _ (hp 0 (by simp)) rfl
              subst e0
              obtain ⟨A6', c6', e6, l6⟩ := HJ.out.2.2 6 _ rfl (hp 6 (by simp))
              have e6' : z6 = .slice A6' ((WF mid)).length c6' := e6
              subst e6'
              clear e6
              simp only [putAll, Act.put, List.setIfInBounds_toArray, List.set_cons_zero, List.set_cons_succ] at hK ⊢
              go_simp
              refine (ref_same1 A9 A6' W1 (WF mid) c9 c6' X.heap.size X (HW9r.out X HJ.out.2.1.1) l6 (by have := HWL.out; omega) (by have := HWF.out mid; omega)).mono ?_
              rintro e w5 ⟨rfl, n5, rfl⟩
              refine hK _ _ ?_
              exact HJ.out.step (i := 7) (by simp) _ (fun u hu => by simpa using hu) (fun l hl => by simp at hl) (below_drewN2 (Below.refl _ _) n5)
          · intro vs X hl hj
            obtain ⟨z0, z1, z2, z3, z4, z5, z6, z7, rfl⟩ := len8P hl
            have e7 : z7 = .bool (decide (W1 = WF mid)) := hj.1 7 _ rfl rfl
            subst e7
            have HBX := Lib.hid (HBw.out.trans (hj.2.1.1.mono hszw))
            simp only [putAll, Act.put, List.setIfInBounds_toArray, List.set_cons_zero, List.set_cons_succ]
            rw [HD.out mid (by omega)]
            have hjX := hj.2.1.1
            clear hj
            have HBr := Lib.hid (HB.out.trans (Below.mono hjX hszr))
            by_cases hmi : lo ≤ mid ∧ mid ≤ hi
            · have a3 : decide (lo ≤ mid ∧ mid ≤ hi) = true := decide_eq_true hmi
              rw [a3]
              go_wp2
              exact ⟨⟨mid, bad, rfl, rfl, hmi, ⟨by omega, by omega⟩, HBr.out⟩, by simp [intOf]; omega⟩
            · have a3 : decide (lo ≤ mid ∧ mid ≤ hi) = false := decide_eq_false hmi
              rw [a3]
              go_wp2
              exact ⟨⟨good, mid, rfl, rfl, ⟨hg1, hg2⟩, ⟨by omega, by omega⟩, HBr.out⟩, by simp [intOf]; omega⟩
        · have hres : good = lo := by omega
          have gt1 : ¬ (1 : Int) < good - bad := by omega
          have gt2 : ¬ (1 : Int) < bad - good := by omega
          subst hres
          go_wp2
          go_ret
          exact ⟨rfl, HBw.out⟩
set_option maxRecDepth 100000 in
set_option maxHeartbeats 8000000 in
theorem edge_hi (N : List TN) (d : Int) (A A2 : Option Addr) (x : List Int) (c c2 B j : Nat) (lo hi : Int) (w : World) (hl : N.length ≤ 1000) (h1 : isT N d = true) (h2 : isV x d = true) (hj : j < x.length) (hA : LiesT w B A N) (hx : Lies w B A2 x) (hB : B ≤ w.heap.size)
    (hlo : -2147483648 ≤ lo) (hhi : hi ≤ 2147483647) (ho : lo ≤ x.getD j 0 ∧ x.getD j 0 ≤ hi) (hP : ∀ v, -2147483648 ≤ v ∧ v ≤ 2147483647 → (wayT N x N.length 0 = wayT N (x.set j v) N.length 0 ↔ lo ≤ v ∧ v ≤ hi)) :
    Calls Try.prog 44 #[.agg #[.int .i64 d, .slice A N.length c], .slice A2 x.length c2, .int .i64 j, .int .i64 2147483647] w fun e w' => e = .returned (.int .i64 hi) ∧ Below w.heap.size w w' := by
  have HX := Lib.hid ((Kpc.start w).alloc #[.int .i64 d, .slice A N.length c] 24)
  obtain ⟨y0, y1⟩ := box_cut HX.out.head
  have KA := Lib.hid (fun W (h : Below w.heap.size w W) => ref_above N d A A2 x c c2 B W h1 h2 (hA.below (h.mono hB)) (hx.below (h.mono hB)) (Nat.le_trans hB h.size))
  have h8 := (isV_iff.1 h2).2
  have KW := Lib.hid (fun v W (h : Below w.heap.size w W) => ref_With A2 x c2 B j v W (hx.below (h.mono hB)) hj (by omega))
  have KB := Lib.hid (fun v (hv : -2147483648 ≤ v ∧ v ≤ 2147483647) W A' c' (h : Below w.heap.size w W) (hlx : Lies W W.heap.size A' (x.set j v)) => ref_above N d A A' (x.set j v) c c' W.heap.size W h1 (set_isV h2 j hv) ((hA.below (h.mono hB)).mono (Nat.le_trans hB h.size)) hlx (Nat.le_refl _))
  obtain ⟨XF, hXF⟩ : ∃ XF : Int → List Int, XF = fun v => x.set j v := ⟨_, rfl⟩
  obtain ⟨WF, hWF⟩ : ∃ WF : Int → List Int, WF = fun v => wayT N (x.set j v) N.length 0 := ⟨_, rfl⟩
  have HXF : Hid (∀ v, (XF v).length = x.length) := fun v => by rw [hXF, List.length_set]
  have HWF : Hid (∀ v, (WF v).length ≤ 1001) := fun v => by
    have e2 := way_len (N := N) (x := x.set j v) N.length 0
    have e4 := tst_len (N := N) (x := x.set j v) N.length 0
    rw [hWF]
    simp only
    omega
  have HWL : Hid ((wayT N x N.length 0).length ≤ 1001) := by
    have e1 := way_len (N := N) (x := x) N.length 0
    have e3 := tst_len (N := N) (x := x) N.length 0
    show _ ≤ _
    omega
  have HD : Hid (∀ v, -2147483648 ≤ v ∧ v ≤ 2147483647 → decide (wayT N x N.length 0 = WF v) = decide (lo ≤ v ∧ v ≤ hi)) := fun v hv => by
    rw [hWF, Bool.eq_iff_iff, decide_eq_true_iff, decide_eq_true_iff]
    exact hP v hv
  have KW2 : Hid (∀ v W (h : Below w.heap.size w W), Calls Try.prog 19 #[.slice A2 x.length c2, .int .i64 j, .int .i64 v] W fun e w' => ∃ g c', e = .returned (.slice (some ⟨g, 0, none⟩) x.length c') ∧ x.length ≤ c' ∧ W.heap.size ≤ g ∧ OwnI w' g (XF v) ∧ Below W.heap.size W w') := fun v W h => by
    have := KW.out v W h
    rw [hXF]
    exact this
  have KB2 : Hid (∀ v (hv : -2147483648 ≤ v ∧ v ≤ 2147483647) W A' c' (h : Below w.heap.size w W) (hlx : Lies W W.heap.size A' (XF v)), Calls Try.prog 18 #[.agg #[.int .i64 d, .slice A N.length c], .slice A' x.length c'] W (GivesI (WF v) W)) := fun v hv W A' c' h hlx => by
    rw [hXF] at hlx
    have := KB.out v hv W A' c' h hlx
    rw [List.length_set] at this
    rw [hWF]
    exact this
  unfold GivesI at KA KB2
  obtain ⟨ba, eA2, _, _⟩ := hx (by omega)
  have HXJ : Hid (∀ W (h : Below w.heap.size w W), W.cell? (ba.add j) = some (.int .i64 (x.getD j 0))) := fun W h => by
    obtain ⟨ad', e, _, hc⟩ := (hx.below (h.mono hB)) (by omega)
    rw [eA2] at e
    cases e
    exact hc j hj
  subst eA2
  have hjg : (j : Int) < (x.length : Int) := by omega
  have hxb := get_isV h2 hj
  clear hA hx h1 h2 KW KB hP hXF hWF h8 hj
  generalize wayT N x N.length 0 = W1 at *
  generalize x.getD j 0 = xj at *
  generalize N.length = M at *
  generalize x.length = LX at *
  go_enter Try.func44, Try.ntmps44
  go_wp2_with fail
  refine (KA.out _ HX.out.2.1).mono ?_
  rintro e w1 ⟨A9, c9, rfl, g1, g2, l9, b1⟩
  have J1 := Lib.hid (HX.out.below b1)
  have HW9' := Lib.hid (fun X (h : Below w1.heap.size w1 X) => (l9.below h).mono h.size)
  have HTB' := Lib.hid (fun X (h : Below w1.heap.size w1 X) => box_cut (J1.out.head.below h J1.out.head.lt))
  have HB1 := Lib.hid J1.out.2.1
  have hsz1 := HB1.out.size
  clear b1 y0 y1 l9 KA
  have xj1 := HXJ.out _ HB1.out
  go_wp2
  skip
  have KWe := Lib.hid (KW2.out 2147483647)
  have KBe := Lib.hid (KB2.out 2147483647 (by omega))
  refine wp_region_steps (RowJ [some (.slice A9 (W1).length c9), some (.agg #[.int .i64 d, .slice A M c]), some (.slice (some ba) LX c2), some (.int .i64 (j : Int)), some (.int .i64 2147483647), none, none, some (.bool (decide (W1 = WF 2147483647)))] [none, none, none, none, none, some (XF 2147483647), some (WF 2147483647), none] w1.heap.size w1)
    [[], [], [], [], [], [2, 3, 4], [1, 5, 5], [0, 6, 6]] (by kernel_rfl) (by kernel_rfl) (by kernel_rfl) (by kernel_rfl) ?_ ?_ ?_ ?_
  · exact RowJ.alike (n := 8) (by simp) (by simp)
  · exact fun vs _ => RowJ.start (Nat.le_refl _) vs
  · refine ⟨?_, ?_, ?_, ?_, ?_, ?_, ?_, ?_, trivial⟩
    all_goals
      intro f vs X hlen hf hp hj K hK
      obtain ⟨z0, z1, z2, z3, z4, z5, z6, z7, rfl⟩ := len8P hlen
      clear hlen
      have HJ := Lib.hid hj
      clear hj
    · rw [if_pos (by rfl)]
      simp only [putAll, Act.put, List.setIfInBounds_toArray, List.set_cons_zero, List.set_cons_succ] at hK ⊢
      go_simp
      refine hK _ X ?_
      exact HJ.out.step (i := 0) (by simp) _ (fun u hu => by simpa using hu) (fun l hl => by simp at hl) (Below.refl _ _)
    · rw [if_pos (by rfl)]
      have mm := HTB'.out X HJ.out.2.1.1
      have m0 := mm.1
      have m1 := mm.2
      clear mm
      simp only [putAll, Act.put, List.setIfInBounds_toArray, List.set_cons_zero, List.set_cons_succ] at hK ⊢
      go_simp
      refine hK _ X ?_
      exact HJ.out.step (i := 1) (by simp) _ (fun u hu => by simpa using hu) (fun l hl => by simp at hl) (Below.refl _ _)
    · rw [if_pos (by rfl)]
      simp only [putAll, Act.put, List.setIfInBounds_toArray, List.set_cons_zero, List.set_cons_succ] at hK ⊢
      go_simp
      refine hK _ X ?_
      exact HJ.out.step (i := 2) (by simp) _ (fun u hu => by simpa using hu) (fun l hl => by simp at hl) (Below.refl _ _)
    · rw [if_pos (by rfl)]
      simp only [putAll, Act.put, List.setIfInBounds_toArray, List.set_cons_zero, List.set_cons_succ] at hK ⊢
      go_simp
      refine hK _ X ?_
      exact HJ.out.step (i := 3) (by simp) _ (fun u hu => by simpa using hu) (fun l hl => by simp at hl) (Below.refl _ _)
    · rw [if_pos (by rfl)]
      simp only [putAll, Act.put, List.setIfInBounds_toArray, List.set_cons_zero, List.set_cons_succ] at hK ⊢
      go_simp
      refine hK _ X ?_
      exact HJ.out.step (i := 4) (by simp) _ (fun u hu => by simpa using hu) (fun l hl => by simp at hl) (Below.refl _ _)
    · rw [if_pos (by rfl)]
      have e2 : z2 = .slice (some ba) LX c2 := HJ.out.1 2 _ (hp 2 (by simp)) rfl
      subst e2
      have e3 : z3 = .int .i64 (j : Int) := HJ.out.1 3 _ (hp 3 (by simp)) rfl
      subst e3
      have e4 : z4 = .int .i64 2147483647 := HJ.out.1 4 _ (hp 4 (by simp)) rfl
      subst e4
      simp only [putAll, Act.put, List.setIfInBounds_toArray, List.set_cons_zero, List.set_cons_succ] at hK ⊢
      go_simp
      refine (KWe.out X (HB1.out.trans (HJ.out.2.1.1.mono hsz1))).mono ?_
      rintro e w5 ⟨g5, c5, rfl, h51, h52, o5, b5⟩
      refine hK _ w5 ?_
      exact HJ.out.step (i := 5) (by simp) _ (fun u hu => by simp at hu) (fun l hl => by simp at hl; subst hl; exact ⟨_, c5, by rw [HXF.out], o5.lies⟩) b5
    · rw [if_pos (by rfl)]
      have e1 : z1 = .agg #[.int .i64 d, .slice A M c] := HJ.out.1 1 _ (hp 1 (by simp)) rfl
      subst e1
      obtain ⟨A5', c5', e5, l5⟩ := HJ.out.2.2 5 _ rfl (hp 5 (by simp))
      have e5' : z5 = .slice A5' ((XF 2147483647)).length c5' := e5
      rw [HXF.out] at e5'
      subst e5'
      clear e5
      simp only [putAll, Act.put, List.setIfInBounds_toArray, List.set_cons_zero, List.set_cons_succ] at hK ⊢
      go_simp
      refine (KBe.out X A5' c5' (HB1.out.trans (HJ.out.2.1.1.mono hsz1)) l5).mono ?_
      rintro e w5 ⟨A6, c6, rfl, h51, h52, l6, b5⟩
      refine hK _ w5 ?_
      exact HJ.out.step (i := 6) (by simp) _ (fun u hu => by simp at hu) (fun l hl => by simp at hl; subst hl; exact ⟨A6, c6, rfl, l6⟩) b5
    · rw [if_pos (by rfl)]
      have e0 : z0 = .slice A9 (W1).length c9 := HJ.out.1 0 _ (hp 0 (by simp)) rfl
      subst e0
      obtain ⟨A6', c6', e6, l6⟩ := HJ.out.2.2 6 _ rfl (hp 6 (by simp))
      have e6' : z6 = .slice A6' ((WF 2147483647)).length c6' := e6
      subst e6'
      clear e6
      simp only [putAll, Act.put, List.setIfInBounds_toArray, List.set_cons_zero, List.set_cons_succ] at hK ⊢
      go_simp
      refine (ref_same1 A9 A6' W1 (WF 2147483647) c9 c6' X.heap.size X (HW9'.out X HJ.out.2.1.1) l6 (by have := HWL.out; omega) (by have := HWF.out 2147483647; omega)).mono ?_
      rintro e w5 ⟨rfl, n5, rfl⟩
      refine hK _ _ ?_
      exact HJ.out.step (i := 7) (by simp) _ (fun u hu => by simpa using hu) (fun l hl => by simp at hl) (below_drewN2 (Below.refl _ _) n5)
  · intro vs X hl hj
    obtain ⟨z0, z1, z2, z3, z4, z5, z6, z7, rfl⟩ := len8P hl
    have e7 : z7 = .bool (decide (W1 = WF 2147483647)) := hj.1 7 _ rfl rfl
    subst e7
    have HBX := Lib.hid (HB1.out.trans (hj.2.1.1.mono hsz1))
    simp only [putAll, Act.put, List.setIfInBounds_toArray, List.set_cons_zero, List.set_cons_succ]
    rw [HD.out 2147483647 (by omega)]
    have hjX := hj.2.1.1
    clear hj
    have HB1X := Lib.hid (show Below w1.heap.size w1 X from hjX)
    by_cases hin : lo ≤ 2147483647 ∧ 2147483647 ≤ hi
    · have a3 : decide (lo ≤ 2147483647 ∧ 2147483647 ≤ hi) = true := decide_eq_true hin
      rw [a3]
      have hres : 2147483647 = hi := by omega
      rw [hres]
      go_wp2
      go_ret
      exact ⟨rfl, HBX.out⟩
    · have a3 : decide (lo ≤ 2147483647 ∧ 2147483647 ≤ hi) = false := decide_eq_false hin
      rw [a3]
      have hbad : hi < 2147483647 := by omega
      clear hin a3
      go_wp2
      go_loopw [10, 11] (fun gv bv wr => ∃ good bad : Int, gv = .int .i64 good ∧ bv = .int .i64 bad ∧ (lo ≤ good ∧ good ≤ hi) ∧ (hi < bad ∧ bad ≤ 2147483647) ∧ Hid (Below w1.heap.size w1 wr)) (fun gv bv _ => (intOf gv - intOf bv).natAbs)
      case atStart => exact ⟨xj, 2147483647, rfl, rfl, ho, ⟨hbad, by omega⟩, HB1X.out⟩
      case round =>
        obtain ⟨good, bad, rfl, rfl, ⟨hg1, hg2⟩, ⟨hb1, hb2⟩, HB⟩ := hrel
        have HBw := Lib.hid (HB1.out.trans (HB.out.mono hsz1))
        have hszr := HB.out.size
        by_cases hfar : good + 2 ≤ bad
        · have hmid := mid_between (a := bad) (b := good) (by omega)
          have htd : Int.tdiv (good + bad) 2 = Int.tdiv (bad + good) 2 := by rw [Int.add_comm]
          rw [← htd] at hmid
          obtain ⟨hm1, hm2⟩ := hmid
          clear htd
          have gt1 : ¬ (1 : Int) < good - bad := by omega
          have gt2 : (1 : Int) < bad - good := by omega
          go_wp2
          generalize Int.tdiv (good + bad) 2 = mid at *
          have KWm := Lib.hid (KW2.out mid)
          have KBm := Lib.hid (KB2.out mid (by omega))
          have HTBr := Lib.hid (fun X (h : Below wr.heap.size wr X) => HTB'.out X (HB.out.trans (h.mono hszr)))
          have HW9r := Lib.hid (fun X (h : Below wr.heap.size wr X) => HW9'.out X (HB.out.trans (h.mono hszr)))
          have hszw := HBw.out.size
          refine wp_region_steps (RowJ [some (.slice A9 (W1).length c9), some (.agg #[.int .i64 d, .slice A M c]), some (.slice (some ba) LX c2), some (.int .i64 (j : Int)), some (.int .i64 mid), none, none, some (.bool (decide (W1 = WF mid)))] [none, none, none, none, none, some (XF mid), some (WF mid), none] wr.heap.size wr)
            [[], [], [], [], [], [2, 3, 4], [1, 5, 5], [0, 6, 6]] (by kernel_rfl) (by kernel_rfl) (by kernel_rfl) (by kernel_rfl) ?_ ?_ ?_ ?_
          · exact RowJ.alike (n := 8) (by simp) (by simp)
          · exact fun vs _ => RowJ.start (Nat.le_refl _) vs
          · refine ⟨?_, ?_, ?_, ?_, ?_, ?_, ?_, ?_, trivial⟩
            all_goals
              intro f vs X hlen hf hp hj K hK
              obtain ⟨z0, z1, z2, z3, z4, z5, z6, z7, rfl⟩ := len8P hlen
              clear hlen
              have HJ := Lib.hid hj
              clear hj
            · rw [if_pos (by rfl)]
              simp only [putAll, Act.put, List.setIfInBounds_toArray, List.set_cons_zero, List.set_cons_succ] at hK ⊢
              go_simp
              refine hK _ X ?_
              exact HJ.out.step (i := 0) (by simp) _ (fun u hu => by simpa using hu) (fun l hl => by simp at hl) (Below.refl _ _)
            · rw [if_pos (by rfl)]
              have mm := HTBr.out X HJ.out.2.1.1
              have m0 := mm.1
              have m1 := mm.2
              clear mm
              simp only [putAll, Act.put, List.setIfInBounds_toArray, List.set_cons_zero, List.set_cons_succ] at hK ⊢
              go_simp
              refine hK _ X ?_
              exact HJ.out.step (i := 1) (by simp) _ (fun u hu => by simpa using hu) (fun l hl => by simp at hl) (Below.refl _ _)
            · rw [if_pos (by rfl)]
              simp only [putAll, Act.put, List.setIfInBounds_toArray, List.set_cons_zero, List.set_cons_succ] at hK ⊢
              go_simp
              refine hK _ X ?_
              exact HJ.out.step (i := 2) (by simp) _ (fun u hu => by simpa using hu) (fun l hl => by simp at hl) (Below.refl _ _)
            · rw [if_pos (by rfl)]
              simp only [putAll, Act.put, List.setIfInBounds_toArray, List.set_cons_zero, List.set_cons_succ] at hK ⊢
              go_simp
              refine hK _ X ?_
              exact HJ.out.step (i := 3) (by simp) _ (fun u hu => by simpa using hu) (fun l hl => by simp at hl) (Below.refl _ _)
            · rw [if_pos (by rfl)]
              simp only [putAll, Act.put, List.setIfInBounds_toArray, List.set_cons_zero, List.set_cons_succ] at hK ⊢
              go_simp
              refine hK _ X ?_
              exact HJ.out.step (i := 4) (by simp) _ (fun u hu => by simpa using hu) (fun l hl => by simp at hl) (Below.refl _ _)
            · rw [if_pos (by rfl)]
              have e2 : z2 = .slice (some ba) LX c2 := HJ.out.1 2 _ (hp 2 (by simp)) rfl
              subst e2
              have e3 : z3 = .int .i64 (j : Int) := HJ.out.1 3 _ (hp 3 (by simp)) rfl
              subst e3
              have e4 : z4 = .int .i64 mid := HJ.out.1 4 _ (hp 4 (by simp)) rfl
              subst e4
              simp only [putAll, Act.put, List.setIfInBounds_toArray, List.set_cons_zero, List.set_cons_succ] at hK ⊢
              go_simp
              refine (KWm.out X (HBw.out.trans (HJ.out.2.1.1.mono hszw))).mono ?_
              rintro e w5 ⟨g5, c5, rfl, h51, h52, o5, b5⟩
              refine hK _ w5 ?_
              exact HJ.out.step (i := 5) (by simp) _ (fun u hu => by simp at hu) (fun l hl => by simp at hl; subst hl; exact ⟨_, c5, by rw [HXF.out], o5.lies⟩) b5
            · rw [if_pos (by rfl)]
              have e1 : z1 = .agg #[.int .i64 d, .slice A M c] := HJ.out.1 1 _ (hp 1 (by simp)) rfl
              subst e1
              obtain ⟨A5', c5', e5, l5⟩ := HJ.out.2.2 5 _ rfl (hp 5 (by simp))
              have e5' : z5 = .slice A5' ((XF mid)).length c5' := e5
              rw [HXF.out] at e5'
              subst e5'
              clear e5
              simp only [putAll, Act.put, List.setIfInBounds_toArray, List.set_cons_zero, List.set_cons_succ] at hK ⊢
              go_simp
              refine (KBm.out X A5' c5' (HBw.out.trans (HJ.out.2.1.1.mono hszw)) l5).mono ?_
              rintro e w5 ⟨A6, c6, rfl, h51, h52, l6, b5⟩
              refine hK _ w5 ?_
              exact HJ.out.step (i := 6) (by simp) _ (fun u hu => by simp at hu) (fun l hl => by simp at hl; subst hl; exact ⟨A6, c6, rfl, l6⟩) b5
            · rw [if_pos (by rfl)]
              have e0 : z0 = .slice A9 (W1).length c9 := HJ.out.1 0 _ (hp 0 (by simp)) rfl
              subst e0
              obtain ⟨A6', c6', e6, l6⟩ := HJ.out.2.2 6 _ rfl (hp 6 (by simp))
              have e6' : z6 = .slice A6' ((WF mid)).length c6' := e6
              subst e6'
              clear e6
              simp only [putAll, Act.put, List.setIfInBounds_toArray, List.set_cons_zero, List.set_cons_succ] at hK ⊢
              go_simp
              refine (ref_same1 A9 A6' W1 (WF mid) c9 c6' X.heap.size X (HW9r.out X HJ.out.2.1.1) l6 (by have := HWL.out; omega) (by have := HWF.out mid; omega)).mono ?_
              rintro e w5 ⟨rfl, n5, rfl⟩
              refine hK _ _ ?_
              exact HJ.out.step (i := 7) (by simp) _ (fun u hu => by simpa using hu) (fun l hl => by simp at hl) (below_drewN2 (Below.refl _ _) n5)
          · intro vs X hl hj
            obtain ⟨z0, z1, z2, z3, z4, z5, z6, z7, rfl⟩ := len8P hl
            have e7 : z7 = .bool (decide (W1 = WF mid)) := hj.1 7 _ rfl rfl
            subst e7
            have HBX := Lib.hid (HBw.out.trans (hj.2.1.1.mono hszw))
            simp only [putAll, Act.put, List.setIfInBounds_toArray, List.set_cons_zero, List.set_cons_succ]
            rw [HD.out mid (by omega)]
            have hjX := hj.2.1.1
            clear hj
            have HBr := Lib.hid (HB.out.trans (Below.mono hjX hszr))
            by_cases hmi : lo ≤ mid ∧ mid ≤ hi
            · have a3 : decide (lo ≤ mid ∧ mid ≤ hi) = true := decide_eq_true hmi
              rw [a3]
              go_wp2
              exact ⟨⟨mid, bad, rfl, rfl, hmi, ⟨by omega, by omega⟩, HBr.out⟩, by simp [intOf]; omega⟩
            · have a3 : decide (lo ≤ mid ∧ mid ≤ hi) = false := decide_eq_false hmi
              rw [a3]
              go_wp2
              exact ⟨⟨good, mid, rfl, rfl, ⟨hg1, hg2⟩, ⟨by omega, by omega⟩, HBr.out⟩, by simp [intOf]; omega⟩
        · have hres : good = hi := by omega
          have gt1 : ¬ (1 : Int) < good - bad := by omega
          have gt2 : ¬ (1 : Int) < bad - good := by omega
          subst hres
          go_wp2
          go_ret
          exact ⟨rfl, HBw.out⟩
end Go.Proofs.Yteenemdiokajbaa
