/- ExpI ExpK ExpL ExpN -/
import Derived.Test.YteenemdiokajbaaExpT
import Derived.Test.YteenemdiokajbaaPatL
import Derived.Test.YteenemdiokajbaaPatM
import Derived.Test.YteenemdiokajbaaTreeU
/-! Layer 16's reference: asked, edge, Room. -/
namespace Go.Proofs.Yteenemdiokajbaa
open Go.RowKit
set_option linter.unusedVariables false
set_option linter.unusedSimpArgs false

def askT (N : List TN) (d : Int) (x : List Int) : Int := if isT N d = true then (if isV x d = true then 0 else 80) else 100
set_option maxRecDepth 100000 in
set_option maxHeartbeats 4000000 in
theorem ref_asked (N : List TN) (d : Int) (A A2 : Option Addr) (x : List Int) (c c2 B : Nat) (w : World) (hl : N.length ≤ 100000) (hA : LiesT w B A N) (hx : Lies w B A2 x) (hB : B ≤ w.heap.size) :
    Calls Try.prog 43 #[.agg #[.int .i64 d, .slice A N.length c], .slice A2 x.length c2] w fun e w' => e = .returned (.int .i64 (askT N d x)) ∧ Below w.heap.size w w' := by
  have HX := Lib.hid ((Kpc.start w).alloc #[.int .i64 d, .slice A N.length c] 24)
  obtain ⟨y0, y1⟩ := box_cut HX.out.head
  have KT : Hid (∀ W (h : Below w.heap.size w W), Calls Try.prog 16 #[.agg #[.int .i64 d, .slice A N.length c]] W fun e w' => e = .returned (.bool (isT N d)) ∧ Below W.heap.size W w') := fun W h => ref_isT N d A c B W hl (hA.below (h.mono hB)) (Nat.le_trans hB h.size)
  have KV : Hid (∀ W (h : Below w.heap.size w W), Calls Try.prog 17 #[.slice A2 x.length c2, .int .i64 d] W fun e w' => e = .returned (.bool (isV x d)) ∧ Below W.heap.size W w') := fun W h => (ref_is A2 x c2 B d W (hx.below (h.mono hB))).mono fun e w' h => ⟨h.1, by rw [← h.2]; exact Below.refl _ _⟩
  unfold askT
  clear hA hx
  cases hT : isT N d with
  | false =>
    rw [hT] at KT
    simp only [Bool.false_eq_true, if_false]
    clear hT KV
    generalize N.length = M at *
    generalize x.length = LX at *
    go_enter Try.func43, Try.ntmps43
    go_wp2_with fail
    refine (KT.out _ HX.out.2.1).mono ?_
    rintro e w1 ⟨rfl, b1⟩
    have J := Lib.hid (HX.out.below b1)
    clear b1 y0 y1
    go_wp2
    go_ret
    exact ⟨rfl, J.out.2.1⟩
  | true =>
    rw [hT] at KT
    simp only [if_true]
    cases hV : isV x d with
    | false =>
      rw [hV] at KV
      simp only [Bool.false_eq_true, if_false]
      clear hT hV
      generalize N.length = M at *
      generalize x.length = LX at *
      go_enter Try.func43, Try.ntmps43
      go_wp2_with fail
      refine (KT.out _ HX.out.2.1).mono ?_
      rintro e w1 ⟨rfl, b1⟩
      have J := Lib.hid (HX.out.below b1)
      clear b1 y0 y1
      obtain ⟨y0, y1⟩ := box_cut J.out.head
      go_wp2_with fail
      refine (KV.out _ J.out.2.1).mono ?_
      rintro e w2 ⟨rfl, b2⟩
      have J2 := Lib.hid (J.out.below b2)
      clear b2 y0 y1
      go_wp2
      go_ret
      exact ⟨rfl, J2.out.2.1⟩
    | true =>
      rw [hV] at KV
      simp only [if_true]
      clear hT hV
      generalize N.length = M at *
      generalize x.length = LX at *
      go_enter Try.func43, Try.ntmps43
      go_wp2_with fail
      refine (KT.out _ HX.out.2.1).mono ?_
      rintro e w1 ⟨rfl, b1⟩
      have J := Lib.hid (HX.out.below b1)
      clear b1 y0 y1
      obtain ⟨y0, y1⟩ := box_cut J.out.head
      go_wp2_with fail
      refine (KV.out _ J.out.2.1).mono ?_
      rintro e w2 ⟨rfl, b2⟩
      have J2 := Lib.hid (J.out.below b2)
      clear b2 y0 y1
      go_wp2
      go_ret
      exact ⟨rfl, J2.out.2.1⟩
theorem len8P {vs : List Value} (h : vs.length = 8) : ∃ z0 z1 z2 z3 z4 z5 z6 z7, vs = [z0, z1, z2, z3, z4, z5, z6, z7] := by
  match vs, h with
  | [z0, z1, z2, z3, z4, z5, z6, z7], _ => exact ⟨_, _, _, _, _, _, _, _, rfl⟩
theorem mid_between {a b : Int} (h : b + 2 ≤ a) : b < Int.tdiv (a + b) 2 ∧ Int.tdiv (a + b) 2 < a := by
  rcases Int.le_total 0 (a + b) with h0 | h0
  · rw [Int.tdiv_eq_ediv_of_nonneg h0]; omega
  · have e : Int.tdiv (a + b) 2 = -((-(a + b)) / 2) := by
      rw [show a + b = -(-(a + b)) from by omega, Int.neg_tdiv, Int.tdiv_eq_ediv_of_nonneg (by omega)]
      congr 1
      omega
    rw [e]; omega
set_option maxRecDepth 100000 in
set_option maxHeartbeats 8000000 in
theorem edge_lo (N : List TN) (d : Int) (A A2 : Option Addr) (x : List Int) (c c2 B j : Nat) (lo hi : Int) (w : World) (hl : N.length ≤ 1000) (h1 : isT N d = true) (h2 : isV x d = true) (hj : j < x.length) (hA : LiesT w B A N) (hx : Lies w B A2 x) (hB : B ≤ w.heap.size)
    (hlo : -2147483648 ≤ lo) (hhi : hi ≤ 2147483647) (ho : lo ≤ x.getD j 0 ∧ x.getD j 0 ≤ hi) (hP : ∀ v, -2147483648 ≤ v ∧ v ≤ 2147483647 → (wayT N x N.length 0 = wayT N (x.set j v) N.length 0 ↔ lo ≤ v ∧ v ≤ hi)) :
    Calls Try.prog 44 #[.agg #[.int .i64 d, .slice A N.length c], .slice A2 x.length c2, .int .i64 j, .int .i64 (-2147483648)] w fun e w' => e = .returned (.int .i64 lo) ∧ Below w.heap.size w w' := by
  have HX := Lib.hid ((Kpc.start w).alloc #[.int .i64 d, .slice A N.length c] 24)
  obtain ⟨y0, y1⟩ := box_cut HX.out.head
  have KA := Lib.hid (fun W (h : Below w.heap.size w W) => ref_above N d A A2 x c c2 B W h1 h2 (hA.below (h.mono hB)) (hx.below (h.mono hB)) (Nat.le_trans hB h.size))
  have h8 := (isV_iff.1 h2).2
  have KW := Lib.hid (fun v W (h : Below w.heap.size w W) => ref_With A2 x c2 B j v W (hx.below (h.mono hB)) hj (by omega))
  have KB := Lib.hid (fun v (hv : -2147483648 ≤ v ∧ v ≤ 2147483647) W A' c' (h : Below w.heap.size w W) (hlx : Lies W W.heap.size A' (x.set j v)) => ref_above N d A A' (x.set j v) c c' W.heap.size W h1 (set_isV h2 j hv) ((hA.below (h.mono hB)).mono (Nat.le_trans hB h.size)) hlx (Nat.le_refl _))
  obtain ⟨XF, hXF⟩ : ∃ XF : Int → List Int, XF = fun v => x.set j v := ⟨_, rfl⟩
  obtain ⟨WF, hWF⟩ : ∃ WF : Int → List Int, WF = fun v => wayT N (x.set j v) N.length 0 := ⟨_, rfl⟩
  have HXF : Hid (∀ v, (XF v).length = x.length) := fun v => by rw [hXF, List.length_set]
  have HWF : Hid (∀ v, (WF v).length ≤ 1001) := fun v => by
    have e2 := way_len (N := N) (x := x.set j v) N.length 0
    have e4 := tst_len (N := N) (x := x.set j v) N.length 0
    rw [hWF]
    simp only
    omega
  have HWL : Hid ((wayT N x N.length 0).length ≤ 1001) := by
    have e1 := way_len (N := N) (x := x) N.length 0
    have e3 := tst_len (N := N) (x := x) N.length 0
    show _ ≤ _
    omega
  have HD : Hid (∀ v, -2147483648 ≤ v ∧ v ≤ 2147483647 → decide (wayT N x N.length 0 = WF v) = decide (lo ≤ v ∧ v ≤ hi)) := fun v hv => by
    rw [hWF, Bool.eq_iff_iff, decide_eq_true_iff, decide_eq_true_iff]
    exact hP v hv
  have KW2 : Hid (∀ v W (h : Below w.heap.size w W), Calls Try.prog 19 #[.slice A2 x.length c2, .int .i64 j, .int .i64 v] W fun e w' => ∃ g c', e = .returned (.slice (some ⟨g, 0, none⟩) x.length c') ∧ x.length ≤ c' ∧ W.heap.size ≤ g ∧ OwnI w' g (XF v) ∧ Below W.heap.size W w') := fun v W h => by
    have := KW.out v W h
    rw [hXF]
    exact this
  have KB2 : Hid (∀ v (hv : -2147483648 ≤ v ∧ v ≤ 2147483647) W A' c' (h : Below w.heap.size w W) (hlx : Lies W W.heap.size A' (XF v)), Calls Try.prog 18 #[.agg #[.int .i64 d, .slice A N.length c], .slice A' x.length c'] W (GivesI (WF v) W)) := fun v hv W A' c' h hlx => by
    rw [hXF] at hlx
    have := KB.out v hv W A' c' h hlx
    rw [List.length_set] at this
    rw [hWF]
    exact this
  unfold GivesI at KA KB2
  obtain ⟨ba, eA2, _, _⟩ := hx (by omega)
  have HXJ : Hid (∀ W (h : Below w.heap.size w W), W.cell? (ba.add j) = some (.int .i64 (x.getD j 0))) := fun W h => by
    obtain ⟨ad', e, _, hc⟩ := (hx.below (h.mono hB)) (by omega)
    rw [eA2] at e
    cases e
    exact hc j hj
  subst eA2
  have hjg : (j : Int) < (x.length : Int) := by omega
  have hxb := get_isV h2 hj
  clear hA hx h1 h2 KW KB hP hXF hWF h8 hj
  generalize wayT N x N.length 0 = W1 at *
  generalize x.getD j 0 = xj at *
  generalize N.length = M at *
  generalize x.length = LX at *
  go_enter Try.func44, Try.ntmps44
  go_wp2_with fail
  refine (KA.out _ HX.out.2.1).mono ?_
  rintro e w1 ⟨A9, c9, rfl, g1, g2, l9, b1⟩
  have J1 := Lib.hid (HX.out.below b1)
  have HW9' := Lib.hid (fun X (h : Below w1.heap.size w1 X) => (l9.below h).mono h.size)
  have HTB' := Lib.hid (fun X (h : Below w1.heap.size w1 X) => box_cut (J1.out.head.below h J1.out.head.lt))
  have HB1 := Lib.hid J1.out.2.1
  have hsz1 := HB1.out.size
  clear b1 y0 y1 l9 KA
  have xj1 := HXJ.out _ HB1.out
  go_wp2
  skip
  have KWe := Lib.hid (KW2.out (-2147483648))
  have KBe := Lib.hid (KB2.out (-2147483648) (by omega))
  refine wp_region_steps (RowJ [some (.slice A9 (W1).length c9), some (.agg #[.int .i64 d, .slice A M c]), some (.slice (some ba) LX c2), some (.int .i64 (j : Int)), some (.int .i64 (-2147483648)), none, none, some (.bool (decide (W1 = WF (-2147483648))))] [none, none, none, none, none, some (XF (-2147483648)), some (WF (-2147483648)), none] w1.heap.size w1)
    [[], [], [], [], [], [2, 3, 4], [1, 5, 5], [0, 6, 6]] (by kernel_rfl) (by kernel_rfl) (by kernel_rfl) (by kernel_rfl) ?_ ?_ ?_ ?_
  · exact RowJ.alike (n := 8) (by simp) (by simp)
  · exact fun vs _ => RowJ.start (Nat.le_refl _) vs
  · refine ⟨?_, ?_, ?_, ?_, ?_, ?_, ?_, ?_, trivial⟩
    all_goals
      intro f vs X hlen hf hp hj K hK
      obtain ⟨z0, z1, z2, z3, z4, z5, z6, z7, rfl⟩ := len8P hlen
      clear hlen
      have HJ := Lib.hid hj
      clear hj
    · rw [if_pos (by rfl)]
      simp only [putAll, Act.put, List.setIfInBounds_toArray, List.set_cons_zero, List.set_cons_succ] at hK ⊢
      go_simp
      refine hK _ X ?_
      exact HJ.out.step (i := 0) (by simp) _ (fun u hu => by simpa using hu) (fun l hl => by simp at hl) (Below.refl _ _)
    · rw [if_pos (by rfl)]
      have mm := HTB'.out X HJ.out.2.1.1
      have m0 := mm.1
      have m1 := mm.2
      clear mm
      simp only [putAll, Act.put, List.setIfInBounds_toArray, List.set_cons_zero, List.set_cons_succ] at hK ⊢
      go_simp
      refine hK _ X ?_
      exact HJ.out.step (i := 1) (by simp) _ (fun u hu => by simpa using hu) (fun l hl => by simp at hl) (Below.refl _ _)
    · rw [if_pos (by rfl)]
      simp only [putAll, Act.put, List.setIfInBounds_toArray, List.set_cons_zero, List.set_cons_succ] at hK ⊢
      go_simp
      refine hK _ X ?_
      exact HJ.out.step (i := 2) (by simp) _ (fun u hu => by simpa using hu) (fun l hl => by simp at hl) (Below.refl _ _)
    · rw [if_pos (by rfl)]
      simp only [putAll, Act.put, List.setIfInBounds_toArray, List.set_cons_zero, List.set_cons_succ] at hK ⊢
      go_simp
      refine hK _ X ?_
      exact HJ.out.step (i := 3) (by simp) _ (fun u hu => by simpa using hu) (fun l hl => by simp at hl) (Below.refl _ _)
    · rw [if_pos (by rfl)]
      simp only [putAll, Act.put, List.setIfInBounds_toArray, List.set_cons_zero, List.set_cons_succ] at hK ⊢
      go_simp
      refine hK _ X ?_
      exact HJ.out.step (i := 4) (by simp) _ (fun u hu => by simpa using hu) (fun l hl => by simp at hl) (Below.refl _ _)
    · rw [if_pos (by rfl)]
      have e2 : z2 = .slice (some ba) LX c2 := HJ.out.1 2 _ (hp 2 (by simp)) rfl
      subst e2
      have e3 : z3 = .int .i64 (j : Int) := HJ.out.1 3 _ (hp 3 (by simp)) rfl
      subst e3
      have e4 : z4 = .int .i64 (-2147483648) := HJ.out.1 4 _ (hp 4 (by simp)) rfl
      subst e4
      simp only [putAll, Act.put, List.setIfInBounds_toArray, List.set_cons_zero, List.set_cons_succ] at hK ⊢
      go_simp
      refine (KWe.out X (HB1.out.trans (HJ.out.2.1.1.mono hsz1))).mono ?_
      rintro e w5 ⟨g5, c5, rfl, h51, h52, o5, b5⟩
      refine hK _ w5 ?_
      exact HJ.out.step (i := 5) (by simp) _ (fun u hu => by simp at hu) (fun l hl => by simp at hl; subst hl; exact ⟨_, c5, by rw [HXF.out], o5.lies⟩) b5
    · rw [if_pos (by rfl)]
      have e1 : z1 = .agg #[.int .i64 d, .slice A M c] := HJ.out.1 1 _ (hp 1 (by simp)) rfl
      subst e1
      obtain ⟨A5', c5', e5, l5⟩ := HJ.out.2.2 5 _ rfl (hp 5 (by simp))
      have e5' : z5 = .slice A5' ((XF (-2147483648))).length c5' := e5
      rw [HXF.out] at e5'
      subst e5'
      clear e5
      simp only [putAll, Act.put, List.setIfInBounds_toArray, List.set_cons_zero, List.set_cons_succ] at hK ⊢
      go_simp
      refine (KBe.out X A5' c5' (HB1.out.trans (HJ.out.2.1.1.mono hsz1)) l5).mono ?_
      rintro e w5 ⟨A6, c6, rfl, h51, h52, l6, b5⟩
      refine hK _ w5 ?_
      exact HJ.out.step (i := 6) (by simp) _ (fun u hu => by simp at hu) (fun l hl => by simp at hl; subst hl; exact ⟨A6, c6, rfl, l6⟩) b5
    · rw [if_pos (by rfl)]
      have e0 : z0 = .slice A9 (W1).length c9 := HJ.out.1 0 _ (hp 0 (by simp)) rfl
      subst e0
      obtain ⟨A6', c6', e6, l6⟩ := HJ.out.2.2 6 _ rfl (hp 6 (by simp))
      have e6' : z6 = .slice A6' ((WF (-2147483648))).length c6' := e6
      subst e6'
      clear e6
      simp only [putAll, Act.put, List.setIfInBounds_toArray, List.set_cons_zero, List.set_cons_succ] at hK ⊢
      go_simp
      refine (ref_same1 A9 A6' W1 (WF (-2147483648)) c9 c6' X.heap.size X (HW9'.out X HJ.out.2.1.1) l6 (by have := HWL.out; omega) (by have := HWF.out (-2147483648); omega)).mono ?_
      rintro e w5 ⟨rfl, n5, rfl⟩
      refine hK _ _ ?_
      exact HJ.out.step (i := 7) (by simp) _ (fun u hu => by simpa using hu) (fun l hl => by simp at hl) (below_drewN2 (Below.refl _ _) n5)
  · intro vs X hl hj
    obtain ⟨z0, z1, z2, z3, z4, z5, z6, z7, rfl⟩ := len8P hl
    have e7 : z7 = .bool (decide (W1 = WF (-2147483648))) := hj.1 7 _ rfl rfl
    subst e7
    have HBX := Lib.hid (HB1.out.trans (hj.2.1.1.mono hsz1))
    simp only [putAll, Act.put, List.setIfInBounds_toArray, List.set_cons_zero, List.set_cons_succ]
    rw [HD.out (-2147483648) (by omega)]
    have hjX := hj.2.1.1
    clear hj
    have HB1X := Lib.hid (show Below w1.heap.size w1 X from hjX)
    by_cases hin : lo ≤ (-2147483648) ∧ (-2147483648) ≤ hi
    · have a3 : decide (lo ≤ (-2147483648) ∧ (-2147483648) ≤ hi) = true := decide_eq_true hin
      rw [a3]
      have hres : (-2147483648) = lo := by omega
      rw [hres]
      go_wp2
      go_ret
      exact ⟨rfl, HBX.out⟩
    · have a3 : decide (lo ≤ (-2147483648) ∧ (-2147483648) ≤ hi) = false := decide_eq_false hin
      rw [a3]
      have hbad : (-2147483648) < lo := by omega
      clear hin a3
      go_wp2
      go_loopw [10, 11] (fun gv bv wr => ∃ good bad : Int, gv = .int .i64 good ∧ bv = .int .i64 bad ∧ (lo ≤ good ∧ good ≤ hi) ∧ (-2147483648 ≤ bad ∧ bad < lo) ∧ Hid (Below w1.heap.size w1 wr)) (fun gv bv _ => (intOf gv - intOf bv).natAbs)
      case atStart => exact ⟨xj, (-2147483648), rfl, rfl, ho, ⟨by omega, hbad⟩, HB1X.out⟩
      case round =>
        obtain ⟨good, bad, rfl, rfl, ⟨hg1, hg2⟩, ⟨hb1, hb2⟩, HB⟩ := hrel
        have HBw := Lib.hid (HB1.out.trans (HB.out.mono hsz1))
        have hszr := HB.out.size
        by_cases hfar : bad + 2 ≤ good
        · have hmid := mid_between (a := good) (b := bad) (by omega)
          have htd : Int.tdiv (good + bad) 2 = Int.tdiv (good + bad) 2 := rfl
          rw [← htd] at hmid
          obtain ⟨hm1, hm2⟩ := hmid
          clear htd
          have gt1 : (1 : Int) < good - bad := by omega
          go_wp2
          generalize Int.tdiv (good + bad) 2 = mid at *
          have KWm := Lib.hid (KW2.out mid)
          have KBm := Lib.hid (KB2.out mid (by omega))
          have HTBr := Lib.hid (fun X (h : Below wr.heap.size wr X) => HTB'.out X (HB.out.trans (h.mono hszr)))
          have HW9r := Lib.hid (fun X (h : Below wr.heap.size wr X) => HW9'.out X (HB.out.trans (h.mono hszr)))
          have hszw := HBw.out.size
          refine wp_region_steps (RowJ [some (.slice A9 (W1).length c9), some (.agg #[.int .i64 d, .slice A M c]), some (.slice (some ba) LX c2), some (.int .i64 (j : Int)), some (.int .i64 mid), none, none, some (.bool (decide (W1 = WF mid)))] [none, none, none, none, none, some (XF mid), some (WF mid), none] wr.heap.size wr)
            [[], [], [], [], [], [2, 3, 4], [1, 5, 5], [0, 6, 6]] (by kernel_rfl) (by kernel_rfl) (by kernel_rfl) (by kernel_rfl) ?_ ?_ ?_ ?_
          · exact RowJ.alike (n := 8) (by simp) (by simp)
          · exact fun vs _ => RowJ.start (Nat.le_refl _) vs
          · refine ⟨?_, ?_, ?_, ?_, ?_, ?_, ?_, ?_, trivial⟩
            all_goals
              intro f vs X hlen hf hp hj K hK
              obtain ⟨z0, z1, z2, z3, z4, z5, z6, z7, rfl⟩ := len8P hlen
              clear hlen
              have HJ := Lib.hid hj
              clear hj
            · rw [if_pos (by rfl)]
              simp only [putAll, Act.put, List.setIfInBounds_toArray, List.set_cons_zero, List.set_cons_succ] at hK ⊢
              go_simp
              refine hK _ X ?_
              exact HJ.out.step (i := 0) (by simp) _ (fun u hu => by simpa using hu) (fun l hl => by simp at hl) (Below.refl _ _)
            · rw [if_pos (by rfl)]
              have mm := HTBr.out X HJ.out.2.1.1
              have m0 := mm.1
              have m1 := mm.2
              clear mm
              simp only [putAll, Act.put, List.setIfInBounds_toArray, List.set_cons_zero, List.set_cons_succ] at hK ⊢
              go_simp
              refine hK _ X ?_
              exact HJ.out.step (i := 1) (by simp) _ (fun u hu => by simpa using hu) (fun l hl => by simp at hl) (Below.refl _ _)
            · rw [if_pos (by rfl)]
              simp only [putAll, Act.put, List.setIfInBounds_toArray, List.set_cons_zero, List.set_cons_succ] at hK ⊢
              go_simp
              refine hK _ X ?_
              exact HJ.out.step (i := 2) (by simp) _ (fun u hu => by simpa using hu) (fun l hl => by simp at hl) (Below.refl _ _)
            · rw [if_pos (by rfl)]
              simp only [putAll, Act.put, List.setIfInBounds_toArray, List.set_cons_zero, List.set_cons_succ] at hK ⊢
              go_simp
              refine hK _ X ?_
              exact HJ.out.step (i := 3) (by simp) _ (fun u hu => by simpa using hu) (fun l hl => by simp at hl) (Below.refl _ _)
            · rw [if_pos (by rfl)]
              simp only [putAll, Act.put, List.setIfInBounds_toArray, List.set_cons_zero, List.set_cons_succ] at hK ⊢
              go_simp
              refine hK _ X ?_
              exact HJ.out.step (i := 4) (by simp) _ (fun u hu => by simpa using hu) (fun l hl => by simp at hl) (Below.refl _ _)
            · rw [if_pos (by rfl)]
              have e2 : z2 = .slice (some ba) LX c2 := HJ.out.1 2 _ (hp 2 (by simp)) rfl
              subst e2
              have e3 : z3 = .int .i64 (j : Int) := HJ.out.1 3 _ (hp 3 (by simp)) rfl
              subst e3
              have e4 : z4 = .int .i64 mid := HJ.out.1 4 _ (hp 4 (by simp)) rfl
              subst e4
              simp only [putAll, Act.put, List.setIfInBounds_toArray, List.set_cons_zero, List.set_cons_succ] at hK ⊢
              go_simp
              refine (KWm.out X (HBw.out.trans (HJ.out.2.1.1.mono hszw))).mono ?_
              rintro e w5 ⟨g5, c5, rfl, h51, h52, o5, b5⟩
              refine hK _ w5 ?_
              exact HJ.out.step (i := 5) (by simp) _ (fun u hu => by simp at hu) (fun l hl => by simp at hl; subst hl; exact ⟨_, c5, by rw [HXF.out], o5.lies⟩) b5
            · rw [if_pos (by rfl)]
              have e1 : z1 = .agg #[.int .i64 d, .slice A M c] := HJ.out.1 1 _ (hp 1 (by simp)) rfl
              subst e1
              obtain ⟨A5', c5', e5, l5⟩ := HJ.out.2.2 5 _ rfl (hp 5 (by simp))
              have e5' : z5 = .slice A5' ((XF mid)).length c5' := e5
              rw [HXF.out] at e5'
              subst e5'
              clear e5
              simp only [putAll, Act.put, List.setIfInBounds_toArray, List.set_cons_zero, List.set_cons_succ] at hK ⊢
              go_simp
              refine (KBm.out X A5' c5' (HBw.out.trans (HJ.out.2.1.1.mono hszw)) l5).mono ?_
              rintro e w5 ⟨A6, c6, rfl, h51, h52, l6, b5⟩
              refine hK _ w5 ?_
              exact HJ.out.step (i := 6) (by simp) _ (fun u hu => by simp at hu) (fun l hl => by simp at hl; subst hl; exact ⟨A6, c6, rfl, l6⟩) b5
            · rw [if_pos (by rfl)]
              have e0 : z0 = .slice A9 (W1).length c9 := HJ.out.1 0 _ (hp 0 (by simp)) rfl
              subst e0
              obtain ⟨A6', c6', e6, l6⟩ := HJ.out.2.2 6 _ rfl (hp 6 (by simp))
              have e6' : z6 = .slice A6' ((WF mid)).length c6' := e6
              subst e6'
              clear e6
              simp only [putAll, Act.put, List.setIfInBounds_toArray, List.set_cons_zero, List.set_cons_succ] at hK ⊢
              go_simp
              refine (ref_same1 A9 A6' W1 (WF mid) c9 c6' X.heap.size X (HW9r.out X HJ.out.2.1.1) l6 (by have := HWL.out; omega) (by have := HWF.out mid; omega)).mono ?_
              rintro e w5 ⟨rfl, n5, rfl⟩
              refine hK _ _ ?_
              exact HJ.out.step (i := 7) (by simp) _ (fun u hu => by simpa using hu) (fun l hl => by simp at hl) (below_drewN2 (Below.refl _ _) n5)
          · intro vs X hl hj
            obtain ⟨z0, z1, z2, z3, z4, z5, z6, z7, rfl⟩ := len8P hl
            have e7 : z7 = .bool (decide (W1 = WF mid)) := hj.1 7 _ rfl rfl
            subst e7
            have HBX := Lib.hid (HBw.out.trans (hj.2.1.1.mono hszw))
            simp only [putAll, Act.put, List.setIfInBounds_toArray, List.set_cons_zero, List.set_cons_succ]
            rw [HD.out mid (by omega)]
            have hjX := hj.2.1.1
            clear hj
            have HBr := Lib.hid (HB.out.trans (Below.mono hjX hszr))
            by_cases hmi : lo ≤ mid ∧ mid ≤ hi
            · have a3 : decide (lo ≤ mid ∧ mid ≤ hi) = true := decide_eq_true hmi
              rw [a3]
              go_wp2
              exact ⟨⟨mid, bad, rfl, rfl, hmi, ⟨by omega, by omega⟩, HBr.out⟩, by simp [intOf]; omega⟩
            · have a3 : decide (lo ≤ mid ∧ mid ≤ hi) = false := decide_eq_false hmi
              rw [a3]
              go_wp2
              exact ⟨⟨good, mid, rfl, rfl, ⟨hg1, hg2⟩, ⟨by omega, by omega⟩, HBr.out⟩, by simp [intOf]; omega⟩
        · have hres : good = lo := by omega
          have gt1 : ¬ (1 : Int) < good - bad := by omega
          have gt2 : ¬ (1 : Int) < bad - good := by omega
          subst hres
          go_wp2
          go_ret
          exact ⟨rfl, HBw.out⟩
set_option maxRecDepth 100000 in
set_option maxHeartbeats 8000000 in
theorem edge_hi (N : List TN) (d : Int) (A A2 : Option Addr) (x : List Int) (c c2 B j : Nat) (lo hi : Int) (w : World) (hl : N.length ≤ 1000) (h1 : isT N d = true) (h2 : isV x d = true) (hj : j < x.length) (hA : LiesT w B A N) (hx : Lies w B A2 x) (hB : B ≤ w.heap.size)
    (hlo : -2147483648 ≤ lo) (hhi : hi ≤ 2147483647) (ho : lo ≤ x.getD j 0 ∧ x.getD j 0 ≤ hi) (hP : ∀ v, -2147483648 ≤ v ∧ v ≤ 2147483647 → (wayT N x N.length 0 = wayT N (x.set j v) N.length 0 ↔ lo ≤ v ∧ v ≤ hi)) :
    Calls Try.prog 44 #[.agg #[.int .i64 d, .slice A N.length c], .slice A2 x.length c2, .int .i64 j, .int .i64 2147483647] w fun e w' => e = .returned (.int .i64 hi) ∧ Below w.heap.size w w' := by
  have HX := Lib.hid ((Kpc.start w).alloc #[.int .i64 d, .slice A N.length c] 24)
  obtain ⟨y0, y1⟩ := box_cut HX.out.head
  have KA := Lib.hid (fun W (h : Below w.heap.size w W) => ref_above N d A A2 x c c2 B W h1 h2 (hA.below (h.mono hB)) (hx.below (h.mono hB)) (Nat.le_trans hB h.size))
  have h8 := (isV_iff.1 h2).2
  have KW := Lib.hid (fun v W (h : Below w.heap.size w W) => ref_With A2 x c2 B j v W (hx.below (h.mono hB)) hj (by omega))
  have KB := Lib.hid (fun v (hv : -2147483648 ≤ v ∧ v ≤ 2147483647) W A' c' (h : Below w.heap.size w W) (hlx : Lies W W.heap.size A' (x.set j v)) => ref_above N d A A' (x.set j v) c c' W.heap.size W h1 (set_isV h2 j hv) ((hA.below (h.mono hB)).mono (Nat.le_trans hB h.size)) hlx (Nat.le_refl _))
  obtain ⟨XF, hXF⟩ : ∃ XF : Int → List Int, XF = fun v => x.set j v := ⟨_, rfl⟩
  obtain ⟨WF, hWF⟩ : ∃ WF : Int → List Int, WF = fun v => wayT N (x.set j v) N.length 0 := ⟨_, rfl⟩
  have HXF : Hid (∀ v, (XF v).length = x.length) := fun v => by rw [hXF, List.length_set]
  have HWF : Hid (∀ v, (WF v).length ≤ 1001) := fun v => by
    have e2 := way_len (N := N) (x := x.set j v) N.length 0
    have e4 := tst_len (N := N) (x := x.set j v) N.length 0
    rw [hWF]
    simp only
    omega
  have HWL : Hid ((wayT N x N.length 0).length ≤ 1001) := by
    have e1 := way_len (N := N) (x := x) N.length 0
    have e3 := tst_len (N := N) (x := x) N.length 0
    show _ ≤ _
    omega
  have HD : Hid (∀ v, -2147483648 ≤ v ∧ v ≤ 2147483647 → decide (wayT N x N.length 0 = WF v) = decide (lo ≤ v ∧ v ≤ hi)) := fun v hv => by
    rw [hWF, Bool.eq_iff_iff, decide_eq_true_iff, decide_eq_true_iff]
    exact hP v hv
  have KW2 : Hid (∀ v W (h : Below w.heap.size w W), Calls Try.prog 19 #[.slice A2 x.length c2, .int .i64 j, .int .i64 v] W fun e w' => ∃ g c', e = .returned (.slice (some ⟨g, 0, none⟩) x.length c') ∧ x.length ≤ c' ∧ W.heap.size ≤ g ∧ OwnI w' g (XF v) ∧ Below W.heap.size W w') := fun v W h => by
    have := KW.out v W h
    rw [hXF]
    exact this
  have KB2 : Hid (∀ v (hv : -2147483648 ≤ v ∧ v ≤ 2147483647) W A' c' (h : Below w.heap.size w W) (hlx : Lies W W.heap.size A' (XF v)), Calls Try.prog 18 #[.agg #[.int .i64 d, .slice A N.length c], .slice A' x.length c'] W (GivesI (WF v) W)) := fun v hv W A' c' h hlx => by
    rw [hXF] at hlx
    have := KB.out v hv W A' c' h hlx
    rw [List.length_set] at this
    rw [hWF]
    exact this
  unfold GivesI at KA KB2
  obtain ⟨ba, eA2, _, _⟩ := hx (by omega)
  have HXJ : Hid (∀ W (h : Below w.heap.size w W), W.cell? (ba.add j) = some (.int .i64 (x.getD j 0))) := fun W h => by
    obtain ⟨ad', e, _, hc⟩ := (hx.below (h.mono hB)) (by omega)
    rw [eA2] at e
    cases e
    exact hc j hj
  subst eA2
  have hjg : (j : Int) < (x.length : Int) := by omega
  have hxb := get_isV h2 hj
  clear hA hx h1 h2 KW KB hP hXF hWF h8 hj
  generalize wayT N x N.length 0 = W1 at *
  generalize x.getD j 0 = xj at *
  generalize N.length = M at *
  generalize x.length = LX at *
  go_enter Try.func44, Try.ntmps44
  go_wp2_with fail
  refine (KA.out _ HX.out.2.1).mono ?_
  rintro e w1 ⟨A9, c9, rfl, g1, g2, l9, b1⟩
  have J1 := Lib.hid (HX.out.below b1)
  have HW9' := Lib.hid (fun X (h : Below w1.heap.size w1 X) => (l9.below h).mono h.size)
  have HTB' := Lib.hid (fun X (h : Below w1.heap.size w1 X) => box_cut (J1.out.head.below h J1.out.head.lt))
  have HB1 := Lib.hid J1.out.2.1
  have hsz1 := HB1.out.size
  clear b1 y0 y1 l9 KA
  have xj1 := HXJ.out _ HB1.out
  go_wp2
  skip
  have KWe := Lib.hid (KW2.out 2147483647)
  have KBe := Lib.hid (KB2.out 2147483647 (by omega))
  refine wp_region_steps (RowJ [some (.slice A9 (W1).length c9), some (.agg #[.int .i64 d, .slice A M c]), some (.slice (some ba) LX c2), some (.int .i64 (j : Int)), some (.int .i64 2147483647), none, none, some (.bool (decide (W1 = WF 2147483647)))] [none, none, none, none, none, some (XF 2147483647), some (WF 2147483647), none] w1.heap.size w1)
    [[], [], [], [], [], [2, 3, 4], [1, 5, 5], [0, 6, 6]] (by kernel_rfl) (by kernel_rfl) (by kernel_rfl) (by kernel_rfl) ?_ ?_ ?_ ?_
  · exact RowJ.alike (n := 8) (by simp) (by simp)
  · exact fun vs _ => RowJ.start (Nat.le_refl _) vs
  · refine ⟨?_, ?_, ?_, ?_, ?_, ?_, ?_, ?_, trivial⟩
    all_goals
      intro f vs X hlen hf hp hj K hK
      obtain ⟨z0, z1, z2, z3, z4, z5, z6, z7, rfl⟩ := len8P hlen
      clear hlen
      have HJ := Lib.hid hj
      clear hj
    · rw [if_pos (by rfl)]
      simp only [putAll, Act.put, List.setIfInBounds_toArray, List.set_cons_zero, List.set_cons_succ] at hK ⊢
      go_simp
      refine hK _ X ?_
      exact HJ.out.step (i := 0) (by simp) _ (fun u hu => by simpa using hu) (fun l hl => by simp at hl) (Below.refl _ _)
    · rw [if_pos (by rfl)]
      have mm := HTB'.out X HJ.out.2.1.1
      have m0 := mm.1
      have m1 := mm.2
      clear mm
      simp only [putAll, Act.put, List.setIfInBounds_toArray, List.set_cons_zero, List.set_cons_succ] at hK ⊢
      go_simp
      refine hK _ X ?_
      exact HJ.out.step (i := 1) (by simp) _ (fun u hu => by simpa using hu) (fun l hl => by simp at hl) (Below.refl _ _)
    · rw [if_pos (by rfl)]
      simp only [putAll, Act.put, List.setIfInBounds_toArray, List.set_cons_zero, List.set_cons_succ] at hK ⊢
      go_simp
      refine hK _ X ?_
      exact HJ.out.step (i := 2) (by simp) _ (fun u hu => by simpa using hu) (fun l hl => by simp at hl) (Below.refl _ _)
    · rw [if_pos (by rfl)]
      simp only [putAll, Act.put, List.setIfInBounds_toArray, List.set_cons_zero, List.set_cons_succ] at hK ⊢
      go_simp
      refine hK _ X ?_
      exact HJ.out.step (i := 3) (by simp) _ (fun u hu => by simpa using hu) (fun l hl => by simp at hl) (Below.refl _ _)
    · rw [if_pos (by rfl)]
      simp only [putAll, Act.put, List.setIfInBounds_toArray, List.set_cons_zero, List.set_cons_succ] at hK ⊢
      go_simp
      refine hK _ X ?_
      exact HJ.out.step (i := 4) (by simp) _ (fun u hu => by simpa using hu) (fun l hl => by simp at hl) (Below.refl _ _)
    · rw [if_pos (by rfl)]
      have e2 : z2 = .slice (some ba) LX c2 := HJ.out.1 2 _ (hp 2 (by simp)) rfl
      subst e2
      have e3 : z3 = .int .i64 (j : Int) := HJ.out.1 3 _ (hp 3 (by simp)) rfl
      subst e3
      have e4 : z4 = .int .i64 2147483647 := HJ.out.1 4 _ (hp 4 (by simp)) rfl
      subst e4
      simp only [putAll, Act.put, List.setIfInBounds_toArray, List.set_cons_zero, List.set_cons_succ] at hK ⊢
      go_simp
      refine (KWe.out X (HB1.out.trans (HJ.out.2.1.1.mono hsz1))).mono ?_
      rintro e w5 ⟨g5, c5, rfl, h51, h52, o5, b5⟩
      refine hK _ w5 ?_
      exact HJ.out.step (i := 5) (by simp) _ (fun u hu => by simp at hu) (fun l hl => by simp at hl; subst hl; exact ⟨_, c5, by rw [HXF.out], o5.lies⟩) b5
    · rw [if_pos (by rfl)]
      have e1 : z1 = .agg #[.int .i64 d, .slice A M c] := HJ.out.1 1 _ (hp 1 (by simp)) rfl
      subst e1
      obtain ⟨A5', c5', e5, l5⟩ := HJ.out.2.2 5 _ rfl (hp 5 (by simp))
      have e5' : z5 = .slice A5' ((XF 2147483647)).length c5' := e5
      rw [HXF.out] at e5'
      subst e5'
      clear e5
      simp only [putAll, Act.put, List.setIfInBounds_toArray, List.set_cons_zero, List.set_cons_succ] at hK ⊢
      go_simp
      refine (KBe.out X A5' c5' (HB1.out.trans (HJ.out.2.1.1.mono hsz1)) l5).mono ?_
      rintro e w5 ⟨A6, c6, rfl, h51, h52, l6, b5⟩
      refine hK _ w5 ?_
      exact HJ.out.step (i := 6) (by simp) _ (fun u hu => by simp at hu) (fun l hl => by simp at hl; subst hl; exact ⟨A6, c6, rfl, l6⟩) b5
    · rw [if_pos (by rfl)]
      have e0 : z0 = .slice A9 (W1).length c9 := HJ.out.1 0 _ (hp 0 (by simp)) rfl
      subst e0
      obtain ⟨A6', c6', e6, l6⟩ := HJ.out.2.2 6 _ rfl (hp 6 (by simp))
      have e6' : z6 = .slice A6' ((WF 2147483647)).length c6' := e6
      subst e6'
      clear e6
      simp only [putAll, Act.put, List.setIfInBounds_toArray, List.set_cons_zero, List.set_cons_succ] at hK ⊢
      go_simp
      refine (ref_same1 A9 A6' W1 (WF 2147483647) c9 c6' X.heap.size X (HW9'.out X HJ.out.2.1.1) l6 (by have := HWL.out; omega) (by have := HWF.out 2147483647; omega)).mono ?_
      rintro e w5 ⟨rfl, n5, rfl⟩
      refine hK _ _ ?_
      exact HJ.out.step (i := 7) (by simp) _ (fun u hu => by simpa using hu) (fun l hl => by simp at hl) (below_drewN2 (Below.refl _ _) n5)
  · intro vs X hl hj
    obtain ⟨z0, z1, z2, z3, z4, z5, z6, z7, rfl⟩ := len8P hl
    have e7 : z7 = .bool (decide (W1 = WF 2147483647)) := hj.1 7 _ rfl rfl
    subst e7
    have HBX := Lib.hid (HB1.out.trans (hj.2.1.1.mono hsz1))
    simp only [putAll, Act.put, List.setIfInBounds_toArray, List.set_cons_zero, List.set_cons_succ]
    rw [HD.out 2147483647 (by omega)]
    have hjX := hj.2.1.1
    clear hj
    have HB1X := Lib.hid (show Below w1.heap.size w1 X from hjX)
    by_cases hin : lo ≤ 2147483647 ∧ 2147483647 ≤ hi
    · have a3 : decide (lo ≤ 2147483647 ∧ 2147483647 ≤ hi) = true := decide_eq_true hin
      rw [a3]
      have hres : 2147483647 = hi := by omega
      rw [hres]
      go_wp2
      go_ret
      exact ⟨rfl, HBX.out⟩
    · have a3 : decide (lo ≤ 2147483647 ∧ 2147483647 ≤ hi) = false := decide_eq_false hin
      rw [a3]
      have hbad : hi < 2147483647 := by omega
      clear hin a3
      go_wp2
      go_loopw [10, 11] (fun gv bv wr => ∃ good bad : Int, gv = .int .i64 good ∧ bv = .int .i64 bad ∧ (lo ≤ good ∧ good ≤ hi) ∧ (hi < bad ∧ bad ≤ 2147483647) ∧ Hid (Below w1.heap.size w1 wr)) (fun gv bv _ => (intOf gv - intOf bv).natAbs)
      case atStart => exact ⟨xj, 2147483647, rfl, rfl, ho, ⟨hbad, by omega⟩, HB1X.out⟩
      case round =>
        obtain ⟨good, bad, rfl, rfl, ⟨hg1, hg2⟩, ⟨hb1, hb2⟩, HB⟩ := hrel
        have HBw := Lib.hid (HB1.out.trans (HB.out.mono hsz1))
        have hszr := HB.out.size
        by_cases hfar : good + 2 ≤ bad
        · have hmid := mid_between (a := bad) (b := good) (by omega)
          have htd : Int.tdiv (good + bad) 2 = Int.tdiv (bad + good) 2 := by rw [Int.add_comm]
          rw [← htd] at hmid
          obtain ⟨hm1, hm2⟩ := hmid
          clear htd
          have gt1 : ¬ (1 : Int) < good - bad := by omega
          have gt2 : (1 : Int) < bad - good := by omega
          go_wp2
          generalize Int.tdiv (good + bad) 2 = mid at *
          have KWm := Lib.hid (KW2.out mid)
          have KBm := Lib.hid (KB2.out mid (by omega))
          have HTBr := Lib.hid (fun X (h : Below wr.heap.size wr X) => HTB'.out X (HB.out.trans (h.mono hszr)))
          have HW9r := Lib.hid (fun X (h : Below wr.heap.size wr X) => HW9'.out X (HB.out.trans (h.mono hszr)))
          have hszw := HBw.out.size
          refine wp_region_steps (RowJ [some (.slice A9 (W1).length c9), some (.agg #[.int .i64 d, .slice A M c]), some (.slice (some ba) LX c2), some (.int .i64 (j : Int)), some (.int .i64 mid), none, none, some (.bool (decide (W1 = WF mid)))] [none, none, none, none, none, some (XF mid), some (WF mid), none] wr.heap.size wr)
            [[], [], [], [], [], [2, 3, 4], [1, 5, 5], [0, 6, 6]] (by kernel_rfl) (by kernel_rfl) (by kernel_rfl) (by kernel_rfl) ?_ ?_ ?_ ?_
          · exact RowJ.alike (n := 8) (by simp) (by simp)
          · exact fun vs _ => RowJ.start (Nat.le_refl _) vs
          · refine ⟨?_, ?_, ?_, ?_, ?_, ?_, ?_, ?_, trivial⟩
            all_goals
              intro f vs X hlen hf hp hj K hK
              obtain ⟨z0, z1, z2, z3, z4, z5, z6, z7, rfl⟩ := len8P hlen
              clear hlen
              have HJ := Lib.hid hj
              clear hj
            · rw [if_pos (by rfl)]
              simp only [putAll, Act.put, List.setIfInBounds_toArray, List.set_cons_zero, List.set_cons_succ] at hK ⊢
              go_simp
              refine hK _ X ?_
              exact HJ.out.step (i := 0) (by simp) _ (fun u hu => by simpa using hu) (fun l hl => by simp at hl) (Below.refl _ _)
            · rw [if_pos (by rfl)]
              have mm := HTBr.out X HJ.out.2.1.1
              have m0 := mm.1
              have m1 := mm.2
              clear mm
              simp only [putAll, Act.put, List.setIfInBounds_toArray, List.set_cons_zero, List.set_cons_succ] at hK ⊢
              go_simp
              refine hK _ X ?_
              exact HJ.out.step (i := 1) (by simp) _ (fun u hu => by simpa using hu) (fun l hl => by simp at hl) (Below.refl _ _)
            · rw [if_pos (by rfl)]
              simp only [putAll, Act.put, List.setIfInBounds_toArray, List.set_cons_zero, List.set_cons_succ] at hK ⊢
              go_simp
              refine hK _ X ?_
              exact HJ.out.step (i := 2) (by simp) _ (fun u hu => by simpa using hu) (fun l hl => by simp at hl) (Below.refl _ _)
            · rw [if_pos (by rfl)]
              simp only [putAll, Act.put, List.setIfInBounds_toArray, List.set_cons_zero, List.set_cons_succ] at hK ⊢
              go_simp
              refine hK _ X ?_
              exact HJ.out.step (i := 3) (by simp) _ (fun u hu => by simpa using hu) (fun l hl => by simp at hl) (Below.refl _ _)
            · rw [if_pos (by rfl)]
              simp only [putAll, Act.put, List.setIfInBounds_toArray, List.set_cons_zero, List.set_cons_succ] at hK ⊢
              go_simp
              refine hK _ X ?_
              exact HJ.out.step (i := 4) (by simp) _ (fun u hu => by simpa using hu) (fun l hl => by simp at hl) (Below.refl _ _)
            · rw [if_pos (by rfl)]
              have e2 : z2 = .slice (some ba) LX c2 := HJ.out.1 2 _ (hp 2 (by simp)) rfl
              subst e2
              have e3 : z3 = .int .i64 (j : Int) := HJ.out.1 3 _ (hp 3 (by simp)) rfl
              subst e3
              have e4 : z4 = .int .i64 mid := HJ.out.1 4 _ (hp 4 (by simp)) rfl
              subst e4
              simp only [putAll, Act.put, List.setIfInBounds_toArray, List.set_cons_zero, List.set_cons_succ] at hK ⊢
              go_simp
              refine (KWm.out X (HBw.out.trans (HJ.out.2.1.1.mono hszw))).mono ?_
              rintro e w5 ⟨g5, c5, rfl, h51, h52, o5, b5⟩
              refine hK _ w5 ?_
              exact HJ.out.step (i := 5) (by simp) _ (fun u hu => by simp at hu) (fun l hl => by simp at hl; subst hl; exact ⟨_, c5, by rw [HXF.out], o5.lies⟩) b5
            · rw [if_pos (by rfl)]
              have e1 : z1 = .agg #[.int .i64 d, .slice A M c] := HJ.out.1 1 _ (hp 1 (by simp)) rfl
              subst e1
              obtain ⟨A5', c5', e5, l5⟩ := HJ.out.2.2 5 _ rfl (hp 5 (by simp))
              have e5' : z5 = .slice A5' ((XF mid)).length c5' := e5
              rw [HXF.out] at e5'
              subst e5'
              clear e5
              simp only [putAll, Act.put, List.setIfInBounds_toArray, List.set_cons_zero, List.set_cons_succ] at hK ⊢
              go_simp
              refine (KBm.out X A5' c5' (HBw.out.trans (HJ.out.2.1.1.mono hszw)) l5).mono ?_
              rintro e w5 ⟨A6, c6, rfl, h51, h52, l6, b5⟩
              refine hK _ w5 ?_
              exact HJ.out.step (i := 6) (by simp) _ (fun u hu => by simp at hu) (fun l hl => by simp at hl; subst hl; exact ⟨A6, c6, rfl, l6⟩) b5
            · rw [if_pos (by rfl)]
              have e0 : z0 = .slice A9 (W1).length c9 := HJ.out.1 0 _ (hp 0 (by simp)) rfl
              subst e0
              obtain ⟨A6', c6', e6, l6⟩ := HJ.out.2.2 6 _ rfl (hp 6 (by simp))
              have e6' : z6 = .slice A6' ((WF mid)).length c6' := e6
              subst e6'
              clear e6
              simp only [putAll, Act.put, List.setIfInBounds_toArray, List.set_cons_zero, List.set_cons_succ] at hK ⊢
              go_simp
              refine (ref_same1 A9 A6' W1 (WF mid) c9 c6' X.heap.size X (HW9r.out X HJ.out.2.1.1) l6 (by have := HWL.out; omega) (by have := HWF.out mid; omega)).mono ?_
              rintro e w5 ⟨rfl, n5, rfl⟩
              refine hK _ _ ?_
              exact HJ.out.step (i := 7) (by simp) _ (fun u hu => by simpa using hu) (fun l hl => by simp at hl) (below_drewN2 (Below.refl _ _) n5)
          · intro vs X hl hj
            obtain ⟨z0, z1, z2, z3, z4, z5, z6, z7, rfl⟩ := len8P hl
            have e7 : z7 = .bool (decide (W1 = WF mid)) := hj.1 7 _ rfl rfl
            subst e7
            have HBX := Lib.hid (HBw.out.trans (hj.2.1.1.mono hszw))
            simp only [putAll, Act.put, List.setIfInBounds_toArray, List.set_cons_zero, List.set_cons_succ]
            rw [HD.out mid (by omega)]
            have hjX := hj.2.1.1
            clear hj
            have HBr := Lib.hid (HB.out.trans (Below.mono hjX hszr))
            by_cases hmi : lo ≤ mid ∧ mid ≤ hi
            · have a3 : decide (lo ≤ mid ∧ mid ≤ hi) = true := decide_eq_true hmi
              rw [a3]
              go_wp2
              exact ⟨⟨mid, bad, rfl, rfl, hmi, ⟨by omega, by omega⟩, HBr.out⟩, by simp [intOf]; omega⟩
            · have a3 : decide (lo ≤ mid ∧ mid ≤ hi) = false := decide_eq_false hmi
              rw [a3]
              go_wp2
              exact ⟨⟨good, mid, rfl, rfl, ⟨hg1, hg2⟩, ⟨by omega, by omega⟩, HBr.out⟩, by simp [intOf]; omega⟩
        · have hres : good = hi := by omega
          have gt1 : ¬ (1 : Int) < good - bad := by omega
          have gt2 : ¬ (1 : Int) < bad - good := by omega
          subst hres
          go_wp2
          go_ret
          exact ⟨rfl, HBw.out⟩
end Go.Proofs.Yteenemdiokajbaa
/-! Layer 16's reference: Room, Steps. -/
namespace Go.Proofs.Yteenemdiokajbaa
open Go.RowKit
set_option linter.unusedVariables false
set_option linter.unusedSimpArgs false

theorem len11P {vs : List Value} (h : vs.length = 11) : ∃ z0 z1 z2 z3 z4 z5 z6 z7 z8 z9 z10, vs = [z0, z1, z2, z3, z4, z5, z6, z7, z8, z9, z10] := by
  match vs, h with
  | [z0, z1, z2, z3, z4, z5, z6, z7, z8, z9, z10], _ => exact ⟨_, _, _, _, _, _, _, _, _, _, _, rfl⟩
theorem askT_err {N : List TN} {d : Int} {x : List Int} (h : ¬ askT N d x = 0) : whyV [⟨d, none, 0, N⟩] x = ([], askT N d x) := by
  unfold askT at h ⊢
  by_cases hT : isT N d = true
  · rw [if_pos hT] at h ⊢
    by_cases hx : isV x d = true
    · rw [if_pos hx] at h; exact absurd rfl h
    · rw [if_neg hx, why_one_err (fun g => hx g.2), if_pos hT]
  · rw [if_neg hT, why_one_err (fun g => hT g.1), if_neg hT]
theorem askT_ok {N : List TN} {d : Int} {x : List Int} (h : askT N d x = 0) : isT N d = true ∧ isV x d = true := by
  unfold askT at h
  by_cases hT : isT N d = true
  · rw [if_pos hT] at h
    by_cases hx : isV x d = true
    · exact ⟨hT, hx⟩
    · rw [if_neg hx] at h; exact absurd h (by omega)
  · rw [if_neg hT] at h; exact absurd h (by omega)
set_option maxRecDepth 100000 in
set_option maxHeartbeats 8000000 in
theorem ref_Room16 (N : List TN) (d : Int) (A A2 : Option Addr) (x : List Int) (c c2 B : Nat) (k : Int) (w : World) (hl : N.length ≤ 1000) (hA : LiesT w B A N) (hx : Lies w B A2 x) (hB : B ≤ w.heap.size) :
    Calls Try.prog 14 #[.agg #[.int .i64 d, .slice A N.length c], .slice A2 x.length c2, .int .i64 k] w fun e w' => e = .returned (.tuple #[.int .i64 (roomV N d x k).1, .int .i64 (roomV N d x k).2.1, .int .i64 (roomV N d x k).2.2]) ∧ Below w.heap.size w w' := by
  have HX := Lib.hid ((Kpc.start w).alloc #[.int .i64 d, .slice A N.length c] 24)
  obtain ⟨y0, y1⟩ := box_cut HX.out.head
  have KA := Lib.hid (fun W (h : Below w.heap.size w W) => ref_asked N d A A2 x c c2 B W (by omega) (hA.below (h.mono hB)) (hx.below (h.mono hB)) (Nat.le_trans hB h.size))
  by_cases h0 : askT N d x = 0
  · obtain ⟨hT, hV⟩ := askT_ok h0
    rw [h0] at KA
    have hxl := (isV_iff.1 hV).2.2.1
    by_cases hk : 0 ≤ k ∧ k < d
    · obtain ⟨j, rfl⟩ : ∃ j : Nat, k = j := ⟨k.toNat, by omega⟩
      have hj : j < x.length := by omega
      obtain ⟨lo, hi, q1, q2, q3, q4, q5, q6⟩ := room_ok hT hV hj
      rw [q1]
      have KL := Lib.hid (fun W (h : Below w.heap.size w W) => edge_lo N d A A2 x c c2 B j lo hi W hl hT hV hj (hA.below (h.mono hB)) (hx.below (h.mono hB)) (Nat.le_trans hB h.size) q2 q3 ⟨q4, q5⟩ q6)
      have KH := Lib.hid (fun W (h : Below w.heap.size w W) => edge_hi N d A A2 x c c2 B j lo hi W hl hT hV hj (hA.below (h.mono hB)) (hx.below (h.mono hB)) (Nat.le_trans hB h.size) q2 q3 ⟨q4, q5⟩ q6)
      simp only
      obtain ⟨hk1, hk2⟩ := hk
      clear hA hx h0 hT hV q1 q2 q3 q4 q5 q6 hj hxl
      generalize N.length = M at *
      generalize x.length = LX at *
      go_enter Try.func14, Try.ntmps14
      go_wp2_with fail
      refine (KA.out _ HX.out.2.1).mono ?_
      rintro e w1 ⟨rfl, b1⟩
      have J1 := Lib.hid (HX.out.below b1)
      clear b1 y0 y1
      obtain ⟨y0, y1⟩ := box_cut J1.out.head
      have HTB := Lib.hid (fun X (h : Below w1.heap.size w1 X) => box_cut (J1.out.head.below h J1.out.head.lt))
      have HB1 := Lib.hid J1.out.2.1
      have hsz1 := HB1.out.size
      go_wp2
      refine wp_region_steps (RowJ [some (.agg #[.int .i64 d, .slice A M c]), some (.slice A2 LX c2), some (.int .i64 (j : Int)), some (.int .i64 lo), some (.agg #[.int .i64 d, .slice A M c]), some (.slice A2 LX c2), some (.int .i64 (j : Int)), some (.int .i64 hi), some (.int .i64 lo), some (.int .i64 hi), some (.int .i64 0)] [] w1.heap.size w1)
        [[], [], [], [0, 1, 2], [], [], [], [4, 5, 6, 3], [3, 7, 0, 1, 2, 3], [7, 8, 0, 1, 2, 3, 4, 5, 6, 7, 8], [9, 0, 1, 2, 3, 4, 5, 6, 7, 8, 9]] (by kernel_rfl) (by kernel_rfl) (by kernel_rfl) (by kernel_rfl) ?_ ?_ ?_ ?_
      · exact RowJ.alike (n := 11) (by simp) (by simp)
      · exact fun vs _ => RowJ.start (Nat.le_refl _) vs
      · refine ⟨?_, ?_, ?_, ?_, ?_, ?_, ?_, ?_, ?_, ?_, ?_, trivial⟩
        all_goals
          intro f vs X hlen hf hp hj K hK
          obtain ⟨z0, z1, z2, z3, z4, z5, z6, z7, z8, z9, z10, rfl⟩ := len11P hlen
          clear hlen
          have HJ := Lib.hid hj
          clear hj
        · rw [if_pos (by rfl)]
          have mm := HTB.out X HJ.out.2.1.1
          have m0 := mm.1
          have m1 := mm.2
          clear mm
          simp only [putAll, Act.put, List.setIfInBounds_toArray, List.set_cons_zero, List.set_cons_succ] at hK ⊢
          go_simp
          refine hK _ X ?_
          exact HJ.out.step (i := 0) (by simp) _ (fun u hu => by simpa using hu) (fun l hl => by simp at hl) (Below.refl _ _)
        · rw [if_pos (by rfl)]
          simp only [putAll, Act.put, List.setIfInBounds_toArray, List.set_cons_zero, List.set_cons_succ] at hK ⊢
          go_simp
          refine hK _ X ?_
          exact HJ.out.step (i := 1) (by simp) _ (fun u hu => by simpa using hu) (fun l hl => by simp at hl) (Below.refl _ _)
        · rw [if_pos (by rfl)]
          simp only [putAll, Act.put, List.setIfInBounds_toArray, List.set_cons_zero, List.set_cons_succ] at hK ⊢
          go_simp
          refine hK _ X ?_
          exact HJ.out.step (i := 2) (by simp) _ (fun u hu => by simpa using hu) (fun l hl => by simp at hl) (Below.refl _ _)
        · rw [if_pos (by rfl)]
          have e0 : z0 = .agg #[.int .i64 d, .slice A M c] := HJ.out.1 0 _ (hp 0 (by simp)) rfl
          subst e0
          have e1 : z1 = .slice A2 LX c2 := HJ.out.1 1 _ (hp 1 (by simp)) rfl
          subst e1
          have e2 : z2 = .int .i64 (j : Int) := HJ.out.1 2 _ (hp 2 (by simp)) rfl
          subst e2
          simp only [putAll, Act.put, List.setIfInBounds_toArray, List.set_cons_zero, List.set_cons_succ] at hK ⊢
          go_simp
          refine (KL.out X (HB1.out.trans (HJ.out.2.1.1.mono hsz1))).mono ?_
          rintro e w5 ⟨rfl, b5⟩
          refine hK _ w5 ?_
          exact HJ.out.step (i := 3) (by simp) _ (fun u hu => by simpa using hu) (fun l hl => by simp at hl) b5
        · rw [if_pos (by rfl)]
          have mm := HTB.out X HJ.out.2.1.1
          have m0 := mm.1
          have m1 := mm.2
          clear mm
          simp only [putAll, Act.put, List.setIfInBounds_toArray, List.set_cons_zero, List.set_cons_succ] at hK ⊢
          go_simp
          refine hK _ X ?_
          exact HJ.out.step (i := 4) (by simp) _ (fun u hu => by simpa using hu) (fun l hl => by simp at hl) (Below.refl _ _)
        · rw [if_pos (by rfl)]
          simp only [putAll, Act.put, List.setIfInBounds_toArray, List.set_cons_zero, List.set_cons_succ] at hK ⊢
          go_simp
          refine hK _ X ?_
          exact HJ.out.step (i := 5) (by simp) _ (fun u hu => by simpa using hu) (fun l hl => by simp at hl) (Below.refl _ _)
        · rw [if_pos (by rfl)]
          simp only [putAll, Act.put, List.setIfInBounds_toArray, List.set_cons_zero, List.set_cons_succ] at hK ⊢
          go_simp
          refine hK _ X ?_
          exact HJ.out.step (i := 6) (by simp) _ (fun u hu => by simpa using hu) (fun l hl => by simp at hl) (Below.refl _ _)
        · rw [if_pos (by rfl)]
          have e4 : z4 = .agg #[.int .i64 d, .slice A M c] := HJ.out.1 4 _ (hp 4 (by simp)) rfl
          subst e4
          have e5 : z5 = .slice A2 LX c2 := HJ.out.1 5 _ (hp 5 (by simp)) rfl
          subst e5
          have e6 : z6 = .int .i64 (j : Int) := HJ.out.1 6 _ (hp 6 (by simp)) rfl
          subst e6
          simp only [putAll, Act.put, List.setIfInBounds_toArray, List.set_cons_zero, List.set_cons_succ] at hK ⊢
          go_simp
          refine (KH.out X (HB1.out.trans (HJ.out.2.1.1.mono hsz1))).mono ?_
          rintro e w5 ⟨rfl, b5⟩
          refine hK _ w5 ?_
          exact HJ.out.step (i := 7) (by simp) _ (fun u hu => by simpa using hu) (fun l hl => by simp at hl) b5
        · rw [if_pos (by rfl)]
          have e3 : z3 = .int .i64 lo := HJ.out.1 3 _ (hp 3 (by simp)) rfl
          subst e3
          simp only [putAll, Act.put, List.setIfInBounds_toArray, List.set_cons_zero, List.set_cons_succ] at hK ⊢
          go_simp
          refine hK _ X ?_
          exact HJ.out.step (i := 8) (by simp) _ (fun u hu => by simpa using hu) (fun l hl => by simp at hl) (Below.refl _ _)
        · rw [if_pos (by rfl)]
          have e7 : z7 = .int .i64 hi := HJ.out.1 7 _ (hp 7 (by simp)) rfl
          subst e7
          simp only [putAll, Act.put, List.setIfInBounds_toArray, List.set_cons_zero, List.set_cons_succ] at hK ⊢
          go_simp
          refine hK _ X ?_
          exact HJ.out.step (i := 9) (by simp) _ (fun u hu => by simpa using hu) (fun l hl => by simp at hl) (Below.refl _ _)
        · rw [if_pos (by rfl)]
          simp only [putAll, Act.put, List.setIfInBounds_toArray, List.set_cons_zero, List.set_cons_succ] at hK ⊢
          go_simp
          refine hK _ X ?_
          exact HJ.out.step (i := 10) (by simp) _ (fun u hu => by simpa using hu) (fun l hl => by simp at hl) (Below.refl _ _)
      · intro vs X hl hj
        obtain ⟨z0, z1, z2, z3, z4, z5, z6, z7, z8, z9, z10, rfl⟩ := len11P hl
        have e8 : z8 = .int .i64 lo := hj.1 8 _ rfl rfl
        subst e8
        have e9 : z9 = .int .i64 hi := hj.1 9 _ rfl rfl
        subst e9
        have e10 : z10 = .int .i64 0 := hj.1 10 _ rfl rfl
        subst e10
        have HBX := Lib.hid (HB1.out.trans (hj.2.1.1.mono hsz1))
        simp only [putAll, Act.put, List.setIfInBounds_toArray, List.set_cons_zero, List.set_cons_succ]
        clear hj
        go_wp2
        go_ret3
        exact ⟨by simp, HBX.out⟩
    · have hr : roomV N d x k = (0, 0, 1) := by
        unfold roomV
        rw [why_one hT hV, if_neg (by simp), if_neg]
        rw [colsC_len]
        intro q
        exact hk ⟨q.1, by have := q.2; omega⟩
      rw [hr]
      simp only
      clear hA hx h0 hT hV hr
      generalize N.length = M at *
      generalize x.length = LX at *
      by_cases hk0 : k < 0
      · go_enter Try.func14, Try.ntmps14
        go_wp2_with fail
        refine (KA.out _ HX.out.2.1).mono ?_
        rintro e w1 ⟨rfl, b1⟩
        have J1 := Lib.hid (HX.out.below b1)
        go_wp2
        go_ret3
        exact ⟨by simp, J1.out.2.1⟩
      · have hk3 : ¬ k < d := by omega
        go_enter Try.func14, Try.ntmps14
        go_wp2_with fail
        refine (KA.out _ HX.out.2.1).mono ?_
        rintro e w1 ⟨rfl, b1⟩
        have J1 := Lib.hid (HX.out.below b1)
        clear b1 y0 y1
        obtain ⟨y0, y1⟩ := box_cut J1.out.head
        go_wp2
        go_ret3
        exact ⟨by simp, J1.out.2.1⟩
  · have hr : roomV N d x k = (0, 0, askT N d x) := by
      unfold roomV
      rw [askT_err h0]
      simp only
      rw [if_pos h0]
    rw [hr]
    simp only
    generalize askT N d x = z at *
    have hz0 : (z == 0) = false := by simpa using h0
    clear hA hx hr
    generalize N.length = M at *
    generalize x.length = LX at *
    go_enter Try.func14, Try.ntmps14
    go_wp2_with fail
    refine (KA.out _ HX.out.2.1).mono ?_
    rintro e w1 ⟨rfl, b1⟩
    have J1 := Lib.hid (HX.out.below b1)
    go_wp2
    go_ret3
    exact ⟨by simp, J1.out.2.1⟩
/-- how many of the first i steps test column q -/
def sti (x : List Int) (E : List TS) (i q : Nat) : Int := (colC x q (E.take i)).st
theorem sti_succ (x : List Int) (E : List TS) {i : Nat} (hi : i < E.length) (q : Nat) : sti x E (i + 1) q = sti x E i q + if (E.getD i ts0).co.getD q 0 = 0 then 0 else 1 := by
  unfold sti colC
  have e0 : E.getD i ts0 = E[i] := by rw [List.getD_eq_getElem?_getD, List.getElem?_eq_getElem hi]; rfl
  rw [List.take_succ_eq_append_getElem hi, List.foldl_append, e0]
  show (pasC E[i] x q _).st = _ + if (E[i]).co.getD q 0 = 0 then 0 else 1
  unfold pasC
  split
  · simp
  · rfl
theorem sti_bd (x : List Int) (E : List TS) (i q : Nat) : 0 ≤ sti x E i q ∧ sti x E i q ≤ E.length := by
  have h := colC_st x q (E.take i) ct0
  rw [List.length_take] at h
  have e0 : ct0.st = 0 := rfl
  unfold sti colC
  omega
/-- the counts, those of the first k columns behind one step more -/
def mixK (x : List Int) (E : List TS) (n i k : Nat) : List Int := (List.range n).map (fun q => if q < k then sti x E (i + 1) q else sti x E i q)
theorem mixK_len (x : List Int) (E : List TS) (n i k : Nat) : (mixK x E n i k).length = n := by simp [mixK]
theorem mixK_at (x : List Int) (E : List TS) {n i k q : Nat} (hq : q < n) : (mixK x E n i k).getD q 0 = if q < k then sti x E (i + 1) q else sti x E i q := by
  unfold mixK
  rw [List.getD_eq_getElem?_getD, List.getElem?_map, List.getElem?_range hq]
  rfl
theorem mixK_step (x : List Int) (E : List TS) {n i k : Nat} (hk : k < n) : mixK x E n i (k + 1) = (mixK x E n i k).set k (sti x E (i + 1) k) := by
  refine List.ext_getElem (by simp [mixK]) (fun j h1 h2 => ?_)
  rw [List.getElem_set]
  by_cases h : k = j
  · subst h
    simp [mixK]
  · rw [if_neg h]
    simp only [mixK, List.getElem_map, List.getElem_range]
    by_cases g : j < k
    · rw [if_pos g, if_pos (by omega)]
    · rw [if_neg g, if_neg (by omega)]
theorem mixK_next (x : List Int) (E : List TS) (n i : Nat) : mixK x E n i n = mixK x E n (i + 1) 0 := by
  unfold mixK
  refine List.map_congr_left (fun q hq => ?_)
  rw [if_pos (List.mem_range.1 hq), if_neg (by omega)]
theorem mixK_zero (x : List Int) (E : List TS) (n : Nat) : mixK x E n 0 0 = List.replicate n 0 := by
  refine List.ext_getElem (by simp [mixK]) (fun j h1 h2 => ?_)
  simp only [mixK, List.getElem_map, List.getElem_range, List.getElem_replicate]
  rw [if_neg (by omega)]
  rfl
theorem mixK_all (x : List Int) (E : List TS) : mixK x E x.length E.length 0 = (colsC x E).map CT.st := by
  unfold mixK colsC
  rw [List.map_map]
  refine List.map_congr_left (fun q _ => ?_)
  rw [if_neg (by omega)]
  unfold sti
  rw [List.take_length]
  rfl
set_option maxRecDepth 100000 in
set_option maxHeartbeats 8000000 in
theorem ref_Steps16 (N : List TN) (d : Int) (A A2 : Option Addr) (x : List Int) (c c2 B : Nat) (w : World) (hl : N.length ≤ 1000) (hA : LiesT w B A N) (hx : Lies w B A2 x) (hB : B ≤ w.heap.size) :
    Calls Try.prog 12 #[.agg #[.int .i64 d, .slice A N.length c], .slice A2 x.length c2] w (GivesTr (stepsV N d x) w) := by
  have HX := Lib.hid ((Kpc.start w).alloc #[.int .i64 d, .slice A N.length c] 24)
  obtain ⟨y0, y1⟩ := box_cut HX.out.head
  have KA := Lib.hid (fun W (h : Below w.heap.size w W) => ref_asked N d A A2 x c c2 B W (by omega) (hA.below (h.mono hB)) (hx.below (h.mono hB)) (Nat.le_trans hB h.size))
  by_cases h0 : askT N d x = 0
  · obtain ⟨hT, hV⟩ := askT_ok h0
    rw [h0] at KA
    have hv1 := isV_iff.1 hV
    have hxl := hv1.2.2.1
    have hr : stepsV N d x = ((colsC x (tstT N x N.length 0)).map CT.st, 0) := by unfold stepsV; rw [why_one hT hV]
    rw [hr]
    have KB := Lib.hid (fun W (h : Below w.heap.size w W) => ref_above N d A A2 x c c2 B W hT hV (hA.below (h.mono hB)) (hx.below (h.mono hB)) (Nat.le_trans hB h.size))
    unfold GivesI at KB
    have hwl := way_len (N := N) (x := x) N.length 0
    have htl := tst_len (N := N) (x := x) N.length 0
    obtain ⟨_, _, _, d0, s0, _⟩ := isT_iff.1 hT
    have HQ : Hid (∀ i, i < (tstT N x N.length 0).length → ∃ q : Nat, q < N.length ∧ (wayT N x N.length 0).getD i 0 = (q : Int) ∧ ((tstT N x N.length 0).getD i ts0).co = (N.getD q tn0).co) := fun i hi => by
      obtain ⟨q, e', d', q1, q2, q3, _⟩ := way_tst hV _ _ _ _ s0 i hi
      exact ⟨q, by have := q1.lt; omega, q2, by rw [q3]⟩
    have HCL : Hid (∀ q, q < N.length → ∀ i, i < (tstT N x N.length 0).length → ((tstT N x N.length 0).getD i ts0).co = (N.getD q tn0).co → (N.getD q tn0).co.length = x.length) := fun q hq i hi e => by
      have hm : (tstT N x N.length 0).getD i ts0 ∈ tstT N x N.length 0 := by
        rw [List.getD_eq_getElem?_getD, List.getElem?_eq_getElem hi]
        exact List.getElem_mem hi
      have ho := (tstT_ok hV _ _ _ _ s0 _ hm).1
      rw [← e]
      unfold isC at ho
      rw [Bool.and_eq_true] at ho
      have := (partsV_iff.1 ho.1).2.2.1
      omega
    have HSS := Lib.hid (fun i hi q => sti_succ x (tstT N x N.length 0) (i := i) hi q)
    have HSB := Lib.hid (fun i q => sti_bd x (tstT N x N.length 0) i q)
    have HMA := Lib.hid (mixK_all x (tstT N x N.length 0))
    have HML := Lib.hid (fun n i k => mixK_len x (tstT N x N.length 0) n i k)
    have HMT := Lib.hid (fun n i k q hq => mixK_at x (tstT N x N.length 0) (n := n) (i := i) (k := k) (q := q) hq)
    have HMS := Lib.hid (fun n i k hk => mixK_step x (tstT N x N.length 0) (n := n) (i := i) (k := k) hk)
    have HMN := Lib.hid (fun n i => mixK_next x (tstT N x N.length 0) n i)
    have HMZ := Lib.hid (fun n => mixK_zero x (tstT N x N.length 0) n)
    have HN := Lib.hid (fun W (h : Below w.heap.size w W) q (hq : q < N.length) => (hA.below (h.mono hB)).at (k := q) hq)
    obtain ⟨n, hn⟩ : ∃ n, n = x.length := ⟨_, rfl⟩
    obtain rfl : d = (n : Int) := by omega
    have hn8 : (n : Int) ≤ 8 := hv1.2.1
    have hn1 : 0 < n := by have := hv1.1; omega
    rw [← hn] at KA KB HMA HCL ⊢
    clear hA hx h0 hT hV hv1 hxl hr s0
    generalize sti x (tstT N x N.length 0) = st at *
    generalize mixK x (tstT N x N.length 0) = mx at *
    generalize wayT N x N.length 0 = WY at *
    generalize (colsC x (tstT N x N.length 0)).map CT.st = RS at *
    generalize tstT N x N.length 0 = TE at *
    obtain ⟨m, hm⟩ : ∃ m, m = TE.length := ⟨_, rfl⟩
    rw [← hm] at hwl htl HQ HCL HSS HSB HMA
    rw [hwl] at KB
    clear hm hn
    have hm1 : (m : Int) ≤ 1000 := by omega
    generalize hM : N.length = M at *
    clear hM
    go_enter Try.func12, Try.ntmps12
    go_wp2_with fail
    refine (KA.out _ HX.out.2.1).mono ?_
    rintro e w1 ⟨rfl, b1⟩
    have J1 := Lib.hid (HX.out.below b1)
    clear b1 y0 y1
    obtain ⟨y0, y1⟩ := box_cut J1.out.head
    go_wp2_with fail
    refine (KB.out _ J1.out.2.1).mono ?_
    rintro e w2 ⟨A7, c7, rfl, g1, g2, l7, b2⟩
    have J2 := Lib.hid (J1.out.below b2)
    clear b2 y0 y1 KA KB
    obtain ⟨a7, eA7, ha7, hc7⟩ := l7 (by omega)
    subst eA7
    have HB2 := Lib.hid J2.out.2.1
    have hsz2 := HB2.out.size
    have HTB := Lib.hid (fun X (h : Below w2.heap.size w2 X) => box_cut (J2.out.head.below h J2.out.head.lt))
    have HWC : Hid (∀ X (h : Below w2.heap.size w2 X) i (hi : i < m + 1), X.cell? (a7.add i) = some (.int .i64 (WY.getD i 0))) := fun X h i hi => by
      rw [← hc7 i (by omega)]
      exact h.cell (by rw [add_block]; exact ha7)
    clear hc7
    obtain ⟨y0, y1⟩ := box_cut J2.out.head
    go_wp2_with (at_make; refine make_ints rfl (.tmp 21) (.tmp 21) rfl n rfl rfl (by omega) ?_; intro w3 ho3 hb3; have HO3 := Lib.hid ho3; have HB3 := Lib.hid hb3; clear ho3 hb3)
    go_loopw [9] (fun iv wr => ∃ i : Nat, i ≤ m ∧ iv = .int .i64 i ∧ Hid (OwnI wr w2.heap.size (mx n i 0)) ∧ Hid (Below w2.heap.size w2 wr)) (fun iv _ => m - (intOf iv).toNat)
    case atStart =>
      refine ⟨0, by omega, rfl, ?_, HB3.out⟩
      show OwnI _ _ _
      rw [HMZ.out]
      exact HO3.out
    case round =>
      obtain ⟨i, hi, rfl, HO, HB⟩ := hrel
      by_cases hlt : i < m
      · have hlg : (i : Int) + 1 < (m : Int) + 1 := by omega
        obtain ⟨q, hq, hwq, hcq⟩ := HQ.out i hlt
        have hcl := HCL.out q hq i hlt hcq
        have hqg : (q : Int) < (M : Int) := by omega
        have HSi := Lib.hid (HSS.out i hlt)
        rw [hcq] at HSi
        have HWi : Hid (∀ X (h : Below w2.heap.size w2 X), X.cell? (a7.add i) = some (.int .i64 (q : Int))) := fun X h => by rw [← hwq]; exact HWC.out X h i (by omega)
        have HNq := Lib.hid (fun X (h : Below w2.heap.size w2 X) => HN.out X (HB2.out.trans (h.mono hsz2)) q hq)
        clear hcq hwq
        generalize N.getD q tn0 = nd at *
        obtain ⟨na, nc, nco, nlv, nlf, nrt, nsz⟩ := nd
        simp only at hcl HSi HNq
        rw [hcl] at HNq
        go_wp2
        go_loopw [10] (fun kv wr => ∃ k : Nat, k ≤ n ∧ kv = .int .i64 k ∧ Hid (OwnI wr w2.heap.size (mx n i k)) ∧ Hid (Below w2.heap.size w2 wr)) (fun kv _ => n - (intOf kv).toNat)
        case atStart => exact ⟨0, by omega, rfl, HO.out, HB.out⟩
        case round =>
          obtain ⟨k, hk, rfl, HOk, HBk⟩ := hrel
          have tb := HTB.out _ HBk.out
          clear y0 y1
          have y0 := tb.1
          have y1 := tb.2
          clear tb
          by_cases hkt : k < n
          · have hkg : (k : Int) < (n : Int) := by omega
            have u0 := HWi.out _ HBk.out
            obtain ⟨ad, eA, _, ⟨n0, _, _, _, _⟩, lco⟩ := HNq.out _ HBk.out
            subst eA
            obtain ⟨aco, eco, _, hco⟩ := lco (by omega)
            have c0 := hco k (by omega)
            subst eco
            have hs := HSi.out k
            have HSk := Lib.hid hs
            have hb0 := HSB.out i k
            have o0 := HOk.out.cell (k := k) (by rw [HML.out]; exact hkt)
            rw [HMT.out n i k k hkt, if_neg (by omega)] at o0
            have f0 := HOk.out.free k
            have HBd := Lib.hid (fun t => below_drewN2 HBk.out t)
            have HMk := Lib.hid (HMS.out n i k hkt)
            have hset : (mx n i k).getD k 0 = st i k := by rw [HMT.out n i k k hkt, if_neg (by omega)]
            have HSET := Lib.hid hset
            clear hs hset hco lco
            obtain ⟨hb1, hb2⟩ := hb0
            by_cases hz : nco.getD k 0 = 0
            · have HE : Hid (mx n i (k + 1) = mx n i k) := by
                show _ = _
                rw [HMk.out, HSk.out, if_pos hz, Int.add_zero, ← HSET.out]
                exact set_own _ _
              rw [hz] at c0
              clear hz HSk
              generalize st i k = s at *
              go_wp2
              go_quiet (fail)
              go_wp2
              refine ⟨⟨k + 1, by omega, by go_num, ?_, HBd.out _⟩, by first | (simp [intOf]; done) | (simp [intOf]; omega)⟩
              show OwnI _ _ _
              rw [HE.out]
              exact OwnI.drewN HOk.out _
            · have hz1 : (nco.getD k 0 == 0) = false := by simpa using hz
              have HE : Hid (mx n i (k + 1) = (mx n i k).set k (st i k + 1)) := by
                show _ = _
                rw [HMk.out, HSk.out, if_neg hz]
              clear hz HSk
              generalize nco.getD k 0 = cf at *
              generalize st i k = s at *
              have HO2 := Lib.hid (fun t => (OwnI.drewN HOk.out t).set (k := k) (by rw [HML.out]; exact hkt) (s + 1))
              have HOd := Lib.hid (fun t => OwnI.drewN HOk.out t)
              go_wp2
              go_quiet (fail)
              go_wp2
              refine ⟨⟨k + 1, by omega, by go_num, ?_, (HBd.out _).setCell (p := ⟨w2.heap.size, k, none⟩) (Nat.le_refl _) _⟩, by first | (simp [intOf]; done) | (simp [intOf]; omega)⟩
              show OwnI _ _ _
              rw [HE.out]
              exact HO2.out _
          · obtain rfl : k = n := by omega
            go_wp2
            refine ⟨⟨i + 1, by omega, by go_num, ?_, HBk.out⟩, by first | (simp [intOf]; done) | (simp [intOf]; omega)⟩
            show OwnI _ _ _
            rw [← HMN.out]
            exact HOk.out
      · obtain rfl : i = m := by omega
        have HO2 : Hid (OwnI wr w2.heap.size RS) := by
          show OwnI _ _ _
          rw [← HMA.out]
          exact HO.out
        have hrl : RS.length = n := by rw [← HMA.out]; exact HML.out _ _ _
        go_wp2
        go_ret2
        exact ⟨some ⟨w2.heap.size, 0, none⟩, n, by simp [hrl], by rw [hrl]; exact Nat.le_refl _, by unfold maxLen; omega, HO2.out.lies, HB2.out.trans (HB.out.mono hsz2)⟩
  · have hr : stepsV N d x = ([], askT N d x) := by unfold stepsV; rw [askT_err h0]; rfl
    rw [hr]
    generalize askT N d x = z at *
    have hz0 : (z == 0) = false := by simpa using h0
    clear hA hx hr
    generalize N.length = M at *
    generalize x.length = LX at *
    go_enter Try.func12, Try.ntmps12
    go_wp2_with fail
    refine (KA.out _ HX.out.2.1).mono ?_
    rintro e w1 ⟨rfl, b1⟩
    have J1 := Lib.hid (HX.out.below b1)
    go_wp2
    go_ret2
    exact givesTr_nil J1.out.2.1
end Go.Proofs.Yteenemdiokajbaa
/-! Layer 16's reference: All, Main. -/
namespace Go.Proofs.Yteenemdiokajbaa
open Go.RowKit
set_option linter.unusedVariables false
set_option linter.unusedSimpArgs false

/-- two rooms and counts, together -/
def joinC (t u : CT) : CT := ⟨t.st + u.st, max t.lo u.lo, min t.hi u.hi⟩
theorem pas_join (e : TS) (x : List Int) (i : Nat) (t u : CT) : pasC e x i (joinC t u) = joinC t (pasC e x i u) := by
  unfold pasC
  by_cases h0 : e.co.getD i 0 = 0
  · rw [if_pos h0, if_pos h0]
  · rw [if_neg h0, if_neg h0]
    unfold joinC nrw
    simp only
    generalize x.getD i 0 + rstE e x / dirE e i = z1
    generalize x.getD i 0 - rstE e x / (-dirE e i) = z2
    by_cases hc : 0 < dirE e i
    · rw [if_pos hc, if_pos hc]
      simp only [CT.mk.injEq]
      exact ⟨by omega, trivial, by omega⟩
    · rw [if_neg hc, if_neg hc]
      simp only [CT.mk.injEq]
      exact ⟨by omega, by omega, trivial⟩
theorem fold_join (x : List Int) (i : Nat) : ∀ (F : List TS) (t u : CT), F.foldl (fun t e => pasC e x i t) (joinC t u) = joinC t (F.foldl (fun t e => pasC e x i t) u)
  | [], t, u => rfl
  | e :: F, t, u => by rw [List.foldl_cons, pas_join, fold_join x i F, List.foldl_cons]
theorem col_app (x : List Int) (i : Nat) (E F : List TS) : colC x i (E ++ F) = joinC (colC x i E) (colC x i F) := by
  have hb := col_bd x i E ct0 (by unfold ct0; simp)
  have e1 : joinC (colC x i E) ct0 = colC x i E := by
    unfold joinC
    have e2 : (ct0).st = 0 := rfl
    have e3 : (ct0).lo = -2147483648 := rfl
    have e4 : (ct0).hi = 2147483647 := rfl
    unfold colC at *
    rw [e2, e3, e4]
    generalize E.foldl (fun t e => pasC e x i t) ct0 = t at *
    obtain ⟨a, b, c⟩ := t
    simp only [CT.mk.injEq] at *
    omega
  unfold colC at *
  rw [List.foldl_append, ← fold_join, e1]
/-- what is told of columns, in the memory, three cells each -/
def LiesC (w : World) (B : Nat) (A : Option Addr) (L : List CT) : Prop :=
  0 < L.length → ∃ ad : Addr, A = some ad ∧ ad.block < B ∧ ∀ j, j < L.length → w.cell? (ad.add (j * 3)) = some (.int .i64 (L.getD j ct0).st) ∧ w.cell? ⟨(ad.add (j * 3)).block, (ad.add (j * 3)).off + 1, none⟩ = some (.int .i64 (L.getD j ct0).lo) ∧ w.cell? ⟨(ad.add (j * 3)).block, (ad.add (j * 3)).off + 2, none⟩ = some (.int .i64 (L.getD j ct0).hi)
theorem LiesC.below {w w' : World} {B : Nat} {A : Option Addr} {L : List CT} (h : LiesC w B A L) (hb : Below B w w') : LiesC w' B A L := fun h0 => by
  obtain ⟨ad, e, hB, hc⟩ := h h0
  refine ⟨ad, e, hB, fun j hj => ?_⟩
  obtain ⟨c0, c1, c2⟩ := hc j hj
  exact ⟨(hb.cell (by rw [add_block]; exact hB)).trans c0, (hb.cell (by show (ad.add (j * 3)).block < B; rw [add_block]; exact hB)).trans c1, (hb.cell (by show (ad.add (j * 3)).block < B; rw [add_block]; exact hB)).trans c2⟩
theorem LiesC.mono {w : World} {B B' : Nat} {A : Option Addr} {L : List CT} (h : LiesC w B A L) (hB : B ≤ B') : LiesC w B' A L := fun h0 => by
  obtain ⟨ad, e, hb, hc⟩ := h h0
  exact ⟨ad, e, Nat.lt_of_lt_of_le hb hB, hc⟩
def OwnK (w : World) (B : Nat) (v : Value) (L : List CT) : Prop := w.ownsRow B 47 3 v L.length (ctL L)
theorem ct_one (t : CT) : ∀ u ∈ ctC t, u.oneCell' = true := by
  intro u hu
  simp [ctC] at hu
  rcases hu with rfl | rfl | rfl <;> rfl
/-- one more -/
theorem app_ct {B : Nat} {W : World} {ops : Array Oper} {rest : List Oper} {o : Oper} {a : Act} {Q : Exit → Act → World → Prop} (hgd : o.guard = none) (s x : Operand)
    (ho : o.op = .call { callee := .builtin .append, args := #[s, x], argTypes := #[41, 41] })
    (v : Value) (L : List CT) (n : CT) (g : Nat) (hs : a.eval s = v) (hx : a.eval x = .slice (some ⟨g, 0, none⟩) 1 1) (hown : OwnK W B v L) (hb : Box W g (ctC n).toArray 47) (hB : B ≤ W.heap.size) (hN : L.length ≤ 1000000)
    (h : ∀ v' w', OwnK w' B v' (L ++ [n]) → Below B W w' → wpList Try.prog ops Q rest (a.put o.dst v') w') : wpList Try.prog ops Q (o :: rest) a W := by
  refine wpList_plain hgd fun K hK => ?_
  obtain ⟨i0, hi, hz0, hz1, hz2⟩ := info_parts5 info_why
  refine wp_append_where (P := Try.prog) W s x 41 ho B 47 i0 _ 3 24 Try.underlying41 hi hz0 hz1 hz2 rfl (by decide) v L.length (ctL L) hs hown ⟨g, 0, none⟩ 1 1 (ctC n) hx rfl ?_ (ct_one n) ?_ ?_ hB ?_
  · intro j u hj
    rw [cell_add, hb.cell j, ← Array.getElem?_toList]
    exact hj
  · unfold maxLen; omega
  · omega
  · intro v' w' h1 h2 h3
    refine hK _ _ (h v' w' ?_ ((Below.refl _ _).grown h2 hB fun k hk => (hown.lt k hk).1))
    unfold OwnK
    rw [List.length_append, show ctL (L ++ [n]) = ctL L ++ ctC n from by unfold ctL; simp]
    exact h1
theorem OwnK.lies {w : World} {B : Nat} {v : Value} {L : List CT} (h : OwnK w B v L) : ∃ A c, v = .slice A L.length c ∧ LiesC w w.heap.size A L := by
  rcases Nat.eq_zero_or_pos L.length with h0 | h0
  · rcases h.2 with ⟨e, _⟩ | ⟨g, cap, cur, e, _⟩
    · exact ⟨none, 0, by rw [e, h0], fun h1 => absurd h1 (by omega)⟩
    · exact ⟨_, cap, e, fun h1 => absurd h1 (by omega)⟩
  · obtain ⟨g, c, cur, e, _, _, _, hbx, hcell⟩ := own_box h h0
    refine ⟨_, c, e, fun _ => ⟨⟨g, 0, none⟩, rfl, hbx.lt, fun k hk => ?_⟩⟩
    have key : ∀ j, j < 3 → w.cell? ((⟨g, 0, none⟩ : Addr).add (k * 3 + j)) = (ctC (L.getD k ct0))[j]? := fun j hj => by
      rw [cell_add, hcell _ (by omega)]
      exact flat_get _ 3 ctC_len j hj L k _ (ct_get hk)
    exact ⟨key 0 (by omega), by rw [fldT _ _ _ (by omega)]; exact key 1 (by omega), by rw [fldT _ _ _ (by omega)]; exact key 2 (by omega)⟩
theorem OwnK.below {w w' : World} {B : Nat} {v : Value} {L : List CT} (h : OwnK w B v L) (hb : Below w.heap.size w w') : OwnK w' B v L := own_belowG h hb
theorem OwnY.lies {w : World} {g : Nat} {L : List CT} (h : OwnY w g L) : LiesC w w.heap.size (some ⟨g, 0, none⟩) L := fun _ => by
  refine ⟨⟨g, 0, none⟩, rfl, h.lt, fun k hk => ?_⟩
  obtain ⟨u0, u1, u2⟩ := h.at hk
  have e1 : ∀ m, (⟨g, 0, none⟩ : Addr).add m = ⟨g, m, none⟩ := fun m => by unfold Addr.add; split <;> simp_all
  rw [e1]
  exact ⟨u0, u1, u2⟩
theorem own_no {w : World} {B : Nat} {v : Value} {L : List CT} (h : OwnK w B v L) : ¬ v.ownBlock = some w.heap.size := fun e => Nat.lt_irrefl _ (h.lt _ e).2
theorem OwnK.kept {w w' : World} {B g : Nat} {v : Value} {L : List CT} (h : OwnK w B v L) (hg : w.grownBy w' (some g)) (hne : ¬ v.ownBlock = some g) : OwnK w' B v L := World.ownsRow.kept h hg (.inr hne)
/-- it gives a row of columns, and that error -/
def GivesL (r : List CT × Int) (w : World) (e : Ending) (w' : World) : Prop :=
  ∃ A c, e = .returned (.tuple #[.slice A r.1.length c, .int .i64 r.2]) ∧ LiesC w' w'.heap.size A r.1 ∧ Below w.heap.size w w'
theorem tst_one {N : List TN} {d : Int} {x : List Int} (hT : isT N d = true) (hx : isV x d = true) {k : Nat} (hk : k < x.length) : (stepsV N d x).2 = 0 ∧ (stepsV N d x).1.length = x.length ∧ (stepsV N d x).1.getD k 0 = (colC x k (tstT N x N.length 0)).st ∧ roomV N d x k = ((colC x k (tstT N x N.length 0)).lo, (colC x k (tstT N x N.length 0)).hi, 0) := by
  refine ⟨?_, ?_, ?_, ?_⟩
  · unfold stepsV; rw [why_one hT hx]
  · unfold stepsV; rw [why_one hT hx]; simp [colsC]
  · unfold stepsV
    rw [why_one hT hx]
    have h := colsC_at x (tstT N x N.length 0) hk
    simp only
    rw [List.getD_eq_getElem?_getD, List.getElem?_map]
    rw [List.getD_eq_getElem?_getD, List.getElem?_eq_getElem (by rw [colsC_len]; exact hk), Option.getD_some] at h
    rw [List.getElem?_eq_getElem (by rw [colsC_len]; exact hk), h]
    rfl
  · unfold roomV
    rw [why_one hT hx, if_neg (by simp), if_pos (by rw [colsC_len]; omega), Int.toNat_natCast, colsC_at x _ hk]
set_option maxRecDepth 100000 in
set_option maxHeartbeats 8000000 in
theorem ref_All16 (T : List TT) (A A2 : Option Addr) (x : List Int) (c c2 B : Nat) (w : World) (hl : T.length ≤ 1000000) (ho : okTs T) (hA : LiesTs w B A T) (hx : Lies w B A2 x) (hB : B ≤ w.heap.size) :
    Calls Try.prog 22 #[.slice A T.length c, .slice A2 x.length c2] w (GivesL (whyV T x) w) := by
  have KS := Lib.hid (ref_Sum12 T A A2 x c c2 B w hl ho hA hx hB)
  by_cases h0 : (sumV T x).2 = 0
  · have hv : whyV T x = (colsC x (tstK T x T.length), 0) := by unfold whyV; rw [if_pos h0]
    rw [hv]
    obtain ⟨h16, hM0, hall, hxv⟩ := sumV_ok h0
    have HA := Lib.hid (fun W (h : Below w.heap.size w W) => hA.below (h.mono hB))
    have KT := Lib.hid (fun k (hk : k < T.length) W (h : Below w.heap.size w W) => ref_Steps16 (T.getD k tt0).n (T.getD k tt0).dim (T.getD k tt0).a A2 x (T.getD k tt0).c c2 B W (ho _ (mem_tt hk)).2 ((hA.2 _ (mem_tt hk)).below (h.mono hB)) (hx.below (h.mono hB)) (Nat.le_trans hB h.size))
    have KR := Lib.hid (fun k (hk : k < T.length) (q : Nat) W (h : Below w.heap.size w W) => ref_Room16 (T.getD k tt0).n (T.getD k tt0).dim (T.getD k tt0).a A2 x (T.getD k tt0).c c2 B q W (ho _ (mem_tt hk)).2 ((hA.2 _ (mem_tt hk)).below (h.mono hB)) (hx.below (h.mono hB)) (Nat.le_trans hB h.size))
    unfold GivesTr at KT
    have HONE : Hid (∀ k, k < T.length → ∀ q, q < x.length → (stepsV (T.getD k tt0).n (T.getD k tt0).dim x).2 = 0 ∧ (stepsV (T.getD k tt0).n (T.getD k tt0).dim x).1.length = x.length ∧ (stepsV (T.getD k tt0).n (T.getD k tt0).dim x).1.getD q 0 = (colC x q (tstT (T.getD k tt0).n x (T.getD k tt0).n.length 0)).st ∧ roomV (T.getD k tt0).n (T.getD k tt0).dim x q = ((colC x q (tstT (T.getD k tt0).n x (T.getD k tt0).n.length 0)).lo, (colC x q (tstT (T.getD k tt0).n x (T.getD k tt0).n.length 0)).hi, 0)) := fun k hk q hq => by
      obtain ⟨hT, hd⟩ := hall k hk
      rw [hd] at hT ⊢
      exact tst_one hT hxv hq
    have HAPP : Hid (∀ k q, colC x q (tstK T x (k + 1)) = joinC (colC x q (tstK T x k)) (colC x q (tstT (T.getD k tt0).n x (T.getD k tt0).n.length 0))) := fun k q => col_app _ _ _ _
    have HSB : Hid (∀ q F, F.length ≤ 100000 → 0 ≤ (colC x q F).st ∧ (colC x q F).st ≤ 100000) := fun q F hF => by
      have := colC_st x q F ct0
      unfold colC
      have e0 : ct0.st = 0 := rfl
      omega
    have HTL := Lib.hid (fun k hk => (tstK_ok h0 k hk).2)
    have HTL1 : Hid (∀ k, k < T.length → (tstT (T.getD k tt0).n x (T.getD k tt0).n.length 0).length ≤ 1000) := fun k hk => by
      have h1 := tst_len (N := (T.getD k tt0).n) (x := x) (T.getD k tt0).n.length 0
      have h2 := (ho _ (mem_tt hk)).2
      omega
    have hx8 := (isV_iff.1 hxv).2
    have hxn8 : (x.length : Int) ≤ 8 := by omega
    have HC0 : Hid (∀ q, colC x q (tstK T x 0) = ct0) := fun q => rfl
    have HCOL : Hid (∀ q, q < x.length → (colsC x (tstK T x T.length)).take (q + 1) = (colsC x (tstK T x T.length)).take q ++ [colC x q (tstK T x T.length)]) := fun q hq => by
      have hlq : q < (colsC x (tstK T x T.length)).length := by rw [colsC_len]; exact hq
      have := colsC_at x (tstK T x T.length) hq
      rw [List.take_succ_eq_append_getElem hlq]
      rw [List.getD_eq_getElem?_getD, List.getElem?_eq_getElem hlq, Option.getD_some] at this
      rw [this]
    have hcl := colsC_len x (tstK T x T.length)
    rw [h0] at KS
    clear hv ho hA hx hall hxv h0 hx8
    generalize colsC x (tstK T x T.length) = R at *
    generalize (sumV T x).1 = s1 at *
    obtain ⟨M, hM⟩ : ∃ M, M = T.length := ⟨_, rfl⟩
    have HM := Lib.hid hM
    rw [← hM] at h16 hM0 KS HCOL ⊢
    clear hM
    have h16' : (M : Int) ≤ 16 := by omega
    obtain ⟨n, hn⟩ : ∃ n, n = x.length := ⟨_, rfl⟩
    have HN := Lib.hid hn
    rw [← hn] at KS KT KR hxn8 HCOL hcl HONE ⊢
    clear hn
    go_enter Try.func22, Try.ntmps22
    go_wp2_with fail
    refine KS.out.mono ?_
    rintro e w1 ⟨rfl, b1⟩
    have HB1 := Lib.hid b1
    have hsz1 := b1.size
    clear b1 KS
    go_wp2
    go_loopw [8, 9] (fun v qv wr => ∃ q : Nat, q ≤ n ∧ qv = .int .i64 q ∧ Hid (OwnK wr w1.heap.size v (R.take q)) ∧ Hid (Below w1.heap.size w1 wr)) (fun _ qv _ => n - (intOf qv).toNat)
    case atStart => exact ⟨0, by omega, rfl, World.ownsRow_nil _ _ _ _, Below.refl _ _⟩
    case round =>
      obtain ⟨q, hq, rfl, HO, HB⟩ := hrel
      by_cases hqt : q < n
      · have hqg : (q : Int) < (n : Int) := by omega
        have HRq := Lib.hid (HCOL.out q hqt)
        have hszr := HB.out.size
        have hb3 := (Below.refl wr.heap.size wr).alloc (Nat.le_refl _) (.cells (ctC ct0).toArray 47)
        have HO3 := Lib.hid (HO.out.below hb3)
        have HB3 := Lib.hid (HB.out.trans (hb3.mono hszr))
        have HBX3 := Lib.hid (Box.new wr (ctC ct0).toArray 47)
        clear hb3
        go_wp2
        have hne := Lib.hid (own_no HO.out)
        generalize hb0 : wr.heap.size = gb at *
        go_loopw [11] (fun kv wr' => ∃ k : Nat, k ≤ M ∧ kv = .int .i64 k ∧ Hid (OwnY wr' gb [colC x q (tstK T x k)]) ∧ Hid ((wr.alloc (.cells (ctC ct0).toArray 47)).grownBy wr' (some gb))) (fun kv _ => M - (intOf kv).toNat)
        case atStart =>
          refine ⟨0, by omega, rfl, ?_, grown_below (Below.refl _ _)⟩
          show Box _ _ (ctL [_]).toArray _
          rw [HC0.out]
          have hb9 := HBX3.out
          have e9 : (ctL [ct0]).toArray = (ctC ct0).toArray := by simp [ctL]
          rw [e9]
          exact hb9
        case round =>
          obtain ⟨k, hk, rfl, HY, HG⟩ := hrel
          have HB4 : Hid (Below w1.heap.size w1 wr) := HB3.out.grown HG.out HB3.out.size (fun t ht => by cases ht; omega)
          have HBw := Lib.hid (HB1.out.trans (HB4.out.mono hsz1))
          by_cases hkt : k < M
          · have hkg : (k : Int) < (M : Int) := by omega
            have hkT : k < T.length := by have := HM.out; omega
            obtain ⟨ad, eA, hab, ⟨c0, c1⟩, _⟩ := (HA.out wr HBw.out).at hkT
            have HAT := Lib.hid (fun W (h : Below w.heap.size w W) => (HA.out W h).at hkT)
            subst eA
            obtain ⟨o1, o2, o3, o4⟩ := HONE.out k hkT q hqt
            have KTk := Lib.hid (KT.out k hkT wr HBw.out)
            have KRk := Lib.hid (fun W h => KR.out k hkT q W h)
            have HAk := Lib.hid (HAPP.out k q)
            have hs1 := HSB.out q (tstK T x k) (by have := HTL.out k (by have := HM.out; omega); omega)
            have hs2 := HSB.out q (tstT (T.getD k tt0).n x (T.getD k tt0).n.length 0) (by have := HTL1.out k hkT; omega)
            rw [o1] at KTk
            rw [o2] at KTk
            rw [o4] at KRk
            have HO3' := Lib.hid o3
            have HSL := Lib.hid o2
            clear o1 o2 o3 o4 hkT
            generalize colC x q (tstT (T.getD k tt0).n x (T.getD k tt0).n.length 0) = u at *
            generalize (stepsV (T.getD k tt0).n (T.getD k tt0).dim x).1 = SV at *
            generalize T.getD k tt0 = t at *
            obtain ⟨td, ta, tc, tn⟩ := t
            generalize colC x q (tstK T x k) = cu at *
            obtain ⟨ts, tl, th⟩ := cu
            obtain ⟨us, ul, uh⟩ := u
            simp only at *
            generalize tn.length = L at *
            go_wp2_with fail
            refine KTk.out.mono ?_
            rintro e w4 ⟨A4, c4, rfl, g1, g2, l4, b4⟩
            obtain ⟨ad4, eA4, ha4, hc4⟩ := l4 (by have := HSL.out; omega)
            subst eA4
            have hc4q := hc4 q (by have := HSL.out; omega)
            rw [HO3'.out] at hc4q
            have HBw4 := Lib.hid (HBw.out.trans (b4.mono HBw.out.size))
            have HY4 := Lib.hid (HY.out.below b4 HY.out.lt)
            have HG4 := Lib.hid (grown_trans HG.out (grown_below (r := some gb) b4))
            obtain ⟨ad', eA', _, ⟨c0', c1'⟩, _⟩ := HAT.out w4 HBw4.out
            cases eA'
            clear b4 l4 hc4 c0 c1
            go_wp2_with fail
            refine (KRk.out _ HBw4.out).mono ?_
            rintro e w5 ⟨rfl, b5⟩
            have HBw5 := Lib.hid (HBw4.out.trans (b5.mono HBw4.out.size))
            have HY5 := Lib.hid (HY4.out.below b5 HY4.out.lt)
            have HG5 := Lib.hid (grown_trans HG4.out (grown_below (r := some gb) b5))
            have s5 := (b5.cell (show (ad4.add q).block < w4.heap.size by rw [add_block]; exact ha4)).trans hc4q
            have hv0 := HY5.out.at (k := 0) (by simp)
            obtain ⟨v0, v1, v2⟩ := hv0
            have f0 := HY5.out.free 0
            have f1 := HY5.out.free 1
            have f2 := HY5.out.free 2
            obtain ⟨hs11, hs12⟩ := hs1
            obtain ⟨hs21, hs22⟩ := hs2
            clear b5 hc4q c0' c1'
            go_wp2
            go_region
            have HYa : Hid (OwnY (w5.setCell ⟨gb, 0, none⟩ (.int .i64 (ts + us))).drew gb [⟨ts + us, tl, th⟩]) := HY5.out.set (k := 0) (j := 0) (by simp) (by omega) (.int .i64 (ts + us)) ⟨ts + us, tl, th⟩ rfl
            have HGa := Lib.hid (grown_trans HG5.out (grown_drew (grown_set w5 ⟨gb, 0, none⟩ (.int .i64 (ts + us)))))
            generalize (w5.setCell ⟨gb, 0, none⟩ (.int .i64 (ts + us))).drew = Wa at *
            clear v0 v1 v2 f0 f1 f2 s5 HY5 HG5
            obtain ⟨a0, a1, a2⟩ := HYa.out.at (k := 0) (by simp)
            have fa1 := HYa.out.free 1
            have fa2 := HYa.out.free 2
            by_cases q1 : tl < ul
            · by_cases q2 : uh < th
              · skip
                have HYb : Hid (OwnY (Wa.setCell ⟨gb, 1, none⟩ (.int .i64 ul)) gb [⟨ts + us, ul, th⟩]) := HYa.out.set (k := 0) (j := 1) (by simp) (by omega) (.int .i64 ul) ⟨ts + us, ul, th⟩ rfl
                have HGb := Lib.hid (grown_trans HGa.out (grown_set Wa ⟨gb, 1, none⟩ (.int .i64 ul)))
                obtain ⟨b0, b1, b2⟩ := HYb.out.at (k := 0) (by simp)
                have fb2 := HYb.out.free 2
                have HYc : Hid (OwnY ((Wa.setCell ⟨gb, 1, none⟩ (.int .i64 ul)).setCell ⟨gb, 2, none⟩ (.int .i64 uh)) gb [⟨ts + us, ul, uh⟩]) := HYb.out.set (k := 0) (j := 2) (by simp) (by omega) (.int .i64 uh) ⟨ts + us, ul, uh⟩ rfl
                have HGc := Lib.hid (grown_trans HGb.out (grown_set (Wa.setCell ⟨gb, 1, none⟩ (.int .i64 ul)) ⟨gb, 2, none⟩ (.int .i64 uh)))
                have hj : joinC ⟨ts, tl, th⟩ ⟨us, ul, uh⟩ = ⟨ts + us, ul, uh⟩ := by
                  unfold joinC
                  simp only [CT.mk.injEq]
                  exact ⟨trivial, by omega, by omega⟩
                have HJ := Lib.hid (HAk.out.trans hj)
                clear hj
                go_wp2
                refine ⟨⟨k + 1, by omega, by go_num, ?_, HGc.out⟩, by first | (simp [intOf]; done) | (simp [intOf]; omega)⟩
                show OwnY _ _ _
                rw [HJ.out]
                exact HYc.out
              · skip
                have HYb : Hid (OwnY (Wa.setCell ⟨gb, 1, none⟩ (.int .i64 ul)) gb [⟨ts + us, ul, th⟩]) := HYa.out.set (k := 0) (j := 1) (by simp) (by omega) (.int .i64 ul) ⟨ts + us, ul, th⟩ rfl
                have HGb := Lib.hid (grown_trans HGa.out (grown_set Wa ⟨gb, 1, none⟩ (.int .i64 ul)))
                obtain ⟨b0, b1, b2⟩ := HYb.out.at (k := 0) (by simp)
                have fb2 := HYb.out.free 2
                have hj : joinC ⟨ts, tl, th⟩ ⟨us, ul, uh⟩ = ⟨ts + us, ul, th⟩ := by
                  unfold joinC
                  simp only [CT.mk.injEq]
                  exact ⟨trivial, by omega, by omega⟩
                have HJ := Lib.hid (HAk.out.trans hj)
                clear hj
                go_wp2
                refine ⟨⟨k + 1, by omega, by go_num, ?_, HGb.out⟩, by first | (simp [intOf]; done) | (simp [intOf]; omega)⟩
                show OwnY _ _ _
                rw [HJ.out]
                exact HYb.out
            · by_cases q2 : uh < th
              · skip
                have HYc : Hid (OwnY (Wa.setCell ⟨gb, 2, none⟩ (.int .i64 uh)) gb [⟨ts + us, tl, uh⟩]) := HYa.out.set (k := 0) (j := 2) (by simp) (by omega) (.int .i64 uh) ⟨ts + us, tl, uh⟩ rfl
                have HGc := Lib.hid (grown_trans HGa.out (grown_set Wa ⟨gb, 2, none⟩ (.int .i64 uh)))
                have hj : joinC ⟨ts, tl, th⟩ ⟨us, ul, uh⟩ = ⟨ts + us, tl, uh⟩ := by
                  unfold joinC
                  simp only [CT.mk.injEq]
                  exact ⟨trivial, by omega, by omega⟩
                have HJ := Lib.hid (HAk.out.trans hj)
                clear hj
                go_wp2
                refine ⟨⟨k + 1, by omega, by go_num, ?_, HGc.out⟩, by first | (simp [intOf]; done) | (simp [intOf]; omega)⟩
                show OwnY _ _ _
                rw [HJ.out]
                exact HYc.out
              · skip
                have hj : joinC ⟨ts, tl, th⟩ ⟨us, ul, uh⟩ = ⟨ts + us, tl, th⟩ := by
                  unfold joinC
                  simp only [CT.mk.injEq]
                  exact ⟨trivial, by omega, by omega⟩
                have HJ := Lib.hid (HAk.out.trans hj)
                clear hj
                go_wp2
                refine ⟨⟨k + 1, by omega, by go_num, ?_, HGa.out⟩, by first | (simp [intOf]; done) | (simp [intOf]; omega)⟩
                show OwnY _ _ _
                rw [HJ.out]
                exact HYa.out
          · obtain rfl : k = M := by omega
            obtain ⟨v0, v1, v2⟩ := HY.out.at (k := 0) (by simp)
            have HOw := Lib.hid (HO3.out.kept HG.out hne.out)
            have hsw := HB4.out.size
            have hlr : (R.take q).length ≤ 1000000 := by rw [List.length_take]; omega
            have HTQ := Lib.hid (HRq.out)
            generalize colC x q (tstK T x k) = t at *
            obtain ⟨ts, tl, th⟩ := t
            have hbx := Lib.hid (Box.new wr (ctC ⟨ts, tl, th⟩).toArray 47)
            have HO9 := Lib.hid (HOw.out.below ((Below.refl _ _).alloc (Nat.le_refl _) (.cells (ctC ⟨ts, tl, th⟩).toArray 47)))
            have HB9 := Lib.hid ((Below.refl w1.heap.size wr).alloc hsw (.cells (ctC ⟨ts, tl, th⟩).toArray 47))
            have hs9 := Nat.le_trans hsw HB9.out.size
            go_wp2_with (at_builtin; refine app_ct rfl (.tmp 79) (.tmp 81) rfl _ (R.take q) ⟨ts, tl, th⟩ wr.heap.size rfl rfl HO9.out hbx.out hs9 hlr ?_; intro v' w9 hown9 hb9)
            refine ⟨⟨q + 1, by omega, by go_num, ?_, (HB4.out.trans HB9.out).trans hb9⟩, by first | (simp [intOf]; done) | (simp [intOf]; omega)⟩
            show OwnK _ _ _ _
            rw [HTQ.out]
            exact hown9
      · obtain rfl : q = n := by omega
        have ho := HO.out
        have htk : R.take q = R := List.take_of_length_le (by omega)
        rw [htk] at ho
        obtain ⟨A', c', rfl, hL⟩ := ho.lies
        have hfin := Lib.hid (HB1.out.trans (HB.out.mono hsz1))
        go_wp2
        go_ret2
        exact ⟨A', c', by simp, hL, hfin.out⟩
  · have hv : whyV T x = ([], (sumV T x).2) := by unfold whyV; rw [if_neg h0]
    rw [hv]
    generalize (sumV T x).1 = s1 at *
    generalize (sumV T x).2 = s2 at *
    have hr : (s2 == 0) = false := by simpa using h0
    clear hv ho hA hx h0
    generalize T.length = M at *
    generalize x.length = LX at *
    go_enter Try.func22, Try.ntmps22
    go_wp2_with fail
    refine KS.out.mono ?_
    rintro e w1 ⟨rfl, b1⟩
    have HB1 := Lib.hid b1
    go_wp2
    go_ret2
    exact ⟨none, 0, rfl, (fun h => absurd h (by simp)), HB1.out⟩
end Go.Proofs.Yteenemdiokajbaa
/-! Layer 16's reference: Main. -/
namespace Go.Proofs.Yteenemdiokajbaa
open Go.RowKit
set_option linter.unusedVariables false
set_option linter.unusedSimpArgs false

set_option maxRecDepth 100000 in
set_option maxHeartbeats 8000000 in
theorem ref_Main16 (T : List TT) (A A2 : Option Addr) (x : List Int) (c c2 B : Nat) (w : World) (hl : T.length ≤ 1000000) (ho : okTs T) (hA : LiesTs w B A T) (hx : Lies w B A2 x) (hB : B ≤ w.heap.size) :
    Calls Try.prog 24 #[.slice A T.length c, .slice A2 x.length c2] w fun e w' => e = .returned (.tuple #[.int .i64 (mainV T x).1, .int .i64 (mainV T x).2]) ∧ Below w.heap.size w w' := by
  have KA := Lib.hid (ref_All16 T A A2 x c c2 B w hl ho hA hx hB)
  have HLN := Lib.hid (whyV_len (T := T) (x := x))
  unfold GivesL at KA
  unfold mainV
  generalize whyV T x = Z at *
  obtain ⟨L, z⟩ := Z
  simp only at KA HLN ⊢
  clear hA hx ho
  by_cases hz : z = 0
  · subst hz
    rw [if_neg (by simp)]
    obtain ⟨hL, hn0, hn8⟩ := HLN.out rfl
    have HAM := Lib.hid (amK_le L)
    have HAS : Hid (∀ k, amK L (k + 1) = if (L.getD (amK L k) ct0).st < (L.getD k ct0).st then k else amK L k) := fun k => rfl
    have HA0 : Hid (amK L 0 = 0) := rfl
    obtain ⟨n, hn⟩ : ∃ n, n = L.length := ⟨_, rfl⟩
    have HN := Lib.hid hn
    rw [← hn] at KA hL ⊢
    obtain ⟨R, hR⟩ : ∃ R : Int × Int, R = (if (L.getD (amK L n) ct0).st = 0 then ((0 : Int), (4 : Int)) else ((amK L n : Int), 0)) := ⟨_, rfl⟩
    have HR1 : Hid ((L.getD (amK L n) ct0).st = 0 → R = (0, 4)) := fun h => by rw [hR, if_pos h]
    have HR2 : Hid (¬ (L.getD (amK L n) ct0).st = 0 → R = ((amK L n : Int), 0)) := fun h => by rw [hR, if_neg h]
    rw [← hR]
    clear hR
    have hn1 : (n : Int) ≤ 8 := by omega
    have hnp : 0 < n := by omega
    clear hn hL HLN
    generalize amK L = am at *
    generalize T.length = M at *
    generalize x.length = LX at *
    go_enter Try.func24, Try.ntmps24
    go_wp2_with fail
    refine KA.out.mono ?_
    rintro e w1 ⟨A1, c1, rfl, h1, b1⟩
    obtain ⟨ad, rfl, hg, oy⟩ := h1 (by have := HN.out; omega)
    have HY : Hid (∀ W, Below w1.heap.size w1 W → ∀ j, j < L.length → W.cell? (ad.add (j * 3)) = some (.int .i64 (L.getD j ct0).st)) := fun W h j hj => by
      have h0 := (oy j hj).1
      exact (h.cell (by rw [add_block]; exact hg)).trans h0
    have HB1 := Lib.hid b1
    clear b1 oy h1 KA
    have hsz := HB1.out.size
    go_wp2
    go_loopw [8, 9] (fun fv iv wr => ∃ k : Nat, k ≤ n ∧ iv = .int .i64 k ∧ fv = .int .i64 ((am k : Nat) : Int) ∧ Hid (Below w1.heap.size w1 wr)) (fun _ iv _ => n - (intOf iv).toNat)
    case atStart => exact ⟨0, by omega, rfl, by rw [HA0.out]; rfl, Below.refl _ _⟩
    case round =>
      obtain ⟨k, hk, rfl, rfl, HB⟩ := hrel
      have ham := HAM.out k
      by_cases hlt : k < n
      · have hlg : (k : Int) < (n : Int) := by omega
        have hag : ((am k : Nat) : Int) < (n : Int) := by omega
        have u0 := HY.out wr HB.out k (by have := HN.out; omega)
        have v0 := HY.out wr HB.out (am k) (by have := HN.out; omega)
        have HSk := Lib.hid (HAS.out k)
        generalize (L.getD k ct0).st = ts at *
        generalize (L.getD (am k) ct0).st = sA at *
        have HBd := Lib.hid (fun m => below_drewN2 HB.out m)
        by_cases hgt : sA < ts
        · have HS2 : Hid (am (k + 1) = k) := by
            show _ = _
            rw [HSk.out, if_pos hgt]
          go_wp2
          go_quiet (fail)
          go_wp2
          exact ⟨⟨k + 1, by omega, by go_num, by rw [HS2.out], HBd.out _⟩, by first | (simp [intOf]; done) | (simp [intOf]; omega)⟩
        · have HS2 : Hid (am (k + 1) = am k) := by
            show _ = _
            rw [HSk.out, if_neg hgt]
          go_wp2
          go_quiet (fail)
          go_wp2
          exact ⟨⟨k + 1, by omega, by go_num, by rw [HS2.out], HBd.out _⟩, by first | (simp [intOf]; done) | (simp [intOf]; omega)⟩
      · obtain rfl : k = n := by omega
        have v0 := HY.out wr HB.out (am k) (by have := HN.out; omega)
        have hag : ((am k : Nat) : Int) < (k : Int) := by omega
        have hfin := Lib.hid (HB1.out.trans (HB.out.mono hsz))
        generalize (L.getD (am k) ct0).st = sA at *
        by_cases hs0 : sA = 0
        · have HRR := Lib.hid (HR1.out hs0)
          subst hs0
          go_wp2
          go_ret2
          rw [HRR.out]
          exact ⟨by simp, hfin.out⟩
        · have hs1 : (sA == 0) = false := by simpa using hs0
          have HRR := Lib.hid (HR2.out hs0)
          go_wp2
          go_ret2
          rw [HRR.out]
          exact ⟨by simp, hfin.out⟩
  · have hz0 : (z == 0) = false := by simpa using hz
    rw [if_pos hz]
    clear HLN
    generalize T.length = M at *
    generalize x.length = LX at *
    generalize L.length = n at *
    go_enter Try.func24, Try.ntmps24
    go_wp2_with fail
    refine KA.out.mono ?_
    rintro e w1 ⟨A1, c1, rfl, -, b1⟩
    have HB1 := Lib.hid b1
    go_wp2
    go_ret2
    exact ⟨by simp, HB1.out⟩
end Go.Proofs.Yteenemdiokajbaa
