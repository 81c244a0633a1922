/- Statement ExplainRooms: whatever the input is, the Go function returns true and each argument reads as it did. No condition. -/
import Derived.Test.YteenemdiokajbaaRows
import Derived.Test.YteenemdiokajbaaExpT
import Derived.Test.YteenemdiokajbaaPatL
import Derived.Test.YteenemdiokajbaaTrE
import Derived.Test.YteenemdiokajbaaVecT
import Derived.Test.YteenemdiokajbaaBase
import Derived.ProofKit
import Derived.OpenShut
namespace Go.Proofs.Yteenemdiokajbaa.explainRooms
open Go.ChangeShapes Go.WideShapes Go.ChangeAt Go.RowKit
set_option linter.unusedVariables false

theorem own : ownKnob Try.prog.godebug = none := by kernel_rfl
theorem laid : laidOutB Try.prog = true := by kernel_rfl

theorem lenS {n : Nat} {vs : List Value} (h : vs.length = n) : ∀ i, i < n → i < vs.length := fun i hi => by omega
theorem len11R {vs : List Value} (h : vs.length = 11) : ∃ y0 y1 y2 y3 y4 y5 y6 y7 y8 y9 y10, vs = [y0, y1, y2, y3, y4, y5, y6, y7, y8, y9, y10] := by
  match vs, h with
  | [y0, y1, y2, y3, y4, y5, y6, y7, y8, y9, y10], _ => exact ⟨_, _, _, _, _, _, _, _, _, _, _, rfl⟩
set_option maxRecDepth 100000 in
set_option maxHeartbeats 8000000 in
theorem walk {w : World} (da : Int) (A : Option Addr) (N : List TN) (ca : Nat) (hA : LiesT w w.heap.size A N) (oA : okT N) (hca : N.length ≤ ca) (hma : ca ≤ 9223372036854775807) (wa : I64 da)
    (B : Option Addr) (x : List Int) (cb : Nat) (hB : Lies w w.heap.size B x) (hx : ∀ y ∈ x, I64 y) (hcb : x.length ≤ cb) (hmb : cb ≤ 9223372036854775807) (k : Int) (hk : I64 k) (v : Int) (hv : I64 v) (_ : World) :
    Calls Try.prog 4 #[.agg #[.int .i64 da, .slice A N.length ca], .slice B x.length cb, .int .i64 k, .int .i64 v] w fun e w' => e = .returned (.bool true) ∧ Below w.heap.size w w' := by
  have HX := Lib.hid ((Kpc.start w).alloc #[.int .i64 da, .slice A N.length ca] 24)
  obtain ⟨y0, y1⟩ := box_cut HX.out.head
  have K1 := Lib.hid (fun W (h : Below w.heap.size w W) => ref_MuchT N da A ca w.heap.size W (by omega) (hA.below h) h.size)
  by_cases h1 : muchT N = true ∨ 20 < x.length ∨ v < -2147483648 ∨ 2147483647 < v
  · clear hA hB oA hx
    cases h2 : muchT N with
    | true =>
      rw [h2] at K1
      clear h1 h2
      generalize N.length = n at *
      generalize x.length = m at *
      go_enter Try.func4, Try.ntmps4
      go_wp2_with fail
      refine (K1.out _ HX.out.2.1).mono ?_
      rintro e w1 ⟨rfl, b1⟩
      have J1 := Lib.hid (HX.out.below b1)
      clear b1 y0 y1
      obtain ⟨y0, y1⟩ := box_cut J1.out.head
      go_wp2_with fail
      refine (lives16 _).mono ?_
      rintro e wl ⟨rfl, hl⟩
      have hfin : Below w.heap.size w wl := J1.out.2.1.trans (hl.mono J1.out.2.1.size)
      go_wp2
      go_ret
      exact ⟨rfl, hfin⟩
    | false =>
      rw [h2] at K1 h1
      by_cases g1 : 20 < x.length
      · have g2 : (20 : Int) < (x.length : Int) := by omega
        clear h1 h2 g1
        generalize N.length = n at *
        generalize x.length = m at *
        go_enter Try.func4, Try.ntmps4
        go_wp2_with fail
        refine (K1.out _ HX.out.2.1).mono ?_
        rintro e w1 ⟨rfl, b1⟩
        have J1 := Lib.hid (HX.out.below b1)
        clear b1 y0 y1
        obtain ⟨y0, y1⟩ := box_cut J1.out.head
        go_wp2_with fail
        refine (lives16 _).mono ?_
        rintro e wl ⟨rfl, hl⟩
        have hfin : Below w.heap.size w wl := J1.out.2.1.trans (hl.mono J1.out.2.1.size)
        go_wp2
        go_ret
        exact ⟨rfl, hfin⟩
      · have g2 : ¬ (20 : Int) < (x.length : Int) := by omega
        by_cases g3 : v < -2147483648
        · clear h1 h2 g1
          generalize N.length = n at *
          generalize x.length = m at *
          go_enter Try.func4, Try.ntmps4
          go_wp2_with fail
          refine (K1.out _ HX.out.2.1).mono ?_
          rintro e w1 ⟨rfl, b1⟩
          have J1 := Lib.hid (HX.out.below b1)
          clear b1 y0 y1
          obtain ⟨y0, y1⟩ := box_cut J1.out.head
          go_wp2_with fail
          refine (lives16 _).mono ?_
          rintro e wl ⟨rfl, hl⟩
          have hfin : Below w.heap.size w wl := J1.out.2.1.trans (hl.mono J1.out.2.1.size)
          go_wp2
          go_ret
          exact ⟨rfl, hfin⟩
        · have g4 : 2147483647 < v := by
            rcases h1 with h | h | h | h
            · cases h
            · omega
            · omega
            · exact h
          clear h1 h2 g1
          generalize N.length = n at *
          generalize x.length = m at *
          go_enter Try.func4, Try.ntmps4
          go_wp2_with fail
          refine (K1.out _ HX.out.2.1).mono ?_
          rintro e w1 ⟨rfl, b1⟩
          have J1 := Lib.hid (HX.out.below b1)
          clear b1 y0 y1
          obtain ⟨y0, y1⟩ := box_cut J1.out.head
          go_wp2_with fail
          refine (lives16 _).mono ?_
          rintro e wl ⟨rfl, hl⟩
          have hfin : Below w.heap.size w wl := J1.out.2.1.trans (hl.mono J1.out.2.1.size)
          go_wp2
          go_ret
          exact ⟨rfl, hfin⟩
  · have h2 : muchT N = false := by
      cases h : muchT N with
      | false => rfl
      | true => exact absurd (.inl h) h1
    have g2 : ¬ (20 : Int) < (x.length : Int) := by omega
    have g3 : ¬ v < -2147483648 := by omega
    have g4 : ¬ 2147483647 < v := by omega
    rw [h2] at K1
    obtain ⟨n1, n2⟩ := muchT_len h2
    have KR := Lib.hid (fun W (h : Below w.heap.size w W) => exp_Room N da A B x ca cb w.heap.size k W (by omega) oA (hA.below h) (hB.below h) (by omega) hcb h.size)
    have KT := Lib.hid (fun W (h : Below w.heap.size w W) => ref_isT N da A ca w.heap.size W (by omega) (hA.below h) h.size)
    have KV : Hid (∀ W (h : Below w.heap.size w W), Calls Try.prog 17 #[.slice B x.length cb, .int .i64 da] W fun e w' => e = .returned (.bool (isV x da)) ∧ Below W.heap.size W w') := fun W h => (ref_is B x cb w.heap.size da W (hB.below h)).mono fun e w' h => ⟨h.1, by rw [← h.2]; exact Below.refl _ _⟩
    by_cases hall : isT N da = true ∧ isV x da = true ∧ 0 ≤ k ∧ k < da
    · obtain ⟨hT, hV, hk0, hkd⟩ := hall
      have hxl := (isV_iff.1 hV).2.2.1
      obtain ⟨j, rfl⟩ : ∃ j : Nat, k = j := ⟨k.toNat, by omega⟩
      have hj : j < x.length := by omega
      obtain ⟨lo, hi, q1, q2, q3, q4, q5, q6⟩ := room_ok hT hV hj
      have q7 := q6 v (by omega)
      have hV' := set_isV hV j (v := v) (by omega)
      have KA := Lib.hid (fun W (h : Below w.heap.size w W) => ref_above N da A B x ca cb w.heap.size W hT hV (hA.below h) (hB.below h) h.size)
      have KW := Lib.hid (fun W (h : Below w.heap.size w W) => ref_With B x cb w.heap.size j v W (hB.below h) hj (by omega))
      have KB := Lib.hid (fun W A' c' (h : Below w.heap.size w W) (hl : Lies W W.heap.size A' (x.set j v)) => ref_above N da A A' (x.set j v) ca c' W.heap.size W hT hV' ((hA.below h).mono h.size) hl (Nat.le_refl _))
      rw [List.length_set] at KB
      have HWL : Hid ((wayT N x N.length 0).length ≤ 1000 ∧ (wayT N (x.set j v) N.length 0).length ≤ 1000) := by
        have e1 := way_len (N := N) (x := x) N.length 0
        have e2 := way_len (N := N) (x := x.set j v) N.length 0
        have e3 := tst_len (N := N) (x := x) N.length 0
        have e4 := tst_len (N := N) (x := x.set j v) N.length 0
        exact ⟨by omega, by omega⟩
      have HXC := Lib.hid (fun W (h : Below w.heap.size w W) => (hB.below h))
      have hXS : Hid ((x.set j v).length = x.length) := by show _ = _; rw [List.length_set]
      unfold GivesI at KA KB
      rw [q1] at KR
      rw [hT] at KT
      rw [hV] at KV
      have HDEC : Hid (decide (wayT N x N.length 0 = wayT N (x.set j v) N.length 0) = decide (lo ≤ v ∧ v ≤ hi)) := by
        show _ = _
        rw [Bool.eq_iff_iff, decide_eq_true_iff, decide_eq_true_iff]
        exact q7
      have c1 : ¬ x.getD j 0 < lo := by omega
      have c2 : ¬ hi < x.getD j 0 := by omega
      have c3 : ¬ lo < -2147483648 := by omega
      have c4 : ¬ 2147483647 < hi := by omega
      have hjd : ¬ da ≤ (j : Int) := by omega
      have hjx : (j : Int) < (x.length : Int) := by omega
      obtain ⟨ba, eB, _, _⟩ := hB (by omega)
      have HXJ : Hid (∀ W (h : Below w.heap.size w W), W.cell? (ba.add j) = some (.int .i64 (x.getD j 0))) := fun W h => by
        obtain ⟨ad', e, _, hc⟩ := (hB.below h) (by omega)
        rw [eB] at e
        cases e
        exact hc j hj
      subst eB
      simp only at KR
      clear hA hB oA hx h1 h2 n2 hT hV hV' q1 q2 q3 q4 q5 q6 q7 hj hxl HXC
      generalize wayT N x N.length 0 = W1 at *
      generalize wayT N (x.set j v) N.length 0 = W2 at *
      generalize x.getD j 0 = xj at *
      generalize hXX : x.set j v = x' at *
      clear hXX
      generalize N.length = n at *
      generalize x.length = m at *
      go_enter Try.func4, Try.ntmps4
      go_wp2_with fail
      refine (K1.out _ HX.out.2.1).mono ?_
      rintro e w1 ⟨rfl, b1⟩
      have J1 := Lib.hid (HX.out.below b1)
      clear b1 y0 y1
      obtain ⟨y0, y1⟩ := box_cut J1.out.head
      go_wp2_with fail
      refine (KR.out _ J1.out.2.1).mono ?_
      rintro e w2 ⟨rfl, b2⟩
      have J2 := Lib.hid (J1.out.below b2)
      clear b2 y0 y1
      obtain ⟨y0, y1⟩ := box_cut J2.out.head
      go_wp2_with fail
      refine (KT.out _ J2.out.2.1).mono ?_
      rintro e w3 ⟨rfl, b3⟩
      have J3 := Lib.hid (J2.out.below b3)
      clear b3 y0 y1
      obtain ⟨y0, y1⟩ := box_cut J3.out.head
      go_wp2_with fail
      refine (KV.out _ J3.out.2.1).mono ?_
      rintro e w4 ⟨rfl, b4⟩
      have J4 := Lib.hid (J3.out.below b4)
      clear b4 y0 y1
      obtain ⟨y0, y1⟩ := box_cut J4.out.head
      have xj4 := HXJ.out _ J4.out.2.1
      have HB4 := Lib.hid J4.out.2.1
      have HTB : Hid (∀ W, Below w4.heap.size w4 W → W.cell? ⟨w.heap.size, 0, none⟩ = some (.int .i64 da) ∧ W.cell? ⟨w.heap.size, 1, none⟩ = some (.slice A n ca)) := fun W h => box_cut (J4.out.head.below h J4.out.head.lt)
      have hsz4 := HB4.out.size
      go_wp2
      clear K1 KR KT KV HXJ J1 J2 J3 J4 HX y0 y1 xj4 c1 c2 c3 c4 hjd hjx
      refine wp_region_steps (RowJ [some (.agg #[.int .i64 da, .slice A n ca]), some (.slice (some ba) m cb), none, some (.agg #[.int .i64 da, .slice A n ca]), some (.slice (some ba) m cb), some (.int .i64 (j : Int)), some (.int .i64 v), none, none, some (.bool (decide (W1 = W2))), some (.bool (decide (W1 = W2)))] [none, none, some W1, none, none, none, none, some x', some W2, none, none] w4.heap.size w4)
        [[], [], [0, 1], [], [], [], [], [4, 5, 6, 2], [3, 7, 7], [2, 8, 8], [9, 9, 0, 1, 2, 3, 4, 5, 6, 7, 8, 9]] (by kernel_rfl) (by kernel_rfl) (by kernel_rfl) (by kernel_rfl) ?_ ?_ ?_ ?_
      · exact RowJ.alike (n := 11) (by simp) (by simp)
      · exact fun vs _ => RowJ.start (Nat.le_refl _) vs
      · refine ⟨?_, ?_, ?_, ?_, ?_, ?_, ?_, ?_, ?_, ?_, ?_, trivial⟩
        all_goals
          intro f vs X hlen hf hp hj K hK
          obtain ⟨z0, z1, z2, z3, z4, z5, z6, z7, z8, z9, z10, rfl⟩ := len11R hlen
          clear hlen
          have HJ := Lib.hid hj
          clear hj
        · rw [if_pos (by rfl)]
          have mm := HTB.out X HJ.out.2.1.1
          have m0 := mm.1
          have m1 := mm.2
          clear mm
          simp only [putAll, Act.put, List.setIfInBounds_toArray, List.set_cons_zero, List.set_cons_succ] at hK ⊢
          go_simp
          refine hK _ X ?_
          exact HJ.out.step (i := 0) (by simp) _ (fun u hu => by simpa using hu) (fun l hl => by simp at hl) (Below.refl _ _)
        · rw [if_pos (by rfl)]
          simp only [putAll, Act.put, List.setIfInBounds_toArray, List.set_cons_zero, List.set_cons_succ] at hK ⊢
          go_simp
          refine hK _ X ?_
          exact HJ.out.step (i := 1) (by simp) _ (fun u hu => by simpa using hu) (fun l hl => by simp at hl) (Below.refl _ _)
        · rw [if_pos (by rfl)]
          have e0 : z0 = .agg #[.int .i64 da, .slice A n ca] := HJ.out.1 0 _ (hp 0 (by simp)) rfl
          subst e0
          have e1 : z1 = .slice (some ba) m cb := HJ.out.1 1 _ (hp 1 (by simp)) rfl
          subst e1
          simp only [putAll, Act.put, List.setIfInBounds_toArray, List.set_cons_zero, List.set_cons_succ] at hK ⊢
          go_simp
          refine (KA.out X (HB4.out.trans (HJ.out.2.1.1.mono hsz4))).mono ?_
          rintro e w5 ⟨A5, c5, rfl, h51, h52, l5, b5⟩
          refine hK _ w5 ?_
          exact HJ.out.step (i := 2) (by simp) _ (fun u hu => by simp at hu) (fun l hl => by simp at hl; subst hl; exact ⟨A5, c5, rfl, l5⟩) b5
        · rw [if_pos (by rfl)]
          have mm := HTB.out X HJ.out.2.1.1
          have m0 := mm.1
          have m1 := mm.2
          clear mm
          simp only [putAll, Act.put, List.setIfInBounds_toArray, List.set_cons_zero, List.set_cons_succ] at hK ⊢
          go_simp
          refine hK _ X ?_
          exact HJ.out.step (i := 3) (by simp) _ (fun u hu => by simpa using hu) (fun l hl => by simp at hl) (Below.refl _ _)
        · rw [if_pos (by rfl)]
          simp only [putAll, Act.put, List.setIfInBounds_toArray, List.set_cons_zero, List.set_cons_succ] at hK ⊢
          go_simp
          refine hK _ X ?_
          exact HJ.out.step (i := 4) (by simp) _ (fun u hu => by simpa using hu) (fun l hl => by simp at hl) (Below.refl _ _)
        · rw [if_pos (by rfl)]
          simp only [putAll, Act.put, List.setIfInBounds_toArray, List.set_cons_zero, List.set_cons_succ] at hK ⊢
          go_simp
          refine hK _ X ?_
          exact HJ.out.step (i := 5) (by simp) _ (fun u hu => by simpa using hu) (fun l hl => by simp at hl) (Below.refl _ _)
        · rw [if_pos (by rfl)]
          simp only [putAll, Act.put, List.setIfInBounds_toArray, List.set_cons_zero, List.set_cons_succ] at hK ⊢
          go_simp
          refine hK _ X ?_
          exact HJ.out.step (i := 6) (by simp) _ (fun u hu => by simpa using hu) (fun l hl => by simp at hl) (Below.refl _ _)
        · rw [if_pos (by rfl)]
          have e4 : z4 = .slice (some ba) m cb := HJ.out.1 4 _ (hp 4 (by simp)) rfl
          subst e4
          have e5 : z5 = .int .i64 (j : Int) := HJ.out.1 5 _ (hp 5 (by simp)) rfl
          subst e5
          have e6 : z6 = .int .i64 v := HJ.out.1 6 _ (hp 6 (by simp)) rfl
          subst e6
          simp only [putAll, Act.put, List.setIfInBounds_toArray, List.set_cons_zero, List.set_cons_succ] at hK ⊢
          go_simp
          refine (KW.out X (HB4.out.trans (HJ.out.2.1.1.mono hsz4))).mono ?_
          rintro e w5 ⟨g5, c5, rfl, h51, h52, o5, b5⟩
          refine hK _ w5 ?_
          exact HJ.out.step (i := 7) (by simp) _ (fun u hu => by simp at hu) (fun l hl => by simp at hl; subst hl; exact ⟨_, c5, by rw [hXS.out], o5.lies⟩) b5
        · rw [if_pos (by rfl)]
          have e3 : z3 = .agg #[.int .i64 da, .slice A n ca] := HJ.out.1 3 _ (hp 3 (by simp)) rfl
          subst e3
          obtain ⟨A7, c7, e7, l7⟩ := HJ.out.2.2 7 _ rfl (hp 7 (by simp))
          have e7' : z7 = .slice A7 m c7 := by rw [← hXS.out]; exact e7
          subst e7'
          clear e7
          simp only [putAll, Act.put, List.setIfInBounds_toArray, List.set_cons_zero, List.set_cons_succ] at hK ⊢
          go_simp
          refine (KB.out X A7 c7 (HB4.out.trans (HJ.out.2.1.1.mono hsz4)) l7).mono ?_
          rintro e w5 ⟨A5, c5, rfl, h51, h52, l5, b5⟩
          refine hK _ w5 ?_
          exact HJ.out.step (i := 8) (by simp) _ (fun u hu => by simp at hu) (fun l hl => by simp at hl; subst hl; exact ⟨A5, c5, rfl, l5⟩) b5
        · rw [if_pos (by rfl)]
          obtain ⟨A2, c2, e2, l2⟩ := HJ.out.2.2 2 _ rfl (hp 2 (by simp))
          have e2' : z2 = .slice A2 (W1).length c2 := e2
          subst e2'
          clear e2
          obtain ⟨A8, c8, e8, l8⟩ := HJ.out.2.2 8 _ rfl (hp 8 (by simp))
          have e8' : z8 = .slice A8 (W2).length c8 := e8
          subst e8'
          clear e8
          simp only [putAll, Act.put, List.setIfInBounds_toArray, List.set_cons_zero, List.set_cons_succ] at hK ⊢
          go_simp
          refine (ref_same1 A2 A8 W1 W2 c2 c8 X.heap.size X l2 l8 (by have := HWL.out; omega) (by have := HWL.out; omega)).mono ?_
          rintro e w5 ⟨rfl, n5, rfl⟩
          refine hK _ _ ?_
          exact HJ.out.step (i := 9) (by simp) _ (fun u hu => by simpa using hu) (fun l hl => by simp at hl) (below_drewN2 (Below.refl _ _) n5)
        · rw [if_pos (by rfl)]
          have e9 : z9 = .bool (decide (W1 = W2)) := HJ.out.1 9 _ (hp 9 (by simp)) rfl
          subst e9
          simp only [putAll, Act.put, List.setIfInBounds_toArray, List.set_cons_zero, List.set_cons_succ] at hK ⊢
          go_simp
          refine hK _ X ?_
          exact HJ.out.step (i := 10) (by simp) _ (fun u hu => by simpa using hu) (fun l hl => by simp at hl) (Below.refl _ _)
      · intro vs X hl hj
        obtain ⟨z0, z1, z2, z3, z4, z5, z6, z7, z8, z9, z10, rfl⟩ := len11R hl
        have e10 : z10 = .bool (decide (W1 = W2)) := hj.1 10 _ rfl rfl
        subst e10
        have HBX := Lib.hid (HB4.out.trans (hj.2.1.1.mono hsz4))
        simp only [putAll, Act.put, List.setIfInBounds_toArray, List.set_cons_zero, List.set_cons_succ]
        rw [HDEC.out]
        clear hj HDEC
        by_cases a1 : lo ≤ v
        · by_cases a2 : v ≤ hi
          · have a3 : decide (lo ≤ v ∧ v ≤ hi) = true := decide_eq_true ⟨a1, a2⟩
            rw [a3]
            go_wp2_with fail
            refine (lives16 _).mono ?_
            rintro e wl ⟨rfl, hl⟩
            have hfin : Below w.heap.size w wl := HBX.out.trans (hl.mono HBX.out.size)
            go_wp2
            go_ret
            exact ⟨rfl, hfin⟩
          · have a3 : decide (lo ≤ v ∧ v ≤ hi) = false := decide_eq_false (fun h => a2 h.2)
            rw [a3]
            go_wp2_with fail
            refine (lives16 _).mono ?_
            rintro e wl ⟨rfl, hl⟩
            have hfin : Below w.heap.size w wl := HBX.out.trans (hl.mono HBX.out.size)
            go_wp2
            go_ret
            exact ⟨rfl, hfin⟩
        · have a3 : decide (lo ≤ v ∧ v ≤ hi) = false := decide_eq_false (fun h => a1 h.1)
          rw [a3]
          go_wp2_with fail
          refine (lives16 _).mono ?_
          rintro e wl ⟨rfl, hl⟩
          have hfin : Below w.heap.size w wl := HBX.out.trans (hl.mono HBX.out.size)
          go_wp2
          go_ret
          exact ⟨rfl, hfin⟩
    · obtain ⟨z, hz, hr⟩ := room_bad (x := x) hall
      rw [hr] at KR
      simp only at KR
      have hz0 : (z == 0) = false := by simpa using hz
      have hz1 : (z != 0) = true := by simpa using hz
      clear hA hB oA hx h1 h2 n2 hr
      cases hT : isT N da with
      | false =>
        rw [hT] at KT
        clear hall hT KV
        generalize N.length = n at *
        generalize x.length = m at *
        go_enter Try.func4, Try.ntmps4
        go_wp2_with fail
        refine (K1.out _ HX.out.2.1).mono ?_
        rintro e w1 ⟨rfl, b1⟩
        have J1 := Lib.hid (HX.out.below b1)
        clear b1 y0 y1
        obtain ⟨y0, y1⟩ := box_cut J1.out.head
        go_wp2_with fail
        refine (KR.out _ J1.out.2.1).mono ?_
        rintro e w2 ⟨rfl, b2⟩
        have J2 := Lib.hid (J1.out.below b2)
        clear b2 y0 y1
        obtain ⟨y0, y1⟩ := box_cut J2.out.head
        go_wp2_with fail
        refine (KT.out _ J2.out.2.1).mono ?_
        rintro e w3 ⟨rfl, b3⟩
        have J3 := Lib.hid (J2.out.below b3)
        clear b3 y0 y1
        obtain ⟨y0, y1⟩ := box_cut J3.out.head
        go_wp2_with fail
        refine (lives16 _).mono ?_
        rintro e wl ⟨rfl, hl⟩
        have hfin : Below w.heap.size w wl := J3.out.2.1.trans (hl.mono J3.out.2.1.size)
        go_wp2
        go_ret
        exact ⟨rfl, hfin⟩
      | true =>
        rw [hT] at KT hall
        cases hV : isV x da with
        | false =>
          rw [hV] at KV
          clear hall hT hV
          generalize N.length = n at *
          generalize x.length = m at *
          go_enter Try.func4, Try.ntmps4
          go_wp2_with fail
          refine (K1.out _ HX.out.2.1).mono ?_
          rintro e w1 ⟨rfl, b1⟩
          have J1 := Lib.hid (HX.out.below b1)
          clear b1 y0 y1
          obtain ⟨y0, y1⟩ := box_cut J1.out.head
          go_wp2_with fail
          refine (KR.out _ J1.out.2.1).mono ?_
          rintro e w2 ⟨rfl, b2⟩
          have J2 := Lib.hid (J1.out.below b2)
          clear b2 y0 y1
          obtain ⟨y0, y1⟩ := box_cut J2.out.head
          go_wp2_with fail
          refine (KT.out _ J2.out.2.1).mono ?_
          rintro e w3 ⟨rfl, b3⟩
          have J3 := Lib.hid (J2.out.below b3)
          clear b3 y0 y1
          obtain ⟨y0, y1⟩ := box_cut J3.out.head
          go_wp2_with fail
          refine (KV.out _ J3.out.2.1).mono ?_
          rintro e w4 ⟨rfl, b4⟩
          have J4 := Lib.hid (J3.out.below b4)
          clear b4 y0 y1
          obtain ⟨y0, y1⟩ := box_cut J4.out.head
          go_wp2_with fail
          refine (lives16 _).mono ?_
          rintro e wl ⟨rfl, hl⟩
          have hfin : Below w.heap.size w wl := J4.out.2.1.trans (hl.mono J4.out.2.1.size)
          go_wp2
          go_ret
          exact ⟨rfl, hfin⟩
        | true =>
          rw [hV] at KV hall
          have hkk : k < 0 ∨ da ≤ k := by
            by_cases q : 0 ≤ k
            · exact .inr (Int.not_lt.1 fun q2 => hall ⟨rfl, rfl, q, q2⟩)
            · exact .inl (by omega)
          clear hall hT hV
          generalize N.length = n at *
          generalize x.length = m at *
          by_cases hk0 : k < 0
          · skip
            go_enter Try.func4, Try.ntmps4
            go_wp2_with fail
            refine (K1.out _ HX.out.2.1).mono ?_
            rintro e w1 ⟨rfl, b1⟩
            have J1 := Lib.hid (HX.out.below b1)
            clear b1 y0 y1
            obtain ⟨y0, y1⟩ := box_cut J1.out.head
            go_wp2_with fail
            refine (KR.out _ J1.out.2.1).mono ?_
            rintro e w2 ⟨rfl, b2⟩
            have J2 := Lib.hid (J1.out.below b2)
            clear b2 y0 y1
            obtain ⟨y0, y1⟩ := box_cut J2.out.head
            go_wp2_with fail
            refine (KT.out _ J2.out.2.1).mono ?_
            rintro e w3 ⟨rfl, b3⟩
            have J3 := Lib.hid (J2.out.below b3)
            clear b3 y0 y1
            obtain ⟨y0, y1⟩ := box_cut J3.out.head
            go_wp2_with fail
            refine (KV.out _ J3.out.2.1).mono ?_
            rintro e w4 ⟨rfl, b4⟩
            have J4 := Lib.hid (J3.out.below b4)
            clear b4 y0 y1
            obtain ⟨y0, y1⟩ := box_cut J4.out.head
            go_wp2_with fail
            refine (lives16 _).mono ?_
            rintro e wl ⟨rfl, hl⟩
            have hfin : Below w.heap.size w wl := J4.out.2.1.trans (hl.mono J4.out.2.1.size)
            go_wp2
            go_ret
            exact ⟨rfl, hfin⟩
          · have hkd : da ≤ k := by omega
            go_enter Try.func4, Try.ntmps4
            go_wp2_with fail
            refine (K1.out _ HX.out.2.1).mono ?_
            rintro e w1 ⟨rfl, b1⟩
            have J1 := Lib.hid (HX.out.below b1)
            clear b1 y0 y1
            obtain ⟨y0, y1⟩ := box_cut J1.out.head
            go_wp2_with fail
            refine (KR.out _ J1.out.2.1).mono ?_
            rintro e w2 ⟨rfl, b2⟩
            have J2 := Lib.hid (J1.out.below b2)
            clear b2 y0 y1
            obtain ⟨y0, y1⟩ := box_cut J2.out.head
            go_wp2_with fail
            refine (KT.out _ J2.out.2.1).mono ?_
            rintro e w3 ⟨rfl, b3⟩
            have J3 := Lib.hid (J2.out.below b3)
            clear b3 y0 y1
            obtain ⟨y0, y1⟩ := box_cut J3.out.head
            go_wp2_with fail
            refine (KV.out _ J3.out.2.1).mono ?_
            rintro e w4 ⟨rfl, b4⟩
            have J4 := Lib.hid (J3.out.below b4)
            clear b4 y0 y1
            obtain ⟨y0, y1⟩ := box_cut J4.out.head
            go_wp2_with fail
            refine (lives16 _).mono ?_
            rintro e wl ⟨rfl, hl⟩
            have hfin : Below w.heap.size w wl := J4.out.2.1.trans (hl.mono J4.out.2.1.size)
            go_wp2
            go_ret
            exact ⟨rfl, hfin⟩

set_option maxRecDepth 100000 in
theorem lifted (os : Os) (started : os.Started) (H : Type) (enc : TypeId × Value → H) :
    ReturnsInHanded {} Try.checked os 4 .any (Rows.explainRoomsSpec.pre6 enc Try.prog Try.f4 Rows.explainRoomsRow.domain false) (Rows.explainRoomsSpec.post enc Try.prog Try.f4 false true false false) := by
  refine returnsInHanded_of_change (C := Try.checked) own started (by kernel_rfl) Try.func4
    (ChangeSpec.witness6 (enc := enc) (C := Try.checked) false ⟨#[], #[.agg #[.int .i64 0, .slice none 0 0], .slice none 0 0, .int .i64 0, .int .i64 0], []⟩ 8 (by kernel_rfl) (by kernel_rfl) (by kernel_rfl) (by kernel_rfl)) ?_
  intro W base args ds gs before hval0 hW hcnd _
  have hval : ∀ (j : Nat) t v, Try.f4.params[j]? = some t → args[j]? = some v → Value.okWide Try.prog W .any base t v := hval0
  have hW' := hW
  obtain ⟨p, q, hA0, hV, rfl, hfz, hnd⟩ := hW
  obtain ⟨rfl, rfl⟩ := trodVars_none hV
  have hA : DataW.TrodAll enc Try.prog W 0 (fun _ => true) true Try.f4.params.toList args.toList ds p := hA0
  rw [Try.params4] at hA hval
  obtain ⟨v0, vs0, d0, ds0, p0, q0, hargs, rfl, rfl, h0, r0⟩ := trodAll_cons hA
  obtain ⟨v1, vs1, d1, ds1, p1, q1, rfl, rfl, rfl, h1, r1⟩ := trodAll_cons r0
  obtain ⟨v2, vs2, d2, ds2, p2, q2, rfl, rfl, rfl, h2, r2⟩ := trodAll_cons r1
  obtain ⟨v3, vs3, d3, ds3, p3, q3, rfl, rfl, rfl, h3, r3⟩ := trodAll_cons r2
  obtain ⟨rfl, rfl, rfl⟩ := trodAll_nil r3
  obtain rfl : args = #[v0, v1, v2, v3] := by cases args; simp_all
  obtain ⟨a0, A0, N0, c0, rfl, L0, O0, C0, M0, w0⟩ := open_tree (hval 0 24 v0 rfl rfl) h0
  obtain ⟨A1, l1, c1, rfl, L1, I1, C1, M1⟩ := open_ints8 Try.underlying25 Try.underlying3 cells_i8 (hval 1 25 v1 rfl rfl) h1
  obtain ⟨a2, rfl, _, _, w2⟩ := open_int Try.underlying3 (hval 2 3 v2 rfl rfl) h2
  obtain ⟨a3, rfl, _, _, w3⟩ := open_int Try.underlying3 (hval 3 3 v3 rfl rfl) h3
  refine (walk a0 A0 N0 c0 L0 O0 C0 M0 w0 A1 l1 c1 L1 I1 C1 M1 a2 (i64_of_wf w2) a3 (i64_of_wf w3) W).mono fun e W' ⟨he, hg⟩ => ?_
  subst he
  exact ⟨_, rfl, law_post laid (by rw [Try.params4]; exact (by decide +kernel)) rfl (by kernel_rfl) Try.underlying4 rfl hW' hg⟩

theorem over : Rows.explainRoomsRow.holds Try.pinned (OpenSpec.ofChange Rows.explainRoomsSpec) :=
  OpenClaim.holds_of_wide 4 Try.f4 rfl rfl rfl rfl rfl rfl rfl ⟨rfl, rfl, rfl, rfl, rfl⟩ rfl rfl rfl rfl rfl (by kernel_rfl) Try.func4 (by kernel_rfl)
    (of_decide_eq_true (by kernel_rfl)) (by unfold Func.isWrapper; first | (rw [if_pos (by decide +kernel)]; kernel_rfl) | (rw [if_neg (by decide +kernel)]; exact ⟨rfl, rfl⟩))
    (fun os started H enc _ => lifted os started H enc)
theorem proved : Rows.ExplainRoomsSaid := over
end Go.Proofs.Yteenemdiokajbaa.explainRooms
