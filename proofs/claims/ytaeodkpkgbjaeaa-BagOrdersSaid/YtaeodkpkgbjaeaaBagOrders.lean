/- Statement BagOrders: whatever the input is, the Go function returns true and each argument reads as it did. No condition. -/
import Derived.Test.YtaeodkpkgbjaeaaRows
import Derived.Test.YtaeodkpkgbjaeaaBbJ
import Derived.Test.YtaeodkpkgbjaeaaScoV
import Derived.Test.YtaeodkpkgbjaeaaScoZ
import Derived.Test.YtaeodkpkgbjaeaaVecT
import Derived.Test.YtaeodkpkgbjaeaaBase
import Derived.ProofKit
import Derived.OpenShut
import Derived.IntWalk
namespace Go.Proofs.Ytaeodkpkgbjaeaa.bagOrders
open Go.ChangeShapes Go.WideShapes Go.ChangeAt Go.RowKit
set_option linter.unusedVariables false

theorem own : ownKnob Try.prog.godebug = none := by kernel_rfl
theorem laid : laidOutB Try.prog = true := by kernel_rfl

set_option maxRecDepth 100000 in
set_option maxHeartbeats 8000000 in
theorem walk (A : Option Addr) (l : List PQ) (ca : Nat) {w : World} (hA : LiesS w w.heap.size A l) (hI : okS l) (hlm : l.length ≤ 9223372036854775807) (hca : l.length ≤ ca) (hz : A = none → ca = 0) (op oq : Int) (hop : I64 op) (hoq : I64 oq) (_ : World) :
    Calls Try.prog 4 #[.slice A l.length ca, .agg #[.int .i64 op, .int .i64 oq]] w fun e w' => e = .returned (.bool true) ∧ Below w.heap.size w w' := by
  have J0 := Lib.hid ((Keeps.start w).alloc #[.int .i64 op, .int .i64 oq] 24)
  by_cases h1 : 150 < l.length
  · have h1' : (150 : Int) < (l.length : Int) := by omega
    clear hA hI
    generalize l.length = N at *
    go_enter Try.func4, Try.ntmps4
    go_wp2_with fail
    refine (bag_new _).mono ?_
    rintro e w1 ⟨g, O, rfl, hB, hb, hlo⟩
    have J1 := Lib.hid (J0.out.below (by simp only [alloc_size']; simpa using hb))
    clear hB hb hlo
    go_wp2_with fail
    refine (bag_new _).mono ?_
    rintro e w2 ⟨g2, O2, rfl, hB, hb, hlo⟩
    have J2 := Lib.hid (J1.out.below hb)
    clear hB hb hlo
    go_wp2_with fail
    refine (lives18 _).mono ?_
    rintro e wl ⟨rfl, bl⟩
    have J3 := Lib.hid (J2.out.below bl)
    clear bl
    go_wp2
    go_ret
    exact ⟨rfl, J3.out.2.1⟩
  · have h1' : ¬ (150 : Int) < (l.length : Int) := by omega
    have HA := Lib.hid hA
    have HI := Lib.hid hI
    have HL := Lib.hid (show l.length ≤ 150 by omega)
    obtain ⟨N, hN⟩ : ∃ N, l.length = N := ⟨_, rfl⟩
    rw [hN] at h1' hca ⊢
    have HN := Lib.hid hN
    have hN100 : N ≤ 150 := by omega
    clear hA hI hN h1 hlm
    go_enter Try.func4, Try.ntmps4
    go_wp2_with fail
    refine (bag_new _).mono ?_
    rintro e w1 ⟨g, O, rfl, hB, hb, hlo⟩
    have HB1 := Lib.hid hB
    have HLO1 := Lib.hid hlo
    have J1 := Lib.hid (J0.out.below hb)
    clear hB hb hlo
    go_wp2_with fail
    refine (bag_new _).mono ?_
    rintro e w2 ⟨g2, O2, rfl, hB, hb, hlo⟩
    have H0 : Hid (Lv2 w g g2 [(w.heap.size, #[.int .i64 op, .int .i64 oq])] [] [] w2) := by
      have J2 := J1.out.below hb
      have h1 := J1.out.head.lt
      refine ⟨O, O2, HB1.out.below hb, hB, fun x hx hy => ?_, fun x hx => ?_, fun x hx => ?_, fun x hx => ?_, J2.2.1⟩
      · have := HB1.out.lt x hx; have := hlo x hy; omega
      · rw [List.mem_singleton] at hx
        subst hx
        refine ⟨fun hx => ?_, fun hx => ?_, J2.head⟩
        · have := HLO1.out _ hx; rw [alloc_size'] at this; exact absurd this (by show ¬ w.heap.size + 1 ≤ w.heap.size; omega)
        · have := hlo _ hx; exact absurd this (by show ¬ w1.heap.size ≤ w.heap.size; omega)
      · have := HLO1.out x hx; rw [alloc_size'] at this; omega
      · have := hlo x hx; omega
    clear hB hb hlo HB1 HLO1 J0 J1
    go_wp2
    go_loopw [7, 8, 9] (fun iv _ _ wr => ∃ i : Nat, iv = .int .i64 i ∧ i ≤ N ∧ Hid (Lv2 w g g2 [(w.heap.size, #[.int .i64 op, .int .i64 oq])] (adds l i) (adds l.reverse i) wr)) (fun iv _ _ _ => N - (intOf iv).toNat)
    case atStart => exact ⟨0, rfl, Nat.zero_le _, H0⟩
    case round =>
      obtain ⟨i, rfl, hi, HLV⟩ := hrel
      by_cases hlt : i < N
      · have hli : i < l.length := by rw [HN.out]; exact hlt
        obtain ⟨j, hj⟩ : ∃ j, j + i + 1 = N := ⟨N - i - 1, by omega⟩
        have hlj : j < l.length := by rw [HN.out]; omega
        have hrv : Hid (l.reverse.getD i pq0 = l.getD j pq0) := by
          show _ = _
          have e1 : l.reverse.getD i pq0 = l.reverse[i]'(by rw [List.length_reverse]; exact hli) := by simp [List.getElem?_eq_getElem (show i < l.reverse.length by rw [List.length_reverse]; exact hli)]
          have e2 : l.getD j pq0 = l[j] := by simp [List.getElem?_eq_getElem hlj]
          rw [e1, e2, List.getElem_reverse]
          congr 1
          have := HN.out
          omega
        obtain ⟨ad, rfl, hadb, c0, c1⟩ := (HA.out.below HLV.out.up.2.2).at hli
        have HCL : Hid (∀ W, Below w.heap.size w W → W.cell? (ad.add (j * 2)) = some (.int .i64 (l.getD j pq0).1) ∧ W.cell? ⟨(ad.add (j * 2)).block, (ad.add (j * 2)).off + 1, none⟩ = some (.int .i64 (l.getD j pq0).2)) := fun W hb => by
          obtain ⟨ad', eA, _, c0, c1⟩ := (HA.out.below hb).at hlj
          cases eA
          exact ⟨c0, c1⟩
        obtain ⟨I0, I1⟩ := HI.out _ (getD_memS hli)
        obtain ⟨I2, I3⟩ := HI.out _ (getD_memS hlj)
        have K1 := Lib.hid (lv2_add w g g2 _ (adds l i) (adds l.reverse i) (l.getD i pq0).1 (l.getD i pq0).2 I0 I1 wr HLV.out)
        have HS1 := Lib.hid (show adds l (i + 1) = addL (adds l i) ((l.getD i pq0).1, (l.getD i pq0).2) from adds_succ l i hli)
        have HS2 : Hid (adds l.reverse (i + 1) = addL (adds l.reverse i) ((l.getD j pq0).1, (l.getD j pq0).2)) := by
          show _ = _
          rw [adds_succ l.reverse i (by rw [List.length_reverse]; exact hli), hrv.out]
        have HLN := Lib.hid (adds_len l.reverse i (by rw [List.length_reverse]; omega))
        have HLN1 := Lib.hid (adds_len l.reverse (i + 1) (by rw [List.length_reverse]; omega))
        have hii : (i : Int) < (N : Int) := by omega
        have hjj : (j : Int) < (N : Int) := by omega
        have hw1 : IntKind.i64.wrap ((N : Int) - 1) = (N : Int) - 1 := by rw [IntKind.wrap_i64]; omega
        have hw2 : IntKind.i64.wrap ((N : Int) - 1 - (i : Int)) = (j : Int) := by rw [IntKind.wrap_i64]; omega
        rw [HS2.out] at HLN1
        generalize hM1 : adds l.reverse i = M1 at *
        clear hadb I0 I1 hrv hM1 hj
        generalize (l.getD i pq0).1 = p at *
        generalize (l.getD i pq0).2 = q at *
        generalize (l.getD j pq0).1 = p2 at *
        generalize (l.getD j pq0).2 = q2 at *
        go_wp2_with fail
        refine K1.out.mono ?_
        rintro e w3 ⟨rfl, H3⟩
        clear c0 c1
        obtain ⟨c0, c1⟩ := HCL.out _ H3.out.up.2.2
        go_wp2_with fail
        refine (lv2_add2 w g g2 _ _ M1 p2 q2 I2 I3 _ H3.out).mono ?_
        rintro e w4 ⟨rfl, H4⟩
        clear c0 c1
        obtain ⟨c0, c1⟩ := HCL.out _ H4.out.up.2.2
        have hlen1 : M1.length < 4096 := by have := HLN.out; omega
        by_cases hok : okP (p2, q2)
        · have hE : addE M1 (p2, q2) = 0 := by unfold addE; rw [if_pos hok, if_neg (by omega)]
          rw [hE]
          clear hE hok K1
          obtain ⟨s0, s1⟩ := H4.out.cells
          have hUM := Lib.hid H4.out.up.2.1
          generalize hM2 : addL M1 (p2, q2) = M2 at *
          clear hM2
          go_wp2_with fail
          refine (lv2_add2 w g g2 _ _ M2 op oq hop hoq _ H4.out).mono ?_
          rintro e w6 ⟨rfl, H6⟩
          clear s0 s1
          obtain ⟨s0, s1⟩ := H6.out.cells
          go_wp2_with fail
          refine (lv2_drop2 w g g2 _ _ (addL M2 (op, oq)) op oq hop hoq _ H6.out).mono ?_
          rintro e w7 ⟨rfl, H7⟩
          have hd := drop_add hUM.out (by have := HLN1.out; omega) (op, oq)
          rw [hd.1]
          rw [hd.2] at H7
          clear hd H6 H4 s0 s1
          generalize addE M2 (op, oq) = x5 at *
          go_wp2
          exact ⟨⟨i + 1, by go_num, by omega, by show Lv2 _ _ _ _ _ _ _; rw [HS1.out, HS2.out]; exact H7.out⟩, by simp only [intOf]; omega⟩
        · have hE : addE M1 (p2, q2) = 130 := by unfold addE; rw [if_neg hok]
          have hsc : scoB p2 q2 = false := decide_eq_false hok
          have K5 := Lib.hid (ref13_is p2 q2 w4)
          rw [hsc] at K5
          rw [hE]
          clear hE hok K1 hsc
          go_wp2_with fail
          refine K5.out.mono ?_
          rintro e w5 ⟨rfl, d5⟩
          have H5 := Lib.hid (H4.out.below d5)
          clear d5 H4 K5
          obtain ⟨s0, s1⟩ := H5.out.cells
          have hUM := Lib.hid H5.out.up.2.1
          generalize hM2 : addL M1 (p2, q2) = M2 at *
          clear hM2
          go_wp2_with fail
          refine (lv2_add2 w g g2 _ _ M2 op oq hop hoq _ H5.out).mono ?_
          rintro e w6 ⟨rfl, H6⟩
          clear s0 s1
          obtain ⟨s0, s1⟩ := H6.out.cells
          go_wp2_with fail
          refine (lv2_drop2 w g g2 _ _ (addL M2 (op, oq)) op oq hop hoq _ H6.out).mono ?_
          rintro e w7 ⟨rfl, H7⟩
          have hd := drop_add hUM.out (by have := HLN1.out; omega) (op, oq)
          rw [hd.1]
          rw [hd.2] at H7
          clear hd H6 H5 s0 s1
          generalize addE M2 (op, oq) = x5 at *
          go_wp2
          exact ⟨⟨i + 1, by go_num, by omega, by show Lv2 _ _ _ _ _ _ _; rw [HS1.out, HS2.out]; exact H7.out⟩, by simp only [intOf]; omega⟩
      · obtain rfl : i = N := by omega
        have HREV : Hid (adds l.reverse i = adds l i) := by
          show _ = _
          have := adds_rev l (by have := HL.out; omega)
          rwa [HN.out] at this
        rw [HREV.out] at HLV
        have HLEN := Lib.hid (adds_len l i (by rw [HN.out]; exact Nat.le_refl _))
        clear H0 HREV
        generalize adds l i = L at *
        go_wp2_with fail
        refine (lv2_all w g g2 _ L L _ HLV.out).mono ?_
        rintro e w3 ⟨X, cx, rfl, H3⟩
        obtain ⟨M, hM⟩ : ∃ M, M = L.length := ⟨_, rfl⟩
        have hMi : M ≤ 150 := by have := HLEN.out; omega
        have hMc : M ≤ cx := by rw [hM]; exact H3.out.1
        rw [← hM]
        have HM := Lib.hid hM
        clear hM
        go_wp2
        go_loopw [11] (fun iv wr => ∃ k : Nat, iv = .int .i64 k ∧ k ≤ M ∧ Hid (Below w3.heap.size w3 wr)) (fun iv _ => M - (intOf iv).toNat)
        case atStart => exact ⟨0, rfl, Nat.zero_le _, Below.refl _ _⟩
        case round =>
          obtain ⟨k, rfl, hk, HB⟩ := hrel
          have hw1 : IntKind.i64.wrap ((k : Int) + 1) = ((k + 1 : Nat) : Int) := by rw [IntKind.wrap_i64]; omega
          obtain ⟨k1, hk1⟩ : ∃ k1, k1 = k + 1 := ⟨_, rfl⟩
          rw [← hk1] at hw1
          by_cases hlt : k1 < M
          · have hki : k < L.length := by rw [← HM.out]; omega
            have hk1i : k1 < L.length := by rw [← HM.out]; exact hlt
            have HLX := Lib.hid (H3.out.2.1.below HB.out)
            obtain ⟨ad, rfl, hadb, c0, c1⟩ := HLX.out.at hki
            have HCL : Hid (∀ W, Below w3.heap.size w3 W → (W.cell? (ad.add (k * 2)) = some (.int .i64 (L.getD k pq0).1) ∧ W.cell? ⟨(ad.add (k * 2)).block, (ad.add (k * 2)).off + 1, none⟩ = some (.int .i64 (L.getD k pq0).2)) ∧ (W.cell? (ad.add (k1 * 2)) = some (.int .i64 (L.getD k1 pq0).1) ∧ W.cell? ⟨(ad.add (k1 * 2)).block, (ad.add (k1 * 2)).off + 1, none⟩ = some (.int .i64 (L.getD k1 pq0).2))) := fun W hb => by
              obtain ⟨ad1, e1, _, a0, a1⟩ := (H3.out.2.1.below hb).at hki
              obtain ⟨ad2, e2, _, b0, b1⟩ := (H3.out.2.1.below hb).at hk1i
              cases e1
              cases e2
              exact ⟨⟨a0, a1⟩, b0, b1⟩
            have hU := H3.out.2.2.2.up.1
            have hsort := hU.at (show k ≤ k1 by omega) hk1i
            have ho1 := hU.okAt hki
            have ho2 := hU.okAt hk1i
            have KO := Lib.hid (fun W => ref13_odder (L.getD k pq0).1 (L.getD k pq0).2 (L.getD k1 pq0).1 (L.getD k1 pq0).2 ho1 ho2 W)
            obtain ⟨o, ho⟩ : ∃ o, o = oddC (L.getD k pq0).1 (L.getD k pq0).2 (L.getD k1 pq0).1 (L.getD k1 pq0).2 := ⟨_, rfl⟩
            have ho0 : ¬ 0 < o := by rw [ho]; unfold leS at hsort; omega
            rw [← ho] at KO
            clear hsort ho1 ho2 ho hU c0 c1 hadb HLX
            obtain ⟨⟨c0, c1⟩, d0, d1⟩ := HCL.out _ HB.out
            generalize (L.getD k pq0).1 = p at *
            generalize (L.getD k pq0).2 = q at *
            generalize (L.getD k1 pq0).1 = p2 at *
            generalize (L.getD k1 pq0).2 = q2 at *
            have KO2 : Hid (∀ W, Below wr.heap.size wr W → Calls Try.prog 28 #[.agg #[.int .i64 p, .int .i64 q], .agg #[.int .i64 p2, .int .i64 q2]] W fun e w' => e = .returned (.int .i64 o) ∧ ((w'.cell? (ad.add (k * 2)) = some (.int .i64 p) ∧ w'.cell? ⟨(ad.add (k * 2)).block, (ad.add (k * 2)).off + 1, none⟩ = some (.int .i64 q)) ∧ (w'.cell? (ad.add (k1 * 2)) = some (.int .i64 p2) ∧ w'.cell? ⟨(ad.add (k1 * 2)).block, (ad.add (k1 * 2)).off + 1, none⟩ = some (.int .i64 q2))) ∧ Hid (Below w3.heap.size w3 w')) := fun W hW => by
              refine (KO.out W).mono ?_
              rintro e w' ⟨rfl, hb⟩
              have hbb := (HB.out.trans (hW.mono HB.out.size)).trans (hb.mono (HB.out.trans (hW.mono HB.out.size)).size)
              exact ⟨rfl, HCL.out w' hbb, hbb⟩
            have hkM : (k : Int) < (M : Int) := by omega
            have hkM1 : (k1 : Int) < (M : Int) := by omega
            have HK1 := Lib.hid hk1
            clear hk1 KO hki hk1i
            go_wp2
            go_region_held3 (fun W => (W.cell? (ad.add (k * 2)) = some (.int .i64 p) ∧ W.cell? ⟨(ad.add (k * 2)).block, (ad.add (k * 2)).off + 1, none⟩ = some (.int .i64 q)) ∧ (W.cell? (ad.add (k1 * 2)) = some (.int .i64 p2) ∧ W.cell? ⟨(ad.add (k1 * 2)).block, (ad.add (k1 * 2)).off + 1, none⟩ = some (.int .i64 q2))) (go_keep)
              (first | (go_at_call 28; refine Calls.mono (KO2.out _ ?_) ?_; (first | exact Below.refl _ _ | exact (Below.refl _ _).drew | exact below_drewN (Below.refl _ _) _); rintro e w5 ⟨rfl, ⟨⟨c0, c1⟩, d0, d1⟩, HB5⟩))
            go_wp2
            exact ⟨⟨k1, by go_num, by omega, HB5⟩, by simp only [intOf]; have := HK1.out; omega⟩
          · have H4 := Lib.hid (H3.out.2.2.2.below HB.out)
            have HX := Lib.hid (H3.out.2.1.below HB.out)
            have hltI : ¬ (k1 : Int) < (M : Int) := by omega
            go_wp2_with fail
            refine (lv2_all w g2 g _ L L _ H4.out.turn).mono ?_
            rintro e w5 ⟨Y, cy, rfl, H5⟩
            rw [← HM.out]
            have HX5 := Lib.hid (HX.out.below (H5.out.2.2.1.mono HB.out.size))
            have KS := Lib.hid (ref13_same X Y L L M M cx cy w3.heap.size w5.heap.size w5 HM.out.symm HM.out.symm HX5.out H5.out.2.1 (by omega) (by omega))
            rw [show decide (L = L) = true from decide_eq_true rfl] at KS
            have H6 := Lib.hid H5.out.2.2.2.turn
            clear HX5 HX H5 H4
            go_wp2_with fail
            refine KS.out.mono ?_
            rintro e w6 ⟨rfl, nq, rfl⟩
            have H7 := Lib.hid (H6.out.below (below_drewN (Below.refl _ _) nq))
            have K8 := Lib.hid (lv2_len w g g2 _ L L _ H7.out)
            rw [← HM.out] at K8
            go_wp2_with fail
            refine K8.out.mono ?_
            rintro e w8 ⟨rfl, rfl⟩
            go_wp2_with fail
            refine (lives18 _).mono ?_
            rintro e wl ⟨rfl, bl⟩
            have HBL := Lib.hid (H7.out.up.2.2.trans (bl.mono H7.out.up.2.2.size))
            clear bl
            go_wp2
            go_ret
            exact ⟨rfl, HBL.out⟩

set_option maxRecDepth 100000 in
theorem lifted (os : Os) (started : os.Started) (H : Type) (enc : TypeId × Value → H) :
    ReturnsInHanded {} Try.checked os 4 .any (Rows.bagOrdersSpec.pre6 enc Try.prog Try.f4 Rows.bagOrdersRow.domain false) (Rows.bagOrdersSpec.post enc Try.prog Try.f4 false true false false) := by
  refine returnsInHanded_of_change (C := Try.checked) own started (by kernel_rfl) Try.func4
    (ChangeSpec.witness6 (enc := enc) (C := Try.checked) false ⟨#[], #[.slice none 0 0, .agg #[.int .i64 0, .int .i64 0]], []⟩ 8 (by kernel_rfl) (by kernel_rfl) (by kernel_rfl) (by kernel_rfl)) ?_
  intro W base args ds gs before hval0 hW hcnd _
  have hval : ∀ (j : Nat) t v, Try.f4.params[j]? = some t → args[j]? = some v → Value.okWide Try.prog W .any base t v := hval0
  have hW' := hW
  obtain ⟨p, q, hA0, hV, rfl, hfz, hnd⟩ := hW
  obtain ⟨rfl, rfl⟩ := trodVars_none hV
  have hA : DataW.TrodAll enc Try.prog W 0 (fun _ => true) true Try.f4.params.toList args.toList ds p := hA0
  rw [Try.params4] at hA hval
  obtain ⟨v0, vs0, d0, ds0, p0, q0, hargs, rfl, rfl, h0, r0⟩ := trodAll_cons hA
  obtain ⟨v1, vs1, d1, ds1, p1, q1, rfl, rfl, rfl, h1, r1⟩ := trodAll_cons r0
  obtain ⟨rfl, rfl, rfl⟩ := trodAll_nil r1
  obtain rfl : args = #[v0, v1] := by cases args; simp_all
  obtain ⟨A0, l0, c0, rfl, L0, I0, M0, N0, Z0⟩ := open_scores Try.underlying28 Try.underlying24 (by kernel_rfl) rfl (by kernel_rfl) (Prod.ext Try.underlying3 Try.underlying3) (hval 0 28 v0 rfl rfl) h0
  obtain ⟨a1, b1, rfl, w1, z1⟩ := open_two Try.underlying24 Try.underlying3 Try.underlying3 (by kernel_rfl) (by kernel_rfl) (hval 1 24 v1 rfl rfl) h1
  refine (walk A0 l0 c0 L0 I0 M0 N0 Z0 a1 b1 (i64_of_wf w1) (i64_of_wf z1) W).mono fun e W' ⟨he, hg⟩ => ?_
  subst he
  exact ⟨_, rfl, law_post laid (by rw [Try.params4]; exact (by decide +kernel)) rfl (by kernel_rfl) Try.underlying4 rfl hW' hg⟩

theorem over : Rows.bagOrdersRow.holds Try.pinned (OpenSpec.ofChange Rows.bagOrdersSpec) :=
  OpenClaim.holds_of_wide 4 Try.f4 rfl rfl rfl rfl rfl rfl rfl ⟨rfl, rfl, rfl, rfl, rfl⟩ rfl rfl rfl rfl rfl (by kernel_rfl) Try.func4 (by kernel_rfl)
    (of_decide_eq_true (by kernel_rfl)) (by unfold Func.isWrapper; first | (rw [if_pos (by decide +kernel)]; kernel_rfl) | (rw [if_neg (by decide +kernel)]; exact ⟨rfl, rfl⟩))
    (fun os started H enc _ => lifted os started H enc)
theorem proved : Rows.BagOrdersSaid := over
end Go.Proofs.Ytaeodkpkgbjaeaa.bagOrders
