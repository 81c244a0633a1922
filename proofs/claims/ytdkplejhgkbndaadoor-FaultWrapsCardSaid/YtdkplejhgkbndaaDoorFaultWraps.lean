/- Statement FaultWraps: whatever the input is, the Go function returns true and each argument reads as it did. No condition. -/
import Derived.Test.YtdkplejhgkbndaaDoorRows
import Derived.Test.YtdkplejhgkbndaaDoorPlyH
import Derived.Test.YtdkplejhgkbndaaDoorFauT
import Derived.Test.YtdkplejhgkbndaaDoorBase
import Derived.Test.YtdkplejhgkbndaaDoorTie
import Derived.Test.YtdkplejhgkbndaaDoorCards
import Derived.SevenTiedAt
import Derived.ProofKit
import Derived.OpenShut
namespace Go.Proofs.YtdkplejhgkbndaaDoor.faultWraps
open Go.ChangeShapes Go.WideShapes Go.ChangeAt Go.RowKit
set_option linter.unusedVariables false

theorem own : ownKnob Tryd.prog.godebug = none := by kernel_rfl
theorem laid : laidOutB Tryd.prog = true := by kernel_rfl

set_option maxRecDepth 100000 in
set_option maxHeartbeats 8000000 in
theorem walk {w : World} (A : Option Addr) (l : List Ac) (c : Nat) (hA : LiesA w w.heap.size A l) (hok : ∀ x ∈ l, okAc x) (hl : l.length ≤ 9223372036854775807) (op : ByteArray) (hop : op.size ≤ 9223372036854775807) (n : Int) (hn : I64 n) (cl : Int) (hcl : I64 cl) (_ : World) (hT : G4 w) :
    Calls Tryd.prog 6 #[.slice A l.length c, .string op, .int .i64 n, .int .i64 cl] w fun e w' => e = .returned (.bool true) ∧ Below w.heap.size w w' := by
  have HT := Lib.hid hT
  have KS := Lib.hid (law_small A l c w.heap.size w hA (by omega))
  have HP := Lib.hid (fun W (hW : Below w.heap.size w W) (hs : smallA l = true) => law_play A l c W (LiesA.mono (hA.below hW) hW.size) hok hs)
  clear hA hok hT
  generalize l.length = L at *
  cases hs : smallA l with
  | false =>
    have hx : True := trivial
    rw [hs] at KS
    clear HP hs
    go_enter Tryd.func6, Tryd.ntmps6
    go_wp2_with fail
    refine KS.out.mono ?_
    rintro e w1 ⟨rfl, n1, rfl⟩
    have HB1 := Lib.hid (below_refl_drewN w n1)
    have HT1 := Lib.hid (HT.out.below HB1.out)
    generalize w.drewN n1 = w1 at *
    go_wp2_with fail
    refine (lives4 _ HT1.out).mono ?_
    rintro e wl ⟨rfl, hl2⟩
    go_wp2
    go_ret
    exact ⟨rfl, HB1.out.trans (hl2.mono HB1.out.size)⟩
  | true =>
    rw [hs] at KS
    have HPL := Lib.hid (fun W hW => HP.out W hW hs)
    clear HP hs
    by_cases hg : 100 < op.size
    · have hg' : (100 : Int) < (op.size : Int) := by omega
      clear HPL
      go_enter Tryd.func6, Tryd.ntmps6
      go_wp2_with fail
      refine KS.out.mono ?_
      rintro e w1 ⟨rfl, n1, rfl⟩
      have HB1 := Lib.hid (below_refl_drewN w n1)
      have HT1 := Lib.hid (HT.out.below HB1.out)
      generalize w.drewN n1 = w1 at *
      go_wp2_with fail
      refine (lives4 _ HT1.out).mono ?_
      rintro e wl ⟨rfl, hl2⟩
      go_wp2
      go_ret
      exact ⟨rfl, HB1.out.trans (hl2.mono HB1.out.size)⟩
    have hg' : ¬ (100 : Int) < (op.size : Int) := by omega
    go_enter Tryd.func6, Tryd.ntmps6
    go_wp2_with fail
    refine KS.out.mono ?_
    rintro e w1 ⟨rfl, n1, rfl⟩
    have HB1 := Lib.hid (below_refl_drewN w n1)
    have HT1 := Lib.hid (HT.out.below HB1.out)
    generalize w.drewN n1 = w1 at *
    go_wp2_with fail
    refine (HPL.out _ HB1.out).mono ?_
    rintro e w2 ⟨vm, vn, vp, T, bs, N, P, rfl, hPL, hFit, hbl, h12⟩
    have HB2 := Lib.hid (HB1.out.trans (hPL.2.2.2.2.1.mono HB1.out.size))
    have HT2 := Lib.hid (HT.out.below HB2.out)
    obtain ⟨M, Am, cm, An, cn, b, rfl, rfl, hM, q2, q3, q4, q5⟩ := play_out2 hPL hFit hbl h12 HT2.out
    have Q2 := Lib.hid q2
    have Q3 := Lib.hid q3
    have Q4 := Lib.hid q4
    have Q5 := Lib.hid q5
    clear q2 q3 q4 q5 hPL hFit hbl h12
    go_wp2
    go_loopw [12, 13, 14] (fun i _ _ wr => ∃ k : Nat, k ≤ M ∧ i = .int .i64 k ∧ Hid (Below w2.heap.size w2 wr)) (fun i _ _ _ => M - (intOf i).toNat)
    case atStart => exact ⟨0, by omega, rfl, Below.refl _ _⟩
    case round =>
      obtain ⟨i, hi, rfl, HW⟩ := hrel
      by_cases hlt : i < M
      · have g1 : (i : Int) < (M : Int) := by omega
        obtain ⟨ad0, rfl, hcell0⟩ := Q2.out i hlt
        have HCE := Lib.hid hcell0
        have c0 := hcell0 _ HW.out
        have HF := Lib.hid (fun W hW => Q3.out i W hlt hW)
        have HZ := Lib.hid (Q4.out i hlt)
        have H5 := Lib.hid (fun W hW => Q5.out i W hlt hW)
        clear hcell0
        generalize b i = bi at *
        generalize T.getD i tD = t at *
        have HB3 : Hid (Below w2.heap.size w2 (wr.alloc (.cells #[wrapV op n (some ⟨bi, 0, none⟩)] 80))) := HW.out.alloc HW.out.size _
        have HI3 := Lib.hid (isf_wrap (HF.out _ HW.out) op n)
        go_wp2_with fail
        refine (fau_wrap op n ⟨bi, 0, none⟩ _).mono ?_
        rintro e w3 ⟨rfl, rfl⟩
        generalize wr.heap.size = bw at *
        generalize wr.alloc (.cells #[wrapV op n (some ⟨bi, 0, none⟩)] 80) = w3 at *
        go_wp2_with fail
        refine (fau_steps (.wrap op n t) bw _ HI3.out (by have := HZ.out; simp only [size]; omega)).mono ?_
        rintro e w4 ⟨v, rfl, ho, hb⟩
        obtain ⟨g, cv, e4, hg4, hc4⟩ := own_in ho (by simp [stepsF])
        have HB4 := Lib.hid (HB3.out.trans (hb.mono HB3.out.size))
        have HI4 := Lib.hid (HI3.out.below hb)
        have k0 := hc4 0 (.string op) (by simp [stepsF, litS])
        have k1 := hc4 1 (.int .i64 n) (by simp [stepsF, litS])
        have HCELL : Hid (∀ W, Below w4.heap.size w4 W → W.cell? ⟨g, 0, none⟩ = some (.string op) ∧ W.cell? ⟨g, 1, none⟩ = some (.int .i64 n) ∧ W.cell? (ad0.add i) = some (ptr bi 0)) := fun W hW =>
          ⟨(hW.cell hg4).trans k0, (hW.cell hg4).trans k1, HCE.out W (HB4.out.trans (hW.mono HB4.out.size))⟩
        have e5 : v = .slice (some ⟨g, 0, none⟩) ((stepsF t).length + 1) cv := by rw [e4]; rfl
        subst e5
        have KC1 : Hid (∀ W, Below w4.heap.size w4 W → Calls Tryd.prog 10 #[ptr bw 0] W fun e w' => e = .returned (.int .i64 (codeF t)) ∧ Below W.heap.size W w') := fun W hW =>
          fau_code (.wrap op n t) bw W (HI4.out.below hW) (HT2.out.below (HB4.out.trans (hW.mono HB4.out.size))).2.1
        have KC2 : Hid (∀ W, Below w4.heap.size w4 W → Calls Tryd.prog 10 #[ptr bi 0] W fun e w' => e = .returned (.int .i64 (codeF t)) ∧ Below W.heap.size W w') := fun W hW =>
          fau_code t bi W (HF.out _ (HB4.out.trans (hW.mono HB4.out.size))) (HT2.out.below (HB4.out.trans (hW.mono HB4.out.size))).2.1
        have KO1 : Hid (∀ W, Below w4.heap.size w4 W → Calls Tryd.prog 20 #[ptr bw 0, .int .i64 cl] W fun e w' => e = .returned (.bool (hasF (.cls cl) t)) ∧ Below W.heap.size W w') := fun W hW =>
          fau_Of (.wrap op n t) bw W (HI4.out.below hW) (HT2.out.below (HB4.out.trans (hW.mono HB4.out.size))).2.1 (by have := HZ.out; simp only [size]; omega) cl
        have KO2 : Hid (∀ W, Below w4.heap.size w4 W → Calls Tryd.prog 20 #[ptr bi 0, .int .i64 cl] W fun e w' => e = .returned (.bool (hasF (.cls cl) t)) ∧ Below W.heap.size W w') := fun W hW =>
          fau_Of t bi W (HF.out _ (HB4.out.trans (hW.mono HB4.out.size))) (HT2.out.below (HB4.out.trans (hW.mono HB4.out.size))).2.1 (by have := HZ.out; omega) cl
        have KR : Hid (∀ W, Below w4.heap.size w4 W → Calls Tryd.prog 16 #[.slice An M cn, .int .i64 i] W fun e w' => ∃ A' c', e = .returned (.slice A' (stepsF t).length c') ∧ Below W.heap.size W w') := fun W hW =>
          (H5.out W (HB4.out.trans (hW.mono HB4.out.size))).mono fun e w' hx => by
            obtain ⟨v, rfl, ho, hb⟩ := hx
            obtain ⟨A', c', rfl⟩ := pc_shape ho
            exact ⟨A', c', rfl, hb⟩
        have hls : ((stepsF t).length : Int) ≤ 200001 := by have := steps_len t; have := HZ.out; omega
        have HX : Hid (Below w4.heap.size w4 w4.drew) := (Below.refl w4.heap.size w4).drew
        obtain ⟨x0, x1, x2⟩ := HCELL.out _ HX.out
        clear ho hb hc4 k0 k1 c0 HI3 HI4 HB3 HF HZ H5 HCE Q2 Q3 Q4 Q5 e4 hg4
        generalize codeF t = CO at *
        generalize hasF (.cls cl) t = OF at *
        generalize (stepsF t).length = LS at *
        have tC : True := trivial
        have tO : True := trivial
        have y1 : (CO != CO) = false := by simp
        have y2 : (OF != OF) = false := by simp
        generalize hLT : LS + 1 = LT at *
        have y3 : ((LT : Int) == (LS : Int) + 1) = true := by simp; omega
        have y4 : ((LT : Int) != (LS : Int) + 1) = false := by simp; omega
        have y5 : (n == n) = true := by simp
        have y6 : (0 : Int) < (LT : Int) := by omega
        have y7 : (op.toList == op.toList) = true := by simp
        have y8 : (0 : Int) ≤ (LS : Int) := by omega
        have y9 : (LT : Int) = (LS : Int) + 1 := by omega
        have y10 : IntKind.i64.wrap ((LS : Int) + 1) = (LS : Int) + 1 := by first | go_num | (simp [IntKind.wrap, IntKind.bits, IntKind.signed]; omega)
        have y11 : (((LS : Int) + 1) != ((LS : Int) + 1)) = false := by simp
        clear hLT
        go_wp2
        go_region_held3 (fun W => W.cell? ⟨g, 0, none⟩ = some (.string op) ∧ W.cell? ⟨g, 1, none⟩ = some (.int .i64 n) ∧ W.cell? (ad0.add i) = some (ptr bi 0)) (go_keep)
          (first
            | (go_at_call 10; have _t := tC; (refine (KC1.out _ HX.out).mono ?_); rintro e w5 ⟨rfl, b5⟩; have HX := Lib.hid (HX.out.trans (b5.mono HX.out.size)); obtain ⟨x0, x1, x2⟩ := HCELL.out _ HX.out; clear b5 tC)
            | (go_at_call 10; (refine (KC2.out _ HX.out).mono ?_); rintro e w5 ⟨rfl, b5⟩; have HX := Lib.hid (HX.out.trans (b5.mono HX.out.size)); obtain ⟨x0, x1, x2⟩ := HCELL.out _ HX.out; clear b5)
            | (go_at_call 20; have _t := tO; (refine (KO1.out _ HX.out).mono ?_); rintro e w5 ⟨rfl, b5⟩; have HX := Lib.hid (HX.out.trans (b5.mono HX.out.size)); obtain ⟨x0, x1, x2⟩ := HCELL.out _ HX.out; clear b5 tO)
            | (go_at_call 20; (refine (KO2.out _ HX.out).mono ?_); rintro e w5 ⟨rfl, b5⟩; have HX := Lib.hid (HX.out.trans (b5.mono HX.out.size)); obtain ⟨x0, x1, x2⟩ := HCELL.out _ HX.out; clear b5)
            | (go_at_call 16; (refine (KR.out _ HX.out).mono ?_); rintro e w5 ⟨A', c', rfl, b5⟩; have HX := Lib.hid (HX.out.trans (b5.mono HX.out.size)); obtain ⟨x0, x1, x2⟩ := HCELL.out _ HX.out; clear b5))
        go_wp2
        exact ⟨⟨i + 1, by omega, by go_num, HB4.out.trans (HX.out.mono HB4.out.size)⟩, by first | (simp [intOf]; done) | (simp [intOf]; omega)⟩
      · have g1 : ¬ (i : Int) < (M : Int) := by omega
        have HT6 := Lib.hid (HT2.out.below HW.out)
        go_wp2_with fail
        refine (lives4 _ HT6.out).mono ?_
        rintro e w7 ⟨rfl, hb7⟩
        have HW7 := Lib.hid (HW.out.trans (hb7.mono HW.out.size))
        clear hb7
        go_wp2
        go_ret
        exact ⟨rfl, HB2.out.trans (HW7.out.mono HB2.out.size)⟩

set_option maxRecDepth 100000 in
theorem lifted (os : Os) (started : os.Started) (H : Type) (enc : TypeId × Value → H) :
    ReturnsInHanded {} Tryd.checked os 6 .any (fun w args => (Rows.faultWrapsSpec.pre enc Tryd.prog Tryd.f6 [] false w args ∧ laidMetH Tryd.prog lst4 w) ∧ sizedMet enc Tryd.prog Tryd.f6 (OpenSpec.ofChange Rows.faultWrapsSpec) false w args) (Rows.faultWrapsSpec.post enc Tryd.prog Tryd.f6 false true false false) := by
  refine returnsInHanded_of_change_and (C := Tryd.checked) (X := fun w _ => laidMetH Tryd.prog lst4 w) (fun _ _ _ hh h => h.of_heap hh) own started (by kernel_rfl) Tryd.func6
    (ChangeSpec.witness_shaped (enc := enc) (C := Tryd.checked) (os := os) (X := fun w _ => laidMetH Tryd.prog lst4 w) false (World.doorLaid Tryd.prog 400 os) #[.slice none 0 0, .string ⟨#[]⟩, .int .i64 0, .int .i64 0] 8 rfl (World.shaped_of_RefB (by kernel_rfl) (by kernel_rfl)) (by kernel_rfl) (by kernel_rfl) (by kernel_rfl) (door_met4 os _)) ?_
  intro W base args ds gs before hval0 hW _ _ hL _
  have hT := tab_of4 hL
  have hval : ∀ (j : Nat) t v, Tryd.f6.params[j]? = some t → args[j]? = some v → Value.okWide Tryd.prog W .any base t v := hval0
  have hW' := hW
  obtain ⟨p, q, hA0, hV, rfl, hfz, hnd⟩ := hW
  obtain ⟨rfl, rfl⟩ := trodVars_none hV
  have hA : DataW.TrodAll enc Tryd.prog W 0 (fun _ => true) true Tryd.f6.params.toList args.toList ds p := hA0
  rw [Tryd.params6] at hA hval
  obtain ⟨v0, vs0, d0, ds0, p0, q0, hargs, rfl, rfl, h0, r0⟩ := trodAll_cons hA
  obtain ⟨v1, vs1, d1, ds1, p1, q1, rfl, rfl, rfl, h1, r1⟩ := trodAll_cons r0
  obtain ⟨v2, vs2, d2, ds2, p2, q2, rfl, rfl, rfl, h2, r2⟩ := trodAll_cons r1
  obtain ⟨v3, vs3, d3, ds3, p3, q3, rfl, rfl, rfl, h3, r3⟩ := trodAll_cons r2
  obtain ⟨rfl, rfl, rfl⟩ := trodAll_nil r3
  obtain rfl : args = #[v0, v1, v2, v3] := by cases args; simp_all
  obtain ⟨A0, l0, c0, rfl, L0, I0, M0⟩ := open_acts Tryd.underlying22 Tryd.underlying55 (by kernel_rfl) rfl (by kernel_rfl) (by kernel_rfl) (hval 0 22 v0 rfl rfl) h0
  obtain ⟨s1, rfl, _, _, z1⟩ := Go.ChangeMaps.open_string Tryd.underlying9 (hval 1 9 v1 rfl rfl) h1
  obtain ⟨a2, rfl, _, _, w2⟩ := open_int Tryd.underlying3 (hval 2 3 v2 rfl rfl) h2
  obtain ⟨a3, rfl, _, _, w3⟩ := open_int Tryd.underlying3 (hval 3 3 v3 rfl rfl) h3
  refine (walk A0 l0 c0 L0 I0 M0 s1 z1 a2 (i64_of_wf w2) a3 (i64_of_wf w3) W hT).mono fun e W' ⟨he, hg⟩ => ?_
  subst he
  exact ⟨_, rfl, law_post laid (by rw [Tryd.params6]; exact (by decide +kernel)) rfl (by kernel_rfl) Tryd.underlying4 rfl hW' hg⟩

theorem over : Rows.faultWrapsRow.holds Tryd.pinned (OpenSpec.ofChange Rows.faultWrapsSpec) :=
  OpenClaim.holds_of_wide 6 Tryd.f6 rfl rfl rfl rfl rfl rfl rfl ⟨rfl, rfl, rfl, rfl, rfl⟩ rfl rfl rfl rfl rfl (by kernel_rfl) Tryd.func6 (by kernel_rfl)
    (of_decide_eq_true (by kernel_rfl)) (by unfold Func.isWrapper; first | (rw [if_pos (by decide +kernel)]; kernel_rfl) | (rw [if_neg (by decide +kernel)]; exact ⟨rfl, rfl⟩))
    (fun os started H enc _ => lifted os started H enc)
theorem proved : Rows.FaultWrapsCardSaid :=
  Claim7.holds_tied_plain_at .later [] [.data, .data, .data, .handle] true Rows.faultWrapsCard.stood.harness true
    over (fun _ h => by cases h) (by kernel_rfl) (fun _ h => by cases h) faultWraps_row_tie rfl ⟨rfl, rfl⟩ (by kernel_rfl) rfl
    (fun f fn hf hfn => by
      obtain rfl : f = 6 := Option.some.inj ((show Tryd.prog.funcNamed Rows.faultWrapsRow.func = some 6 by kernel_rfl).symm.trans hf) |>.symm
      obtain rfl : fn = Tryd.f6 := (Option.some.inj (Tryd.func6.symm.trans hfn)).symm
      exact ⟨by kernel_rfl, fun j t ht => by
        rw [Tryd.params6] at ht
        have hm : t ∈ [22, 9, 3, 3] := by simpa using Array.mem_of_getElem? ht
        have hall : ([22, 9, 3, 3].all fun u => !Tryd.prog.wantsStandIn u) = true := by kernel_rfl
        exact (show Tryd.prog.wantsStandIn t = false by simpa using List.all_eq_true.1 hall t hm)⟩)
    (by kernel_rfl)
end Go.Proofs.YtdkplejhgkbndaaDoor.faultWraps
