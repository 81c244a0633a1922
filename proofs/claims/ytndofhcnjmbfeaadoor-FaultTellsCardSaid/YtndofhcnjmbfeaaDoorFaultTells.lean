/- Statement FaultTells: whatever the input is, the Go function returns true and each argument reads as it did. No condition. -/
import Derived.Test.YtndofhcnjmbfeaaDoorRows
import Derived.Test.YtndofhcnjmbfeaaDoorPlyU
import Derived.Test.YtndofhcnjmbfeaaDoorFauT
import Derived.Test.YtndofhcnjmbfeaaDoorBase
import Derived.Test.YtndofhcnjmbfeaaDoorTie
import Derived.Test.YtndofhcnjmbfeaaDoorCards
import Derived.SevenTiedAt
import Derived.ProofKit
import Derived.OpenShut
namespace Go.Proofs.YtndofhcnjmbfeaaDoor.faultTells
open Go.ChangeShapes Go.WideShapes Go.ChangeAt Go.RowKit
set_option linter.unusedVariables false

theorem own : ownKnob Tryd.prog.godebug = none := by kernel_rfl
theorem laid : laidOutB Tryd.prog = true := by kernel_rfl

set_option maxRecDepth 100000 in
set_option maxHeartbeats 8000000 in
theorem walk {w : World} (A : Option Addr) (l : List Ac) (c : Nat) (hA : LiesA w w.heap.size A l) (hok : ∀ x ∈ l, okAc x) (hl : l.length ≤ 9223372036854775807) (_ : World) (hT : G4 w) :
    Calls Tryd.prog 3 #[.slice A l.length c] w fun e w' => e = .returned (.bool true) ∧ Below w.heap.size w w' := by
  have HT := Lib.hid hT
  have KS := Lib.hid (law_small A l c w.heap.size w hA (by omega))
  have HP := Lib.hid (fun W (hW : Below w.heap.size w W) (hs : smallA l = true) => law_play A l c W (LiesA.mono (hA.below hW) hW.size) hok hs)
  clear hA hok hT
  generalize l.length = L at *
  cases hs : smallA l with
  | false =>
    have hx : True := trivial
    rw [hs] at KS
    clear HP hs
    go_enter Tryd.func3, Tryd.ntmps3
    go_wp2_with fail
    refine KS.out.mono ?_
    rintro e w1 ⟨rfl, n1, rfl⟩
    have HB1 := Lib.hid (below_refl_drewN w n1)
    have HT1 := Lib.hid (HT.out.below HB1.out)
    generalize w.drewN n1 = w1 at *
    go_wp2_with fail
    refine (lives4 _ HT1.out).mono ?_
    rintro e wl ⟨rfl, hl2⟩
    go_wp2
    go_ret
    exact ⟨rfl, HB1.out.trans (hl2.mono HB1.out.size)⟩
  | true =>
    rw [hs] at KS
    have HPL := Lib.hid (fun W hW => HP.out W hW hs)
    clear HP hs
    go_enter Tryd.func3, Tryd.ntmps3
    go_wp2_with fail
    refine KS.out.mono ?_
    rintro e w1 ⟨rfl, n1, rfl⟩
    have HB1 := Lib.hid (below_refl_drewN w n1)
    have HT1 := Lib.hid (HT.out.below HB1.out)
    generalize w.drewN n1 = w1 at *
    go_wp2_with fail
    refine (HPL.out _ HB1.out).mono ?_
    rintro e w2 ⟨vm, vn, vp, T, bs, N, P, rfl, hPL, hFit, hbl, h12⟩
    have HB2 := Lib.hid (HB1.out.trans (hPL.2.2.2.2.1.mono HB1.out.size))
    have HT2 := Lib.hid (HT.out.below HB2.out)
    obtain ⟨M, Am, cm, An, cn, b, rfl, rfl, hM, q2, q3, q4, q5, q6, q7⟩ := play_out3 hPL hFit hbl h12 HT2.out
    have Q2 := Lib.hid q2
    have Q3 := Lib.hid q3
    have Q4 := Lib.hid q4
    have Q5 := Lib.hid q5
    have Q6 := Lib.hid q6
    have Q7 := Lib.hid q7
    clear q2 q3 q4 q5 q6 q7 hPL hFit hbl h12
    go_wp2
    go_loopw [6] (fun i wr => ∃ k : Nat, k ≤ M ∧ i = .int .i64 k ∧ Hid (Below w2.heap.size w2 wr)) (fun i _ => M - (intOf i).toNat)
    case atStart => exact ⟨0, by omega, rfl, Below.refl _ _⟩
    case round =>
      obtain ⟨i, hi, rfl, HW⟩ := hrel
      by_cases hlt : i < M
      · have g1 : (i : Int) < (M : Int) := by omega
        have g0 : (0 : Int) ≤ (i : Int) := by omega
        obtain ⟨ad0, rfl, hcell0⟩ := Q2.out i hlt
        have HCE := Lib.hid hcell0
        have HF := Lib.hid (fun W hW => Q3.out i W hlt hW)
        obtain ⟨z1, z2, z3⟩ := Q4.out i hlt
        have H5 := Lib.hid (fun W hW => Q5.out i W hlt hW)
        have H6 := Lib.hid (fun W hW => Q6.out i W hlt hW)
        have H7 := Lib.hid (fun W hW => Q7.out i W hlt hW)
        have HPS := Lib.hid (stepsF_pos (T.getD i tD))
        have HLS := Lib.hid (steps_len (T.getD i tD))
        have KC := Lib.hid (fun W (hW : Below w2.heap.size w2 W) => fau_code (T.getD i tD) (b i) W (Q3.out i W hlt hW) (HT2.out.below hW).2.1)
        have KT := Lib.hid (fun W (hW : Below w2.heap.size w2 W) => fau_text (T.getD i tD) (b i) W (Q3.out i W hlt hW) (HT2.out.below hW).1 (HT2.out.below hW).2.2 (by omega) (by omega) z3)
        have KE := Lib.hid (fun W (hW : Below w2.heap.size w2 W) => fau_error (T.getD i tD) (b i) W (Q3.out i W hlt hW) (HT2.out.below hW).1 (HT2.out.below hW).2.2 (by omega) (by omega) z3)
        have KP := Lib.hid (fun W (hW : Below w2.heap.size w2 W) => fau_steps (T.getD i tD) (b i) W (Q3.out i W hlt hW) (by omega))
        have hls : (stepsF (T.getD i tD)).length ≤ 100001 := by have := HLS.out; omega
        clear hcell0 Q2 Q3 Q4 Q5 Q6 Q7 z2 z3 HF z1 HLS
        generalize b i = bi at *
        generalize codeF (T.getD i tD) = CO at *
        generalize textF (T.getD i tD) = R at *
        generalize stepsF (T.getD i tD) = st at *
        have y1 : (CO != CO) = false := by simp
        have y2 : (R.toList == R.toList) = true := by simp
        have x0 := HCE.out _ HW.out
        go_wp2_with fail
        refine (KC.out _ HW.out).mono ?_
        rintro e w3 ⟨rfl, b3⟩
        have HX := Lib.hid (HW.out.trans (b3.mono HW.out.size))
        clear b3 x0
        go_wp2_with fail
        refine (H5.out _ HX.out).mono ?_
        rintro e w4 ⟨rfl, m4, e4⟩
        have HX := Lib.hid (show Below w2.heap.size w2 w4 by rw [e4]; exact below_dN HX.out m4)
        clear e4
        have x0 := HCE.out _ HX.out
        go_wp2_with fail
        refine (KT.out _ HX.out).mono ?_
        rintro e w5 ⟨rfl, b5⟩
        have HX := Lib.hid (HX.out.trans (b5.mono HX.out.size))
        clear b5 x0
        go_wp2_with fail
        refine (H6.out _ HX.out).mono ?_
        rintro e w6 ⟨rfl, b6⟩
        have HX := Lib.hid (HX.out.trans (b6.mono HX.out.size))
        clear b6
        have x0 := HCE.out _ HX.out
        go_wp2_with fail
        refine (KE.out _ HX.out).mono ?_
        rintro e w7 ⟨rfl, b7⟩
        have HX := Lib.hid (HX.out.trans (b7.mono HX.out.size))
        clear b7 x0
        go_wp2_with fail
        refine (H6.out _ HX.out).mono ?_
        rintro e w8 ⟨rfl, b8⟩
        have HX := Lib.hid (HX.out.trans (b8.mono HX.out.size))
        clear b8
        have x0 := HCE.out _ HX.out
        go_wp2_with fail
        refine (KP.out _ HX.out).mono ?_
        rintro e w9 ⟨v, rfl, ho, b9⟩
        obtain ⟨sa, sc, rfl, hsb, hsc⟩ := rowT_of ho HPS.out
        have HX := Lib.hid (HX.out.trans (b9.mono HX.out.size))
        have HSC := Lib.hid hsc
        clear b9 x0 ho hsc
        go_wp2_with fail
        refine (H7.out _ HX.out).mono ?_
        rintro e w10 ⟨v2, rfl, ho, b10⟩
        obtain ⟨ta, tc, rfl, htb, htc⟩ := rowT_of ho HPS.out
        have HX := Lib.hid (HX.out.trans (b10.mono HX.out.size))
        have HTC := Lib.hid htc
        have HSC2 : Hid (∀ j, j < st.length → w10.cell? (sa.add (j * 2)) = some (.string (st.getD j sp0).1) ∧ w10.cell? ⟨(sa.add (j * 2)).block, (sa.add (j * 2)).off + 1, none⟩ = some (.int .i64 (st.getD j sp0).2)) := fun j hj =>
          ⟨(b10.cell (by rw [add_block]; exact hsb)).trans (HSC.out j hj).1, (b10.cell (by show (sa.add _).block < _; rw [add_block]; exact hsb)).trans (HSC.out j hj).2⟩
        clear b10 ho htc hsb htb HSC HPS KC KT KE KP H5 H6 H7 HCE
        generalize hLS : st.length = LS at *
        clear hLS
        go_wp2
        go_loopw [9] (fun kv wr => ∃ k : Nat, k ≤ LS ∧ kv = .int .i64 k ∧ Hid (∃ m, wr = w10.drewN m)) (fun kv _ => LS - (intOf kv).toNat)
        case atStart => exact ⟨0, by omega, rfl, 0, rfl⟩
        case round =>
          obtain ⟨k, hk, rfl, HD⟩ := hrel
          by_cases hkl : k < LS
          · have k1 : (k : Int) < (LS : Int) := by omega
            have k0 : (0 : Int) ≤ (k : Int) := by omega
            have s0 : wr.cell? (sa.add (k * 2)) = some (.string (st.getD k sp0).1) := by obtain ⟨m, hm⟩ := HD.out; rw [hm]; exact (HSC2.out k hkl).1
            have s1 : wr.cell? ⟨(sa.add (k * 2)).block, (sa.add (k * 2)).off + 1, none⟩ = some (.int .i64 (st.getD k sp0).2) := by obtain ⟨m, hm⟩ := HD.out; rw [hm]; exact (HSC2.out k hkl).2
            have t0 : wr.cell? (ta.add (k * 2)) = some (.string (st.getD k sp0).1) := by obtain ⟨m, hm⟩ := HD.out; rw [hm]; exact (HTC.out k hkl).1
            have t1 : wr.cell? ⟨(ta.add (k * 2)).block, (ta.add (k * 2)).off + 1, none⟩ = some (.int .i64 (st.getD k sp0).2) := by obtain ⟨m, hm⟩ := HD.out; rw [hm]; exact (HTC.out k hkl).2
            generalize (st.getD k sp0).1 = so at *
            generalize (st.getD k sp0).2 = sn at *
            have y5 : (so.toList == so.toList) = true := by simp
            go_wp2
            go_quiet (fail)
            go_wp2
            go_roundw
            case rel => exact ⟨k + 1, by omega, by go_num, (by obtain ⟨m, hm⟩ := HD.out; exact ⟨m + nq, by rw [hm, World.drewN_drewN]⟩)⟩
            case measure => simp [intOf]; omega
          · obtain rfl : k = LS := by omega
            have HY := Lib.hid (show Below w2.heap.size w2 wr by obtain ⟨m, hm⟩ := HD.out; rw [hm]; exact below_dN HX.out m)
            go_wp2
            go_roundw
            case rel => exact ⟨i + 1, by omega, by go_num, HY⟩
            case measure => simp [intOf]; omega
      · have g1 : ¬ (i : Int) < (M : Int) := by omega
        go_wp2_with fail
        refine (fau_code_nil _).mono ?_
        rintro e w3 ⟨rfl, rfl⟩
        have HT3 := Lib.hid (HT2.out.below HW.out)
        go_wp2_with fail
        refine (fau_text_nil _ HT3.out.1 HT3.out.2.2).mono ?_
        rintro e w4 ⟨rfl, b4⟩
        have HW4 := Lib.hid (HW.out.trans (b4.mono HW.out.size))
        clear b4
        go_wp2_with fail
        refine (fau_steps_nil _).mono ?_
        rintro e w5 ⟨rfl, rfl⟩
        have HT6 := Lib.hid (HT2.out.below HW4.out)
        go_wp2_with fail
        refine (lives4 _ HT6.out).mono ?_
        rintro e w7 ⟨rfl, hb7⟩
        have HW7 := Lib.hid (HW4.out.trans (hb7.mono HW4.out.size))
        clear hb7
        go_wp2
        go_ret
        exact ⟨rfl, HB2.out.trans (HW7.out.mono HB2.out.size)⟩

set_option maxRecDepth 100000 in
theorem lifted (os : Os) (started : os.Started) (H : Type) (enc : TypeId × Value → H) :
    ReturnsInHanded {} Tryd.checked os 3 .any (fun w args => (Rows.faultTellsSpec.pre enc Tryd.prog Tryd.f3 [] false w args ∧ laidMetH Tryd.prog lst4 w) ∧ sizedMet enc Tryd.prog Tryd.f3 (OpenSpec.ofChange Rows.faultTellsSpec) false w args) (Rows.faultTellsSpec.post enc Tryd.prog Tryd.f3 false true false false) := by
  refine returnsInHanded_of_change_and (C := Tryd.checked) (X := fun w _ => laidMetH Tryd.prog lst4 w) (fun _ _ _ hh h => h.of_heap hh) own started (by kernel_rfl) Tryd.func3
    (ChangeSpec.witness_shaped (enc := enc) (C := Tryd.checked) (os := os) (X := fun w _ => laidMetH Tryd.prog lst4 w) false (World.doorLaid Tryd.prog 400 os) #[.slice none 0 0] 8 rfl (World.shaped_of_RefB (by kernel_rfl) (by kernel_rfl)) (by kernel_rfl) (by kernel_rfl) (by kernel_rfl) (door_met4 os _)) ?_
  intro W base args ds gs before hval0 hW _ _ hL _
  have hT := tab_of4 hL
  have hval : ∀ (j : Nat) t v, Tryd.f3.params[j]? = some t → args[j]? = some v → Value.okWide Tryd.prog W .any base t v := hval0
  have hW' := hW
  obtain ⟨p, q, hA0, hV, rfl, hfz, hnd⟩ := hW
  obtain ⟨rfl, rfl⟩ := trodVars_none hV
  have hA : DataW.TrodAll enc Tryd.prog W 0 (fun _ => true) true Tryd.f3.params.toList args.toList ds p := hA0
  rw [Tryd.params3] at hA hval
  obtain ⟨v0, vs0, d0, ds0, p0, q0, hargs, rfl, rfl, h0, r0⟩ := trodAll_cons hA
  obtain ⟨rfl, rfl, rfl⟩ := trodAll_nil r0
  obtain rfl : args = #[v0] := by cases args; simp_all
  obtain ⟨A0, l0, c0, rfl, L0, I0, M0⟩ := open_acts Tryd.underlying22 Tryd.underlying42 (by kernel_rfl) rfl (by kernel_rfl) (by kernel_rfl) (hval 0 22 v0 rfl rfl) h0
  refine (walk A0 l0 c0 L0 I0 M0 W hT).mono fun e W' ⟨he, hg⟩ => ?_
  subst he
  exact ⟨_, rfl, law_post laid (by rw [Tryd.params3]; exact (by decide +kernel)) rfl (by kernel_rfl) Tryd.underlying4 rfl hW' hg⟩

theorem over : Rows.faultTellsRow.holds Tryd.pinned (OpenSpec.ofChange Rows.faultTellsSpec) :=
  OpenClaim.holds_of_wide 3 Tryd.f3 rfl rfl rfl rfl rfl rfl rfl ⟨rfl, rfl, rfl, rfl, rfl⟩ rfl rfl rfl rfl rfl (by kernel_rfl) Tryd.func3 (by kernel_rfl)
    (of_decide_eq_true (by kernel_rfl)) (by unfold Func.isWrapper; first | (rw [if_pos (by decide +kernel)]; kernel_rfl) | (rw [if_neg (by decide +kernel)]; exact ⟨rfl, rfl⟩))
    (fun os started H enc _ => lifted os started H enc)
theorem proved : Rows.FaultTellsCardSaid :=
  Claim7.holds_tied_plain_at .later [] [.data, .data, .data, .handle] true Rows.faultTellsCard.stood.harness true
    over (fun _ h => by cases h) (by kernel_rfl) (fun _ h => by cases h) faultTells_row_tie rfl ⟨rfl, rfl⟩ (by kernel_rfl) rfl
    (fun f fn hf hfn => by
      obtain rfl : f = 3 := Option.some.inj ((show Tryd.prog.funcNamed Rows.faultTellsRow.func = some 3 by kernel_rfl).symm.trans hf) |>.symm
      obtain rfl : fn = Tryd.f3 := (Option.some.inj (Tryd.func3.symm.trans hfn)).symm
      exact ⟨by kernel_rfl, fun j t ht => by
        rw [Tryd.params3] at ht
        have hm : t ∈ [22] := by simpa using Array.mem_of_getElem? ht
        have hall : ([22].all fun u => !Tryd.prog.wantsStandIn u) = true := by kernel_rfl
        exact (show Tryd.prog.wantsStandIn t = false by simpa using List.all_eq_true.1 hall t hm)⟩)
    (by kernel_rfl)
end Go.Proofs.YtndofhcnjmbfeaaDoor.faultTells
