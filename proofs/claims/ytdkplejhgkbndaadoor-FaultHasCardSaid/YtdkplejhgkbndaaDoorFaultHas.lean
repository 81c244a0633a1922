/- Statement FaultHas: whatever the input is, the Go function returns true and each argument reads as it did. No condition. -/
import Derived.Test.YtdkplejhgkbndaaDoorRows
import Derived.Test.YtdkplejhgkbndaaDoorPlyG
import Derived.Test.YtdkplejhgkbndaaDoorFauT
import Derived.Test.YtdkplejhgkbndaaDoorBase
import Derived.Test.YtdkplejhgkbndaaDoorTie
import Derived.Test.YtdkplejhgkbndaaDoorCards
import Derived.SevenTiedAt
import Derived.ProofKit
import Derived.OpenShut
namespace Go.Proofs.YtdkplejhgkbndaaDoor.faultHas
open Go.ChangeShapes Go.WideShapes Go.ChangeAt Go.RowKit
set_option linter.unusedVariables false

theorem own : ownKnob Tryd.prog.godebug = none := by kernel_rfl
theorem laid : laidOutB Tryd.prog = true := by kernel_rfl

set_option maxRecDepth 100000 in
set_option maxHeartbeats 8000000 in
theorem walk {w : World} (A : Option Addr) (l : List Ac) (c : Nat) (hA : LiesA w w.heap.size A l) (hok : ∀ x ∈ l, okAc x) (hl : l.length ≤ 9223372036854775807) (co : Int) (hco : I64 co) (cl : Int) (hcl : I64 cl) (_ : World) (hT : G4 w) :
    Calls Tryd.prog 4 #[.slice A l.length c, .int .i64 co, .int .i64 cl] w fun e w' => e = .returned (.bool true) ∧ Below w.heap.size w w' := by
  have HT := Lib.hid hT
  have KS := Lib.hid (law_small A l c w.heap.size w hA (by omega))
  have HP := Lib.hid (fun W (hW : Below w.heap.size w W) (hs : smallA l = true) => law_play A l c W (LiesA.mono (hA.below hW) hW.size) hok hs)
  clear hA hok hT
  generalize l.length = L at *
  cases hs : smallA l with
  | false =>
    rw [hs] at KS
    clear HP hs
    go_enter Tryd.func4, Tryd.ntmps4
    go_wp2_with fail
    refine KS.out.mono ?_
    rintro e w1 ⟨rfl, n1, rfl⟩
    have HB1 := Lib.hid (below_refl_drewN w n1)
    have HT1 := Lib.hid (HT.out.below HB1.out)
    generalize w.drewN n1 = w1 at *
    go_wp2_with fail
    refine (lives4 _ HT1.out).mono ?_
    rintro e wl ⟨rfl, hl2⟩
    go_wp2
    go_ret
    exact ⟨rfl, HB1.out.trans (hl2.mono HB1.out.size)⟩
  | true =>
    rw [hs] at KS
    have HPL := Lib.hid (fun W hW => HP.out W hW hs)
    clear HP hs
    go_enter Tryd.func4, Tryd.ntmps4
    go_wp2_with fail
    refine KS.out.mono ?_
    rintro e w1 ⟨rfl, n1, rfl⟩
    have HB1 := Lib.hid (below_refl_drewN w n1)
    have HT1 := Lib.hid (HT.out.below HB1.out)
    generalize w.drewN n1 = w1 at *
    go_wp2_with fail
    refine (HPL.out _ HB1.out).mono ?_
    rintro e w2 ⟨vm, vn, vp, T, bs, N, P, rfl, hPL, hFit, hbl, h12⟩
    have HB2 := Lib.hid (HB1.out.trans (hPL.2.2.2.2.1.mono HB1.out.size))
    have HT2 := Lib.hid (HT.out.below HB2.out)
    obtain ⟨M, Am, cm, An, cn, b, rfl, rfl, hM, q1, q2, q3, q4, q5⟩ := play_out hPL hFit hbl h12 HT2.out
    have Q1 := Lib.hid q1
    have Q2 := Lib.hid q2
    have Q5 := Lib.hid q5
    have Q6 := Lib.hid (fun i W hi (hW : Below w2.heap.size w2 W) => Has_codes _ _ W (q3 i W hi hW) (HT2.out.below hW) (q4 i hi) co)
    have Q7 := Lib.hid (fun i W hi (hW : Below w2.heap.size w2 W) => Of_codes _ _ W (q3 i W hi hW) (HT2.out.below hW) (q4 i hi) cl)
    clear q1 q2 q3 q4 q5 hPL hFit hbl h12
    go_wp2
    go_loopw [10, 11, 12, 13, 14] (fun i _ _ _ _ wr => ∃ k : Nat, k ≤ M ∧ i = .int .i64 k ∧ Hid (Below w2.heap.size w2 wr)) (fun i _ _ _ _ _ => M - (intOf i).toNat)
    case atStart => exact ⟨0, by omega, rfl, Below.refl _ _⟩
    case round =>
      obtain ⟨i, hi, rfl, HW⟩ := hrel
      by_cases hlt : i < M
      · have g1 : (i : Int) < (M : Int) := by omega
        go_wp2_with fail
        refine (Q5.out i _ hlt HW.out).mono ?_
        rintro e w3 ⟨v, rfl, ho, hb⟩
        obtain ⟨Av, cv, rfl, hv⟩ := own_lies ho
        have HV := Lib.hid hv
        have HW3 := Lib.hid (HW.out.trans (hb.mono HW.out.size))
        have H1 := Lib.hid (fun W hW => Q6.out i W hlt hW)
        have H2 := Lib.hid (fun W hW => Q7.out i W hlt hW)
        have HLEN := Lib.hid (Q1.out i hlt)
        clear ho hb hv
        generalize codesF (T.getD i tD) = cs at *
        obtain ⟨ad0, rfl, hcell0⟩ := Q2.out i hlt
        have HCE := Lib.hid hcell0
        clear hcell0
        generalize b i = bi at *
        go_wp2
        go_loopw [12, 13, 14] (fun ha of k wr2 => ∃ j : Nat, j ≤ cs.length ∧ k = .int .i64 j ∧ ha = .bool ((cs.take j).any (fits (.code co))) ∧ of = .bool ((cs.take j).any (fits (.cls cl))) ∧ Hid (Below w3.heap.size w3 wr2)) (fun _ _ k _ => cs.length - (intOf k).toNat)
        case atStart => exact ⟨0, by omega, rfl, rfl, rfl, Below.refl _ _⟩
        case round =>
          obtain ⟨j, hj, rfl, rfl, rfl, HI⟩ := hrel
          by_cases hlt2 : j < cs.length
          · have g2 : (j : Int) < (cs.length : Int) := by omega
            obtain ⟨ad, rfl, had, hc0⟩ := (HV.out.below HI.out) (by omega)
            have c0 := hc0 j hlt2
            have e1 := Lib.hid (any_snoc (fits (.code co)) cs 0 hlt2)
            have e2 := Lib.hid (any_snoc (fits (.cls cl)) cs 0 hlt2)
            have HCJ : Hid (∀ W, Below wr.heap.size wr W → W.cell? (ad.add j) = some (.int .i64 (cs.getD j 0))) := fun W hW => (hW.cell (by rw [add_block]; have := HI.out.size; omega)).trans c0
            clear hc0
            generalize cs.getD j 0 = y at *
            generalize (cs.take j).any (fits (.code co)) = X1 at *
            generalize (cs.take j).any (fits (.cls cl)) = X2 at *
            have HBR := Lib.hid (Below.refl wr.heap.size wr)
            have hlen3 : (cs.length : Int) ≤ 100001 := by have := HLEN.out; omega
            have hb0 := HI.out
            cases X2 with
            | true =>
              cases X1
              all_goals
                go_wp2
                refine ⟨⟨j + 1, by omega, by go_num, by rw [e1.out]; rfl, by rw [e2.out]; rfl, hb0⟩, ?_⟩
                first | (simp [intOf]; done) | (simp [intOf]; omega)
            | false =>
              cases X1
              all_goals
                go_wp2_with fail
                refine (ref_class y _).mono ?_
                rintro e w4 ⟨rfl, hb4⟩
                have HB4 := Lib.hid (hb0.trans (hb4.mono hb0.size))
                clear hb4
                go_wp2
                refine ⟨⟨j + 1, by omega, by go_num, by rw [e1.out]; rfl, by rw [e2.out]; rfl, HB4.out⟩, ?_⟩
                first | (simp [intOf]; done) | (simp [intOf]; omega)
          · have : j = cs.length := by omega
            subst this
            rw [List.take_length]
            have HI2 := Lib.hid (HW3.out.trans (HI.out.mono HW3.out.size))
            have H1' := Lib.hid (H1.out _ HI2.out)
            generalize cs.any (fits (.code co)) = Y1 at *
            generalize cs.any (fits (.cls cl)) = Y2 at *
            have c1 := HCE.out _ HI2.out
            have f1 : (Y1 == Y1) = true := by simp
            have f2 : (Y2 == Y2) = true := by simp
            go_wp2_with fail
            refine H1'.out.mono ?_
            rintro e w5 ⟨rfl, hb5⟩
            have HI5 := Lib.hid (HI2.out.trans (hb5.mono HI2.out.size))
            have c1 := HCE.out _ HI5.out
            have H2' := Lib.hid (H2.out _ HI5.out)
            clear hb5
            go_wp2_with fail
            refine H2'.out.mono ?_
            rintro e w6 ⟨rfl, hb6⟩
            have HI6 := Lib.hid (HI5.out.trans (hb6.mono HI5.out.size))
            clear hb6
            go_wp2
            exact ⟨⟨i + 1, by omega, by go_num, HI6.out⟩, by first | (simp [intOf]; done) | (simp [intOf]; omega)⟩
      · have g1 : ¬ (i : Int) < (M : Int) := by omega
        have hb0 := HW.out
        go_wp2_with fail
        refine (fau_Has_nil co _).mono ?_
        rintro e w3 ⟨rfl, hb3⟩
        have HW3 := Lib.hid (HW.out.trans (hb3.mono HW.out.size))
        clear hb3 hb0
        go_wp2_with fail
        refine (fau_Of_nil cl _).mono ?_
        rintro e w4 ⟨rfl, hb4⟩
        have HW4 := Lib.hid (HW3.out.trans (hb4.mono HW3.out.size))
        clear hb4
        go_wp2_with fail
        refine (fau_class co _).mono ?_
        rintro e w5 ⟨rfl, rfl⟩
        go_wp2_with fail
        refine (ref_class co _).mono ?_
        rintro e w6 ⟨rfl, hb6⟩
        have HW6 := Lib.hid (HW4.out.trans (hb6.mono HW4.out.size))
        have HT6 := Lib.hid (HT2.out.below HW6.out)
        clear hb6
        have e9 : (clN co == clN co) = true := by simp
        go_wp2_with fail
        refine (lives4 _ HT6.out).mono ?_
        rintro e w7 ⟨rfl, hb7⟩
        have HW7 := Lib.hid (HW6.out.trans (hb7.mono HW6.out.size))
        clear hb7
        go_wp2
        go_ret
        exact ⟨rfl, HB2.out.trans (HW7.out.mono HB2.out.size)⟩

set_option maxRecDepth 100000 in
theorem lifted (os : Os) (started : os.Started) (H : Type) (enc : TypeId × Value → H) :
    ReturnsInHanded {} Tryd.checked os 4 .any (fun w args => (Rows.faultHasSpec.pre enc Tryd.prog Tryd.f4 [] false w args ∧ laidMetH Tryd.prog lst4 w) ∧ sizedMet enc Tryd.prog Tryd.f4 (OpenSpec.ofChange Rows.faultHasSpec) false w args) (Rows.faultHasSpec.post enc Tryd.prog Tryd.f4 false true false false) := by
  refine returnsInHanded_of_change_and (C := Tryd.checked) (X := fun w _ => laidMetH Tryd.prog lst4 w) (fun _ _ _ hh h => h.of_heap hh) own started (by kernel_rfl) Tryd.func4
    (ChangeSpec.witness_shaped (enc := enc) (C := Tryd.checked) (os := os) (X := fun w _ => laidMetH Tryd.prog lst4 w) false (World.doorLaid Tryd.prog 400 os) #[.slice none 0 0, .int .i64 0, .int .i64 0] 8 rfl (World.shaped_of_RefB (by kernel_rfl) (by kernel_rfl)) (by kernel_rfl) (by kernel_rfl) (by kernel_rfl) (door_met4 os _)) ?_
  intro W base args ds gs before hval0 hW _ _ hL _
  have hT := tab_of4 hL
  have hval : ∀ (j : Nat) t v, Tryd.f4.params[j]? = some t → args[j]? = some v → Value.okWide Tryd.prog W .any base t v := hval0
  have hW' := hW
  obtain ⟨p, q, hA0, hV, rfl, hfz, hnd⟩ := hW
  obtain ⟨rfl, rfl⟩ := trodVars_none hV
  have hA : DataW.TrodAll enc Tryd.prog W 0 (fun _ => true) true Tryd.f4.params.toList args.toList ds p := hA0
  rw [Tryd.params4] at hA hval
  obtain ⟨v0, vs0, d0, ds0, p0, q0, hargs, rfl, rfl, h0, r0⟩ := trodAll_cons hA
  obtain ⟨v1, vs1, d1, ds1, p1, q1, rfl, rfl, rfl, h1, r1⟩ := trodAll_cons r0
  obtain ⟨v2, vs2, d2, ds2, p2, q2, rfl, rfl, rfl, h2, r2⟩ := trodAll_cons r1
  obtain ⟨rfl, rfl, rfl⟩ := trodAll_nil r2
  obtain rfl : args = #[v0, v1, v2] := by cases args; simp_all
  obtain ⟨A0, l0, c0, rfl, L0, I0, M0⟩ := open_acts Tryd.underlying22 Tryd.underlying55 (by kernel_rfl) rfl (by kernel_rfl) (by kernel_rfl) (hval 0 22 v0 rfl rfl) h0
  obtain ⟨a1, rfl, _, _, w1⟩ := open_int Tryd.underlying3 (hval 1 3 v1 rfl rfl) h1
  obtain ⟨a2, rfl, _, _, w2⟩ := open_int Tryd.underlying3 (hval 2 3 v2 rfl rfl) h2
  refine (walk A0 l0 c0 L0 I0 M0 a1 (i64_of_wf w1) a2 (i64_of_wf w2) W hT).mono fun e W' ⟨he, hg⟩ => ?_
  subst he
  exact ⟨_, rfl, law_post laid (by rw [Tryd.params4]; exact (by decide +kernel)) rfl (by kernel_rfl) Tryd.underlying4 rfl hW' hg⟩

theorem over : Rows.faultHasRow.holds Tryd.pinned (OpenSpec.ofChange Rows.faultHasSpec) :=
  OpenClaim.holds_of_wide 4 Tryd.f4 rfl rfl rfl rfl rfl rfl rfl ⟨rfl, rfl, rfl, rfl, rfl⟩ rfl rfl rfl rfl rfl (by kernel_rfl) Tryd.func4 (by kernel_rfl)
    (of_decide_eq_true (by kernel_rfl)) (by unfold Func.isWrapper; first | (rw [if_pos (by decide +kernel)]; kernel_rfl) | (rw [if_neg (by decide +kernel)]; exact ⟨rfl, rfl⟩))
    (fun os started H enc _ => lifted os started H enc)
theorem proved : Rows.FaultHasCardSaid :=
  Claim7.holds_tied_plain_at .later [] [.data, .data, .data, .handle] true Rows.faultHasCard.stood.harness true
    over (fun _ h => by cases h) (by kernel_rfl) (fun _ h => by cases h) faultHas_row_tie rfl ⟨rfl, rfl⟩ (by kernel_rfl) rfl
    (fun f fn hf hfn => by
      obtain rfl : f = 4 := Option.some.inj ((show Tryd.prog.funcNamed Rows.faultHasRow.func = some 4 by kernel_rfl).symm.trans hf) |>.symm
      obtain rfl : fn = Tryd.f4 := (Option.some.inj (Tryd.func4.symm.trans hfn)).symm
      exact ⟨by kernel_rfl, fun j t ht => by
        rw [Tryd.params4] at ht
        have hm : t ∈ [22, 3, 3] := by simpa using Array.mem_of_getElem? ht
        have hall : ([22, 3, 3].all fun u => !Tryd.prog.wantsStandIn u) = true := by kernel_rfl
        exact (show Tryd.prog.wantsStandIn t = false by simpa using List.all_eq_true.1 hall t hm)⟩)
    (by kernel_rfl)
end Go.Proofs.YtdkplejhgkbndaaDoor.faultHas
