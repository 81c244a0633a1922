/- Statement ScoreSorts: whatever the input is, the Go function returns true and each argument reads as it did. No condition. -/
import Derived.Test.YtiepfkhbebdkeaaDoorRows
import Derived.Test.YtiepfkhbebdkeaaDoorScoF
import Derived.Test.YtiepfkhbebdkeaaDoorBase
import Derived.Test.YtiepfkhbebdkeaaDoorTie
import Derived.Test.YtiepfkhbebdkeaaDoorCards
import Derived.SevenTiedAt
import Derived.ProofKit
import Derived.OpenShut
namespace Go.Proofs.YtiepfkhbebdkeaaDoor.scoreSorts
open Go.ChangeShapes Go.WideShapes Go.ChangeAt Go.RowKit
set_option linter.unusedVariables false
set_option maxRecDepth 100000

theorem own : ownKnob Tryd.prog.godebug = none := by kernel_rfl
theorem laid : laidOutB Tryd.prog = true := by kernel_rfl

set_option maxHeartbeats 2000000 in
theorem walk {w0 : World} (A : Option Addr) (l : List PQ) (c : Nat) (hL : LiesS w0 w0.heap.size A l) (hI : okS l) (hM : l.length ≤ 9223372036854775807) (hc : l.length ≤ c) (hz : A = none → c = 0) (_ : World) (hT : Tab w0 ∧ Ers w0) :
    Calls Tryd.prog 6 #[.slice A l.length c] w0 fun e w' => e = .returned (.bool true) ∧ Below w0.heap.size w0 w' := by
  obtain ⟨N, hN⟩ : ∃ N, l.length = N := ⟨_, rfl⟩
  rw [hN] at hM hc ⊢
  have T0 := Lib.hid hT.1
  have E0 := Lib.hid hT.2
  have J0 := Lib.hid (Keeps.start w0)
  have KL := Lib.hid (fun W hT hE => lives13 W hT hE)
  clear hT
  by_cases h80 : 80 < N
  · have h80i : (80 : Int) < (N : Int) := by omega
    clear hL hI hN
    go_enter Tryd.func6, Tryd.ntmps6
    go_wp2_with fail
    refine (KL.out _ T0.out E0.out).mono ?_
    rintro r w1 ⟨rfl, b⟩
    go_wp2
    go_ret
    exact ⟨rfl, b⟩
  have h80i : ¬ (80 : Int) < (N : Int) := by omega
  have HL0 := Lib.hid hL
  have K3 := Lib.hid (fun W h => sco_oddest A l N c W hN (by omega) h hI)
  have K4 := Lib.hid (fun W h => ref13_oddest A l N c W hN (by omega) h hI)
  unfold odV at K3 K4
  generalize odN l = oN at *
  generalize odE l = oE at *
  cases hall : allS l with
  | true =>
    have K1 := Lib.hid (fun W h => sco_sort_ok A l N c W hN (by omega) hc hz h hI hall)
    have K2 := Lib.hid (fun W h => ref13_sort_ok A l N c W hN (by omega) h hI hall)
    have HSM := Lib.hid (fun s t h g => IsSort.same (s := s) (t := t) (all_okP hall) h g)
    have HN := Lib.hid hN
    clear hL hI hN hz hall
    go_enter Tryd.func6, Tryd.ntmps6
    go_wp2_with fail
    refine (K1.out _ HL0.out).mono ?_
    rintro r w1 ⟨s, A1, c1, rfl, hL1, b, hs⟩
    have S1 := Lib.hid hs
    have L1 := Lib.hid hL1
    have J1 := Lib.hid (J0.out.below b)
    have T1 := Lib.hid (T0.out.below b)
    have E1 := Lib.hid (E0.out.below b)
    have HL1 := Lib.hid ((HL0.out.below b).mono b.size)
    clear b hL1 hs
    go_wp2_with fail
    refine (K2.out _ HL1.out).mono ?_
    rintro r w2 ⟨t, A2, c2, rfl, hL2, b, ht⟩
    have S2 := Lib.hid ht
    have L2 := Lib.hid hL2
    have L1 := Lib.hid ((L1.out.below b).mono b.size)
    have J2 := Lib.hid (J1.out.below b)
    have T2 := Lib.hid (T1.out.below b)
    have E2 := Lib.hid (E1.out.below b)
    have HL2 := Lib.hid ((HL1.out.below b).mono b.size)
    clear b hL2 ht
    go_wp2_with fail
    refine (K3.out _ HL2.out).mono ?_
    rintro r w3 ⟨rfl, b⟩
    have L1 := Lib.hid ((L1.out.below b).mono b.size)
    have L2 := Lib.hid ((L2.out.below b).mono b.size)
    have J3 := Lib.hid (J2.out.below b)
    have T3 := Lib.hid (T2.out.below b)
    have E3 := Lib.hid (E2.out.below b)
    have HL3 := Lib.hid ((HL2.out.below b).mono b.size)
    clear b
    go_wp2_with fail
    refine (K4.out _ HL3.out).mono ?_
    rintro r w4 ⟨rfl, b⟩
    have L1 := Lib.hid ((L1.out.below b).mono b.size)
    have L2 := Lib.hid ((L2.out.below b).mono b.size)
    have J4 := Lib.hid (J3.out.below b)
    have T4 := Lib.hid (T3.out.below b)
    have E4 := Lib.hid (E3.out.below b)
    clear b
    have KS : Hid (Calls Tryd.prog 22 #[.slice A1 N c1, .slice A2 N c2] w4 fun e w' => e = .returned (.bool true) ∧ ∃ n, w' = w4.drewN n) := by
      have h := ref13_same A1 A2 s t N N c1 c2 w4.heap.size w4.heap.size w4 (by rw [S1.out.len]; exact HN.out) (by rw [S2.out.len]; exact HN.out) L1.out L2.out (by omega) (by omega)
      rw [decide_eq_true (HSM.out s t S1.out S2.out)] at h
      exact h
    have hcA : l.length = N := HN.out
    go_wp2_with fail
    refine KS.out.mono ?_
    rintro r w5 ⟨rfl, hd⟩
    have hb5 : Below w4.heap.size w4 w5 := by
      obtain ⟨n, hn⟩ := hd
      rw [hn]
      exact below_drewN (Below.refl _ _) n
    have J5 := Lib.hid (J4.out.below hb5)
    have T5 := Lib.hid (T4.out.below hb5)
    have E5 := Lib.hid (E4.out.below hb5)
    clear hd hb5
    go_wp2_with fail
    refine (KL.out _ T5.out E5.out).mono ?_
    rintro r w6 ⟨rfl, b⟩
    go_wp2
    go_ret
    exact ⟨rfl, (J5.out.below b).2.1⟩
  | false =>
    have K1 := Lib.hid (fun W h => sco_sort_no A l N c W hN (by omega) h hI hall)
    have K2 := Lib.hid (fun W h => ref13_sort_no A l N c W hN (by omega) h hI hall)
    clear hL hI hN hz hall
    go_enter Tryd.func6, Tryd.ntmps6
    go_wp2_with fail
    refine (K1.out _ HL0.out).mono ?_
    rintro r w1 ⟨rfl, b⟩
    have J1 := Lib.hid (J0.out.below b)
    have T1 := Lib.hid (T0.out.below b)
    have E1 := Lib.hid (E0.out.below b)
    have HL1 := Lib.hid ((HL0.out.below b).mono b.size)
    clear b
    go_wp2_with fail
    refine (K2.out _ HL1.out).mono ?_
    rintro r w2 ⟨rfl, b⟩
    have J2 := Lib.hid (J1.out.below b)
    have T2 := Lib.hid (T1.out.below b)
    have E2 := Lib.hid (E1.out.below b)
    have HL2 := Lib.hid ((HL1.out.below b).mono b.size)
    clear b
    go_wp2_with fail
    refine (K3.out _ HL2.out).mono ?_
    rintro r w3 ⟨rfl, b⟩
    have J3 := Lib.hid (J2.out.below b)
    have T3 := Lib.hid (T2.out.below b)
    have E3 := Lib.hid (E2.out.below b)
    have HL3 := Lib.hid ((HL2.out.below b).mono b.size)
    clear b
    go_wp2_with fail
    refine (K4.out _ HL3.out).mono ?_
    rintro r w4 ⟨rfl, b⟩
    have J4 := Lib.hid (J3.out.below b)
    have T4 := Lib.hid (T3.out.below b)
    have E4 := Lib.hid (E3.out.below b)
    clear b
    have KS : Hid (Calls Tryd.prog 22 #[.slice none 0 0, .slice none 0 0] w4 fun e w' => e = .returned (.bool true) ∧ ∃ n, w' = w4.drewN n) := by
      have h := ref13_same none none [] [] 0 0 0 0 0 0 w4 rfl rfl LiesS.nil LiesS.nil (by omega) (by omega)
      exact h
    go_wp2_with fail
    refine KS.out.mono ?_
    rintro r w5 ⟨rfl, hd⟩
    have hb5 : Below w4.heap.size w4 w5 := by
      obtain ⟨n, hn⟩ := hd
      rw [hn]
      exact below_drewN (Below.refl _ _) n
    have J5 := Lib.hid (J4.out.below hb5)
    have T5 := Lib.hid (T4.out.below hb5)
    have E5 := Lib.hid (E4.out.below hb5)
    clear hd hb5
    go_wp2_with fail
    refine (KL.out _ T5.out E5.out).mono ?_
    rintro r w6 ⟨rfl, b⟩
    go_wp2
    go_ret
    exact ⟨rfl, (J5.out.below b).2.1⟩

set_option maxRecDepth 100000 in
theorem lifted (os : Os) (started : os.Started) (H : Type) (enc : TypeId × Value → H) :
    ReturnsInHanded {} Tryd.checked os 6 .any (fun w args => (Rows.scoreSortsSpec.pre enc Tryd.prog Tryd.f6 [] false w args ∧ laidMetH Tryd.prog lst13 w) ∧ sizedMet enc Tryd.prog Tryd.f6 (OpenSpec.ofChange Rows.scoreSortsSpec) false w args) (Rows.scoreSortsSpec.post enc Tryd.prog Tryd.f6 false true false false) := by
  refine returnsInHanded_of_change_and (C := Tryd.checked) (X := fun w _ => laidMetH Tryd.prog lst13 w) (fun _ _ _ hh h => h.of_heap hh) own started (by kernel_rfl) Tryd.func6
    (ChangeSpec.witness_shaped (enc := enc) (C := Tryd.checked) (os := os) (X := fun w _ => laidMetH Tryd.prog lst13 w) false (World.doorLaid Tryd.prog 400 os) #[.slice none 0 0] 8 rfl (World.shaped_of_RefB (by kernel_rfl) (by kernel_rfl)) (by kernel_rfl) (by kernel_rfl) (by kernel_rfl) (door_met13 os _)) ?_
  intro W base args ds gs before hval0 hW _ _ hL _
  have hT := tab_of13 hL
  have hval : ∀ (j : Nat) t v, Tryd.f6.params[j]? = some t → args[j]? = some v → Value.okWide Tryd.prog W .any base t v := hval0
  have hW' := hW
  obtain ⟨p, q, hA0, hV, rfl, hfz, hnd⟩ := hW
  obtain ⟨rfl, rfl⟩ := trodVars_none hV
  have hA : DataW.TrodAll enc Tryd.prog W 0 (fun _ => true) true Tryd.f6.params.toList args.toList ds p := hA0
  rw [Tryd.params6] at hA hval
  obtain ⟨v0, vs0, d0, ds0, p0, q0, hargs, rfl, rfl, h0, r0⟩ := trodAll_cons hA
  obtain ⟨rfl, rfl, rfl⟩ := trodAll_nil r0
  obtain rfl : args = #[v0] := by cases args; simp_all
  obtain ⟨A0, l0, c0, rfl, L0, I0, M0, N0, Z0⟩ := open_scores Tryd.underlying37 Tryd.underlying23 (by kernel_rfl) (by kernel_rfl) (by kernel_rfl) (by kernel_rfl) (hval 0 37 v0 rfl rfl) h0
  refine (walk A0 l0 c0 L0 I0 M0 N0 Z0 W hT).mono fun e W' ⟨he, hg⟩ => ?_
  subst he
  exact ⟨_, rfl, law_post laid (by rw [Tryd.params6]; exact (by decide +kernel)) rfl (by kernel_rfl) Tryd.underlying4 rfl hW' hg⟩

theorem over : Rows.scoreSortsRow.holds Tryd.pinned (OpenSpec.ofChange Rows.scoreSortsSpec) :=
  OpenClaim.holds_of_wide 6 Tryd.f6 rfl rfl rfl rfl rfl rfl rfl ⟨rfl, rfl, rfl, rfl, rfl⟩ rfl rfl rfl rfl rfl (by kernel_rfl) Tryd.func6 (by kernel_rfl)
    (of_decide_eq_true (by kernel_rfl)) (by unfold Func.isWrapper; first | (rw [if_pos (by decide +kernel)]; kernel_rfl) | (rw [if_neg (by decide +kernel)]; exact ⟨rfl, rfl⟩))
    (fun os started H enc _ => lifted os started H enc)
theorem proved : Rows.ScoreSortsCardSaid :=
  Claim7.holds_tied_plain_at .later [] [.data, .data, .data, .sentinel, .sentinel] true Rows.scoreSortsCard.stood.harness true
    over (fun _ h => by cases h) (by kernel_rfl) (fun _ h => by cases h) scoreSorts_row_tie rfl ⟨rfl, rfl⟩ (by kernel_rfl) rfl
    (fun f fn hf hfn => by
      obtain rfl : f = 6 := Option.some.inj ((show Tryd.prog.funcNamed Rows.scoreSortsRow.func = some 6 by kernel_rfl).symm.trans hf) |>.symm
      obtain rfl : fn = Tryd.f6 := (Option.some.inj (Tryd.func6.symm.trans hfn)).symm
      exact ⟨by kernel_rfl, fun j t ht => by
        rw [Tryd.params6] at ht
        have hm : t ∈ [37] := by simpa using Array.mem_of_getElem? ht
        have hall : ([37].all fun u => !Tryd.prog.wantsStandIn u) = true := by kernel_rfl
        exact (show Tryd.prog.wantsStandIn t = false by simpa using List.all_eq_true.1 hall t hm)⟩)
    (by kernel_rfl)
end Go.Proofs.YtiepfkhbebdkeaaDoor.scoreSorts
