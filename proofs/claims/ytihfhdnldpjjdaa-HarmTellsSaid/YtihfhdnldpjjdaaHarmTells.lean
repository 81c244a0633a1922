/- Statement HarmTells: whatever the input is, the Go function returns true and each argument reads as it did. No condition. -/
import Derived.Test.YtihfhdnldpjjdaaRows
import Derived.Test.YtihfhdnldpjjdaaHarmF
import Derived.Test.YtihfhdnldpjjdaaBase
import Derived.ProofKit
import Derived.OpenShut
namespace Go.Proofs.Ytihfhdnldpjjdaa.harmTells
open Go.ChangeShapes Go.WideShapes Go.ChangeAt Go.RowKit
set_option linter.unusedVariables false

theorem own : ownKnob Try.prog.godebug = none := by kernel_rfl
theorem laid : laidOutB Try.prog = true := by kernel_rfl

set_option maxHeartbeats 4000000 in
theorem walk (n : Int) (hn : I64 n) (w : World) :
    Calls Try.prog 3 #[.int .i64 n] w fun e w' => e = .returned (.bool true) ∧ Below w.heap.size w w' := by
  have K1 := Lib.hid (harm_Ends n)
  have K2 := Lib.hid (ref5_ends n)
  have K3 := Lib.hid (harm_low n)
  have K4 := Lib.hid (ref5_low n)
  have K5 := Lib.hid (harm_high n)
  have K6 := Lib.hid (ref5_high n)
  have K7 := Lib.hid (harm_norm n)
  have K8 := Lib.hid (ref5_norm n)
  have K9 := Lib.hid (harm_table n)
  have K10 := Lib.hid (ref5_table n)
  have hH := heldN_le n
  generalize heldN n = m at *
  generalize endLo m = x1 at *
  generalize endHi m = x2 at *
  generalize lowN m = x3 at *
  generalize highN m = x4 at *
  generalize normN m = x5 at *
  have hl : (tabL (m + 1)).length ≤ 1000 := by rw [tabL_len]; omega
  generalize tabL (m + 1) = l at *
  have KS := Lib.hid (fun A A2 c c2 W hA hA2 => ref_same1 A A2 l l c c2 W.heap.size W hA hA2 (by omega) (by omega))
  rw [decide_eq_true (p := l = l) rfl] at KS
  go_enter Try.func3, Try.ntmps3
  go_wp2_with fail
  refine (K1.out _).mono ?_
  rintro e w1 ⟨rfl, b1⟩
  go_wp2_with fail
  refine (K2.out _).mono ?_
  rintro e w2 ⟨rfl, m2, rfl⟩
  have c2 := below_drewH b1 m2
  go_wp2_with fail
  refine (K3.out _).mono ?_
  rintro e w3 ⟨rfl, b3⟩
  have c3 := c2.trans (b3.mono c2.size)
  go_wp2_with fail
  refine (K4.out _).mono ?_
  rintro e w4 ⟨rfl, m4, rfl⟩
  have c4 := below_drewH c3 m4
  go_wp2_with fail
  refine (K5.out _).mono ?_
  rintro e w5 ⟨rfl, b5⟩
  have c5 := c4.trans (b5.mono c4.size)
  go_wp2_with fail
  refine (K6.out _).mono ?_
  rintro e w6 ⟨rfl, m6, rfl⟩
  have c6 := below_drewH c5 m6
  go_wp2_with fail
  refine (K7.out _).mono ?_
  rintro e w7 ⟨rfl, b7⟩
  have c7 := c6.trans (b7.mono c6.size)
  go_wp2_with fail
  refine (K8.out _).mono ?_
  rintro e w8 ⟨rfl, m8, rfl⟩
  have c8 := below_drewH c7 m8
  go_wp2_with fail
  refine (K9.out _).mono ?_
  rintro e w9 ⟨A9, q9, rfl, L9, b9⟩
  have c9 := c8.trans (b9.mono c8.size)
  go_wp2_with fail
  refine (K10.out _).mono ?_
  rintro e w10 ⟨A10, q10, rfl, L10, b10⟩
  have c10 := c9.trans (b10.mono c9.size)
  have KS' := Lib.hid (KS.out A9 A10 q9 q10 w10 ((L9.below b10).mono b10.size) L10)
  generalize l.length = N at *
  go_wp2_with fail
  refine KS'.out.mono ?_
  rintro e w11 ⟨rfl, m11, rfl⟩
  have c11 := below_drewH c10 m11
  go_wp2_with fail
  refine (lives5 _).mono ?_
  rintro e w12 ⟨rfl, b12⟩
  go_wp2
  go_ret
  exact ⟨rfl, c11.trans (b12.mono c11.size)⟩

set_option maxRecDepth 100000 in
theorem lifted (os : Os) (started : os.Started) (H : Type) (enc : TypeId × Value → H) :
    ReturnsInHanded {} Try.checked os 3 .any (Rows.harmTellsSpec.pre6 enc Try.prog Try.f3 Rows.harmTellsRow.domain false) (Rows.harmTellsSpec.post enc Try.prog Try.f3 false true false false) := by
  refine returnsInHanded_of_change (C := Try.checked) own started (by kernel_rfl) Try.func3
    (ChangeSpec.witness6 (enc := enc) (C := Try.checked) false ⟨#[], #[.int .i64 0], []⟩ 8 (by kernel_rfl) (by kernel_rfl) (by kernel_rfl) (by kernel_rfl)) ?_
  intro W base args ds gs before hval0 hW hcnd _
  have hval : ∀ (j : Nat) t v, Try.f3.params[j]? = some t → args[j]? = some v → Value.okWide Try.prog W .any base t v := hval0
  have hW' := hW
  obtain ⟨p, q, hA0, hV, rfl, hfz, hnd⟩ := hW
  obtain ⟨rfl, rfl⟩ := trodVars_none hV
  have hA : DataW.TrodAll enc Try.prog W 0 (fun _ => true) true Try.f3.params.toList args.toList ds p := hA0
  rw [Try.params3] at hA hval
  obtain ⟨v0, vs0, d0, ds0, p0, q0, hargs, rfl, rfl, h0, r0⟩ := trodAll_cons hA
  obtain ⟨rfl, rfl, rfl⟩ := trodAll_nil r0
  obtain rfl : args = #[v0] := by cases args; simp_all
  obtain ⟨a0, rfl, _, _, w0⟩ := open_int Try.underlying3 (hval 0 3 v0 rfl rfl) h0
  refine (walk a0 (i64_of_wf w0) W).mono fun e W' ⟨he, hg⟩ => ?_
  subst he
  exact ⟨_, rfl, law_post laid (by rw [Try.params3]; exact (by decide +kernel)) rfl (by kernel_rfl) Try.underlying4 rfl hW' hg⟩

theorem over : Rows.harmTellsRow.holds Try.pinned (OpenSpec.ofChange Rows.harmTellsSpec) :=
  OpenClaim.holds_of_wide 3 Try.f3 rfl rfl rfl rfl rfl rfl rfl ⟨rfl, rfl, rfl, rfl, rfl⟩ rfl rfl rfl rfl rfl (by kernel_rfl) Try.func3 (by kernel_rfl)
    (of_decide_eq_true (by kernel_rfl)) (by unfold Func.isWrapper; first | (rw [if_pos (by decide +kernel)]; kernel_rfl) | (rw [if_neg (by decide +kernel)]; exact ⟨rfl, rfl⟩))
    (fun os started H enc _ => lifted os started H enc)
theorem proved : Rows.HarmTellsSaid := over
end Go.Proofs.Ytihfhdnldpjjdaa.harmTells
