/- Statement ScoreOrders: whatever the input is, the Go function returns true and each argument reads as it did. No condition. -/
import Derived.Test.YtiepfkhbebdkeaaDoorRows
import Derived.Test.YtiepfkhbebdkeaaDoorScoF
import Derived.Test.YtiepfkhbebdkeaaDoorScoH1
import Derived.Test.YtiepfkhbebdkeaaDoorScoH2
import Derived.Test.YtiepfkhbebdkeaaDoorScoH3
import Derived.Test.YtiepfkhbebdkeaaDoorScoH4
import Derived.Test.YtiepfkhbebdkeaaDoorScoH5
import Derived.Test.YtiepfkhbebdkeaaDoorBase
import Derived.Test.YtiepfkhbebdkeaaDoorTie
import Derived.Test.YtiepfkhbebdkeaaDoorCards
import Derived.SevenTiedAt
import Derived.ProofKit
import Derived.OpenShut
namespace Go.Proofs.YtiepfkhbebdkeaaDoor.scoreOrders
open Go.ChangeShapes Go.WideShapes Go.ChangeAt Go.RowKit
set_option linter.unusedVariables false
set_option maxRecDepth 100000

theorem own : ownKnob Tryd.prog.godebug = none := by kernel_rfl
theorem laid : laidOutB Tryd.prog = true := by kernel_rfl

theorem walk (p q : Int) (hp : I64 p) (hq : I64 q) (r s : Int) (hr : I64 r) (hs : I64 s) (t u : Int) (ht : I64 t) (hu : I64 u) (w : World) (hT : Tab w ∧ Ers w) :
    Calls Tryd.prog 4 #[.agg #[.int .i64 p, .int .i64 q], .agg #[.int .i64 r, .int .i64 s], .agg #[.int .i64 t, .int .i64 u]] w fun e w' => e = .returned (.bool true) ∧ Below w.heap.size w w' := by
  by_cases h1 : ScoOk p q
  · by_cases h2 : ScoOk r s
    · have hz := oddC_zero h1 h2
      by_cases hn : p = r
      · by_cases hn2 : q = s
        · exact ord_same p q hp hq r s hr hs t u ht hu w hT h1 h2 (hz.2 ⟨hn, hn2⟩) hn hn2
        · rcases oddC_cases p q r s with ⟨_, e⟩ | ⟨_, e⟩ | ⟨_, e⟩
          · exact ord_less_q p q hp hq r s hr hs t u ht hu w hT h1 h2 e hn hn2
          · exact absurd (hz.1 e).2 hn2
          · exact ord_more_q p q hp hq r s hr hs t u ht hu w hT h1 h2 e hn hn2
      · rcases oddC_cases p q r s with ⟨_, e⟩ | ⟨_, e⟩ | ⟨_, e⟩
        · exact ord_less_p p q hp hq r s hr hs t u ht hu w hT h1 h2 e hn
        · exact absurd (hz.1 e).1 hn
        · exact ord_more_p p q hp hq r s hr hs t u ht hu w hT h1 h2 e hn
    · exact ord_no_b p q hp hq r s hr hs t u ht hu w hT h1 h2
  · exact ord_no_a p q hp hq r s hr hs t u ht hu w hT h1

set_option maxRecDepth 100000 in
theorem lifted (os : Os) (started : os.Started) (H : Type) (enc : TypeId × Value → H) :
    ReturnsInHanded {} Tryd.checked os 4 .any (fun w args => (Rows.scoreOrdersSpec.pre enc Tryd.prog Tryd.f4 [] false w args ∧ laidMetH Tryd.prog lst13 w) ∧ sizedMet enc Tryd.prog Tryd.f4 (OpenSpec.ofChange Rows.scoreOrdersSpec) false w args) (Rows.scoreOrdersSpec.post enc Tryd.prog Tryd.f4 false true false false) := by
  refine returnsInHanded_of_change_and (C := Tryd.checked) (X := fun w _ => laidMetH Tryd.prog lst13 w) (fun _ _ _ hh h => h.of_heap hh) own started (by kernel_rfl) Tryd.func4
    (ChangeSpec.witness_shaped (enc := enc) (C := Tryd.checked) (os := os) (X := fun w _ => laidMetH Tryd.prog lst13 w) false (World.doorLaid Tryd.prog 400 os) #[.agg #[.int .i64 0, .int .i64 0], .agg #[.int .i64 0, .int .i64 0], .agg #[.int .i64 0, .int .i64 0]] 8 rfl (World.shaped_of_RefB (by kernel_rfl) (by kernel_rfl)) (by kernel_rfl) (by kernel_rfl) (by kernel_rfl) (door_met13 os _)) ?_
  intro W base args ds gs before hval0 hW _ _ hL _
  have hT := tab_of13 hL
  have hval : ∀ (j : Nat) t v, Tryd.f4.params[j]? = some t → args[j]? = some v → Value.okWide Tryd.prog W .any base t v := hval0
  have hW' := hW
  obtain ⟨p, q, hA0, hV, rfl, hfz, hnd⟩ := hW
  obtain ⟨rfl, rfl⟩ := trodVars_none hV
  have hA : DataW.TrodAll enc Tryd.prog W 0 (fun _ => true) true Tryd.f4.params.toList args.toList ds p := hA0
  rw [Tryd.params4] at hA hval
  obtain ⟨v0, vs0, d0, ds0, p0, q0, hargs, rfl, rfl, h0, r0⟩ := trodAll_cons hA
  obtain ⟨v1, vs1, d1, ds1, p1, q1, rfl, rfl, rfl, h1, r1⟩ := trodAll_cons r0
  obtain ⟨v2, vs2, d2, ds2, p2, q2, rfl, rfl, rfl, h2, r2⟩ := trodAll_cons r1
  obtain ⟨rfl, rfl, rfl⟩ := trodAll_nil r2
  obtain rfl : args = #[v0, v1, v2] := by cases args; simp_all
  obtain ⟨a0, b0, rfl, w0, z0⟩ := open_two Tryd.underlying23 Tryd.underlying3 Tryd.underlying3 (by kernel_rfl) (by kernel_rfl) (hval 0 23 v0 rfl rfl) h0
  obtain ⟨a1, b1, rfl, w1, z1⟩ := open_two Tryd.underlying23 Tryd.underlying3 Tryd.underlying3 (by kernel_rfl) (by kernel_rfl) (hval 1 23 v1 rfl rfl) h1
  obtain ⟨a2, b2, rfl, w2, z2⟩ := open_two Tryd.underlying23 Tryd.underlying3 Tryd.underlying3 (by kernel_rfl) (by kernel_rfl) (hval 2 23 v2 rfl rfl) h2
  refine (walk a0 b0 (i64_of_wf w0) (i64_of_wf z0) a1 b1 (i64_of_wf w1) (i64_of_wf z1) a2 b2 (i64_of_wf w2) (i64_of_wf z2) W hT).mono fun e W' ⟨he, hg⟩ => ?_
  subst he
  exact ⟨_, rfl, law_post laid (by rw [Tryd.params4]; exact (by decide +kernel)) rfl (by kernel_rfl) Tryd.underlying4 rfl hW' hg⟩

theorem over : Rows.scoreOrdersRow.holds Tryd.pinned (OpenSpec.ofChange Rows.scoreOrdersSpec) :=
  OpenClaim.holds_of_wide 4 Tryd.f4 rfl rfl rfl rfl rfl rfl rfl ⟨rfl, rfl, rfl, rfl, rfl⟩ rfl rfl rfl rfl rfl (by kernel_rfl) Tryd.func4 (by kernel_rfl)
    (of_decide_eq_true (by kernel_rfl)) (by unfold Func.isWrapper; first | (rw [if_pos (by decide +kernel)]; kernel_rfl) | (rw [if_neg (by decide +kernel)]; exact ⟨rfl, rfl⟩))
    (fun os started H enc _ => lifted os started H enc)
theorem proved : Rows.ScoreOrdersCardSaid :=
  Claim7.holds_tied_plain_at .later [] [.data, .data, .data, .sentinel, .sentinel] true Rows.scoreOrdersCard.stood.harness true
    over (fun _ h => by cases h) (by kernel_rfl) (fun _ h => by cases h) scoreOrders_row_tie rfl ⟨rfl, rfl⟩ (by kernel_rfl) rfl
    (fun f fn hf hfn => by
      obtain rfl : f = 4 := Option.some.inj ((show Tryd.prog.funcNamed Rows.scoreOrdersRow.func = some 4 by kernel_rfl).symm.trans hf) |>.symm
      obtain rfl : fn = Tryd.f4 := (Option.some.inj (Tryd.func4.symm.trans hfn)).symm
      exact ⟨by kernel_rfl, fun j t ht => by
        rw [Tryd.params4] at ht
        have hm : t ∈ [23, 23, 23] := by simpa using Array.mem_of_getElem? ht
        have hall : ([23, 23, 23].all fun u => !Tryd.prog.wantsStandIn u) = true := by kernel_rfl
        exact (show Tryd.prog.wantsStandIn t = false by simpa using List.all_eq_true.1 hall t hm)⟩)
    (by kernel_rfl)
end Go.Proofs.YtiepfkhbebdkeaaDoor.scoreOrders
