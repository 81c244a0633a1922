/- Statement RatioWholes: whatever the input is, the Go function returns true and each argument reads as it did. No condition. -/
import Derived.Test.YtbnpbflndnjmcaaDoorRows
import Derived.Test.YtbnpbflndnjmcaaDoorRatL
import Derived.Test.YtbnpbflndnjmcaaDoorRatF
import Derived.Test.YtbnpbflndnjmcaaDoorRatQ
import Derived.Test.YtbnpbflndnjmcaaDoorBase
import Derived.Test.YtbnpbflndnjmcaaDoorTie
import Derived.Test.YtbnpbflndnjmcaaDoorCards
import Derived.SevenTiedAt
import Derived.ProofKit
import Derived.OpenShut
namespace Go.Proofs.YtbnpbflndnjmcaaDoor.ratioWholes
open Go.ChangeShapes Go.WideShapes Go.ChangeAt Go.RowKit
set_option linter.unusedVariables false

theorem own : ownKnob Tryd.prog.godebug = none := by kernel_rfl
theorem laid : laidOutB Tryd.prog = true := by kernel_rfl

set_option maxHeartbeats 4000000 in
theorem walk (n : Int) (hn : I64 n) (a b : Int) (ha : I64 a) (hb : I64 b) (w : World) (hT : Tab w) :
    Calls Tryd.prog 5 #[.int .i64 n, .agg #[.int .i64 a, .int .i64 b]] w fun e w' => e = .returned (.bool true) ∧ Below w.heap.size w w' := by
  have A1 := Lib.hid (fun W => rat_floor a b ha hb W)
  have B1 := Lib.hid (fun W => ref3_floor a b ha hb W)
  have A2 := Lib.hid (fun W => rat_ceil a b ha hb W)
  have B2 := Lib.hid (fun W => ref3_ceil a b ha hb W)
  have A3 := Lib.hid (fun W => rat_part_of n a b hn ha hb W)
  have B3 := Lib.hid (fun W => ref3_pa n a b hn ha hb W)
  have hx := next_to a b
  unfold paV at A1 B1 A3 B3
  unfold ceV at A2 B2
  generalize paN 1 a b = m1 at *
  generalize paE 1 a b = e1 at *
  generalize ceN a b = m2 at *
  generalize wholeE a b = e2 at *
  generalize paN n a b = m3 at *
  generalize paE n a b = e3 at *
  have z1 : (m1 != m1) = false := by simp
  have z2 : (e1 != e1) = false := by simp
  have z3 : (m2 != m2) = false := by simp
  have z4 : (e2 != e2) = false := by simp
  have z5 : (m3 == m3) = true := by simp
  have z6 : (e3 == e3) = true := by simp
  have J0 := Lib.hid ((Keeps.start w).alloc #[.int .i64 a, .int .i64 b] 23)
  have T0 := Lib.hid (hT.alloc (.cells #[.int .i64 a, .int .i64 b] 23))
  clear hT
  have hy : (e1 == 0) = false ∨ ((e1 == 0) = true ∧ m1 ≤ m2 ∧ m2 ≤ m1 + 1 ∧ -1073741824 ≤ m1 ∧ m1 ≤ 1073741824) := by
    rcases hx with h | ⟨h, hh⟩
    · exact .inl (by simpa using h)
    · exact .inr ⟨by simpa using h, hh⟩
  clear hx
  rcases hy with h | ⟨h, hm1, hm2, hm3, hm4⟩
  all_goals
    go_enter Tryd.func5, Tryd.ntmps5
    go_wp2_with fail
    refine (A1.out _).mono ?_
    rintro e w1 ⟨rfl, bb⟩
    have J := Lib.hid (J0.out.below bb)
    have T := Lib.hid (T0.out.below bb)
    obtain ⟨x0, x1, _, _⟩ := J.out.head.two
    clear bb
    go_wp2_with fail
    refine (B1.out _).mono ?_
    rintro e w2 ⟨rfl, bb⟩
    have J := Lib.hid (J.out.below bb)
    have T := Lib.hid (T.out.below bb)
    clear bb x0 x1
    go_wp2_with fail
    refine (lives3 _ T.out).mono ?_
    rintro e w3 ⟨rfl, bb⟩
    have J := Lib.hid (J.out.below bb)
    obtain ⟨x0, x1, _, _⟩ := J.out.head.two
    clear bb T
    go_wp2_with fail
    refine (A2.out _).mono ?_
    rintro e w4 ⟨rfl, bb⟩
    have J := Lib.hid (J.out.below bb)
    obtain ⟨x0, x1, _, _⟩ := J.out.head.two
    clear bb
    go_wp2_with fail
    refine (B2.out _).mono ?_
    rintro e w5 ⟨rfl, bb⟩
    have J := Lib.hid (J.out.below bb)
    obtain ⟨x0, x1, _, _⟩ := J.out.head.two
    clear bb
    go_wp2_with fail
    refine (A3.out _).mono ?_
    rintro e w6 ⟨rfl, bb⟩
    have J := Lib.hid (J.out.below bb)
    obtain ⟨x0, x1, _, _⟩ := J.out.head.two
    clear bb
    go_wp2_with fail
    refine (B3.out _).mono ?_
    rintro e w7 ⟨rfl, bb⟩
    go_wp2
    go_ret
    exact ⟨rfl, (J.out.below bb).2.1⟩

set_option maxRecDepth 100000 in
theorem lifted (os : Os) (started : os.Started) (H : Type) (enc : TypeId × Value → H) :
    ReturnsInHanded {} Tryd.checked os 5 .any (fun w args => (Rows.ratioWholesSpec.pre enc Tryd.prog Tryd.f5 [] false w args ∧ laidMetH Tryd.prog lst w) ∧ sizedMet enc Tryd.prog Tryd.f5 (OpenSpec.ofChange Rows.ratioWholesSpec) false w args) (Rows.ratioWholesSpec.post enc Tryd.prog Tryd.f5 false true false false) := by
  refine returnsInHanded_of_change_and (C := Tryd.checked) (X := fun w _ => laidMetH Tryd.prog lst w) (fun _ _ _ hh h => h.of_heap hh) own started (by kernel_rfl) Tryd.func5
    (ChangeSpec.witness_shaped (enc := enc) (C := Tryd.checked) (os := os) (X := fun w _ => laidMetH Tryd.prog lst w) false (World.doorLaid Tryd.prog 400 os) #[.int .i64 0, .agg #[.int .i64 0, .int .i64 0]] 8 rfl (World.shaped_of_RefB (by kernel_rfl) (by kernel_rfl)) (by kernel_rfl) (by kernel_rfl) (by kernel_rfl) (door_met os _)) ?_
  intro W base args ds gs before hval0 hW _ _ hL _
  have hT := tab_of hL
  have hval : ∀ (j : Nat) t v, Tryd.f5.params[j]? = some t → args[j]? = some v → Value.okWide Tryd.prog W .any base t v := hval0
  have hW' := hW
  obtain ⟨p, q, hA0, hV, rfl, hfz, hnd⟩ := hW
  obtain ⟨rfl, rfl⟩ := trodVars_none hV
  have hA : DataW.TrodAll enc Tryd.prog W 0 (fun _ => true) true Tryd.f5.params.toList args.toList ds p := hA0
  rw [Tryd.params5] at hA hval
  obtain ⟨v0, vs0, d0, ds0, p0, q0, hargs, rfl, rfl, h0, r0⟩ := trodAll_cons hA
  obtain ⟨v1, vs1, d1, ds1, p1, q1, rfl, rfl, rfl, h1, r1⟩ := trodAll_cons r0
  obtain ⟨rfl, rfl, rfl⟩ := trodAll_nil r1
  obtain rfl : args = #[v0, v1] := by cases args; simp_all
  obtain ⟨a0, rfl, _, _, w0⟩ := open_int Tryd.underlying3 (hval 0 3 v0 rfl rfl) h0
  obtain ⟨a1, b1, rfl, w1, z1⟩ := open_two Tryd.underlying23 Tryd.underlying3 Tryd.underlying3 (by kernel_rfl) (by kernel_rfl) (hval 1 23 v1 rfl rfl) h1
  refine (walk a0 (i64_of_wf w0) a1 b1 (i64_of_wf w1) (i64_of_wf z1) W hT).mono fun e W' ⟨he, hg⟩ => ?_
  subst he
  exact ⟨_, rfl, law_post laid (by rw [Tryd.params5]; exact (by decide +kernel)) rfl (by kernel_rfl) Tryd.underlying4 rfl hW' hg⟩

theorem over : Rows.ratioWholesRow.holds Tryd.pinned (OpenSpec.ofChange Rows.ratioWholesSpec) :=
  OpenClaim.holds_of_wide 5 Tryd.f5 rfl rfl rfl rfl rfl rfl rfl ⟨rfl, rfl, rfl, rfl, rfl⟩ rfl rfl rfl rfl rfl (by kernel_rfl) Tryd.func5 (by kernel_rfl)
    (of_decide_eq_true (by kernel_rfl)) (by unfold Func.isWrapper; first | (rw [if_pos (by decide +kernel)]; kernel_rfl) | (rw [if_neg (by decide +kernel)]; exact ⟨rfl, rfl⟩))
    (fun os started H enc _ => lifted os started H enc)
theorem proved : Rows.RatioWholesCardSaid :=
  Claim7.holds_tied_plain_at .later [] [.data, .data, .data] true Rows.ratioWholesCard.stood.harness false
    over (fun _ h => by cases h) (by kernel_rfl) (fun _ h => by cases h) ratioWholes_row_tie rfl ⟨rfl, rfl⟩ (by kernel_rfl) rfl
    (fun f fn hf hfn => by
      obtain rfl : f = 5 := Option.some.inj ((show Tryd.prog.funcNamed Rows.ratioWholesRow.func = some 5 by kernel_rfl).symm.trans hf) |>.symm
      obtain rfl : fn = Tryd.f5 := (Option.some.inj (Tryd.func5.symm.trans hfn)).symm
      exact ⟨by kernel_rfl, fun j t ht => by
        rw [Tryd.params5] at ht
        have hm : t ∈ [3, 23] := by simpa using Array.mem_of_getElem? ht
        have hall : ([3, 23].all fun u => !Tryd.prog.wantsStandIn u) = true := by kernel_rfl
        exact (show Tryd.prog.wantsStandIn t = false by simpa using List.all_eq_true.1 hall t hm)⟩)
    (by kernel_rfl)
end Go.Proofs.YtbnpbflndnjmcaaDoor.ratioWholes
