/- Statement NumDivides: whatever the input is, the Go function returns true and each argument reads as it did. No condition. -/
import Derived.Test.YtajcfknblafkdaaRows
import Derived.Test.YtajcfknblafkdaaNumV
import Derived.Test.YtajcfknblafkdaaBigD
import Derived.Test.YtajcfknblafkdaaPost
import Derived.ProofKit
import Derived.OpenShut
namespace Go.Proofs.Ytajcfknblafkdaa.numDivides
open Go.ChangeShapes Go.WideShapes Go.ChangeAt Go.RowKit
set_option linter.unusedVariables false

theorem own : ownKnob Try.prog.godebug = none := by kernel_rfl

/-- both divide alike -/
theorem div_is (a b q r e : Int) (ha : I64 a) (hb : I64 b) (h : divV a b = .tuple #[.int .i64 q, .int .i64 r, .int .i64 e]) :
    (∀ w, Calls Try.prog 24 #[.int .i64 a, .int .i64 b] w fun x w' => x = .returned (.tuple #[.int .i64 q, .int .i64 r, .int .i64 e]) ∧ ∃ n, w' = w.drewN n) ∧
    (∀ w, Calls Try.prog 25 #[.int .i64 a, .int .i64 b] w fun x w' => x = .returned (.tuple #[.int .i64 q, .int .i64 r, .int .i64 e]) ∧ Below w.heap.size w w') :=
  ⟨fun w => (num_div a b ha hb w).mono fun _ _ ⟨h1, h2⟩ => ⟨by rw [h1, h], h2⟩, fun w => (ref_div a b ha hb w).mono fun _ _ ⟨h1, h2⟩ => ⟨by rw [h1, h], h2⟩⟩
theorem below_q {w w1 w2 : World} (q : Nat) (b1 : Below (w.drewN q).heap.size (w.drewN q) w1) (b2 : Below w1.heap.size w1 w2) : Below w.heap.size w w2 := by
  have c1 : Below w.heap.size w w1 := ⟨b1.os, b1.tape, b1.output, b1.size, b1.block⟩
  exact c1.trans (b2.mono c1.size)
theorem end_bad (a b e : Int) (he : e = 10 ∨ e = 11) (hz : b = 0 ∨ b = -1) (h1 : ∀ w, Calls Try.prog 24 #[.int .i64 a, .int .i64 b] w fun x w' => x = .returned (.tuple #[.int .i64 0, .int .i64 0, .int .i64 e]) ∧ ∃ n, w' = w.drewN n)
    (h2 : ∀ w, Calls Try.prog 25 #[.int .i64 a, .int .i64 b] w fun x w' => x = .returned (.tuple #[.int .i64 0, .int .i64 0, .int .i64 e]) ∧ Below w.heap.size w w') (w : World) :
    Calls Try.prog 4 #[.int .i64 a, .int .i64 b] w fun e w' => e = .returned (.bool true) ∧ Below w.heap.size w w' := by
  have H1 := Lib.hid h1
  have H2 := Lib.hid h2
  clear h1 h2
  rcases he with rfl | rfl <;> rcases hz with rfl | rfl
  all_goals
    go_enter Try.func4, Try.ntmps4
    go_wp2_with fail
    refine (H1.out _).mono ?_
    rintro e w' ⟨rfl, qq, rfl⟩
    go_wp2_with fail
    refine (H2.out _).mono ?_
    rintro e w1 ⟨rfl, b1⟩
    go_wp2_with fail
    refine (lives1 _).mono ?_
    rintro e w2 ⟨rfl, b2⟩
    go_wp2
    go_ret
    exact ⟨rfl, below_q qq b1 b2⟩
set_option maxHeartbeats 2000000 in
theorem end_ok (a b q r : Int) (ha : I64 a) (hb : I64 b) (hq : I64 q) (hr0 : 0 ≤ r) (hb0 : b ≠ 0) (hrb : (0 < b ∧ r < b) ∨ (b < 0 ∧ b < -r)) (hm : q * b + r = a) (h1 : ∀ w, Calls Try.prog 24 #[.int .i64 a, .int .i64 b] w fun x w' => x = .returned (.tuple #[.int .i64 q, .int .i64 r, .int .i64 0]) ∧ ∃ n, w' = w.drewN n)
    (h2 : ∀ w, Calls Try.prog 25 #[.int .i64 a, .int .i64 b] w fun x w' => x = .returned (.tuple #[.int .i64 q, .int .i64 r, .int .i64 0]) ∧ Below w.heap.size w w') (w : World) :
    Calls Try.prog 4 #[.int .i64 a, .int .i64 b] w fun e w' => e = .returned (.bool true) ∧ Below w.heap.size w w' := by
  have H1 := Lib.hid h1
  have H2 := Lib.hid h2
  have HM := Lib.hid hm
  have hbb := id hb
  have haa := id ha
  unfold I64 at hbb haa
  have hrm : r ≤ 9223372036854775807 := by omega
  have hnr : -9223372036854775808 ≤ -r := by omega
  clear h1 h2 hm
  by_cases hf : I64 (q * b)
  · have e1 : Hid (fitN (q * b) = q * b) := by show _ = _; unfold fitN I64 at *; rw [if_pos hf]
    have e2 : Hid (fitE (q * b) = 0) := by show _ = _; unfold fitE I64 at *; rw [if_pos hf]
    have H3 := Lib.hid (fun W => (num_mul q b hq hb W).mono (R' := fun e w' => e = .returned (.tuple #[.int .i64 (q * b), .int .i64 0]) ∧ Below W.heap.size W w') fun _ _ ⟨he, hw⟩ => ⟨by rw [he]; exact ret2i e1.out e2.out, hw⟩)
    rcases hrb with ⟨p1, p2⟩ | ⟨p1, p2⟩
    all_goals
      go_enter Try.func4, Try.ntmps4
      go_wp2_with fail
      refine (H1.out _).mono ?_
      rintro e w' ⟨rfl, qq, rfl⟩
      go_wp2_with fail
      refine (H2.out _).mono ?_
      rintro e w1 ⟨rfl, b1⟩
      go_wp2_with fail
      refine (lives1 _).mono ?_
      rintro e w2 ⟨rfl, b2⟩
      go_wp2_with fail
      refine (H3.out _).mono ?_
      rintro e w3 ⟨rfl, b3⟩
      have HS : Hid (q * b + r = a) := HM
      have hs2 : (q * b + r == a) = true := by simpa using HM.out
      have hw : I64 (q * b + r) := by rw [HM.out]; exact ha
      unfold I64 at hw hf
      go_wp2
      go_ret
      exact ⟨rfl, (below_q qq b1 b2).trans (b3.mono (below_q qq b1 b2).size)⟩
  · have e1 : Hid (fitN (q * b) = 0) := by show _ = _; unfold fitN I64 at *; rw [if_neg hf]
    have e2 : Hid (fitE (q * b) = 10) := by show _ = _; unfold fitE I64 at *; rw [if_neg hf]
    have H3 := Lib.hid (fun W => (num_mul q b hq hb W).mono (R' := fun e w' => e = .returned (.tuple #[.int .i64 0, .int .i64 10]) ∧ Below W.heap.size W w') fun _ _ ⟨he, hw⟩ => ⟨by rw [he]; exact ret2i e1.out e2.out, hw⟩)
    rcases hrb with ⟨p1, p2⟩ | ⟨p1, p2⟩
    all_goals
      go_enter Try.func4, Try.ntmps4
      go_wp2_with fail
      refine (H1.out _).mono ?_
      rintro e w' ⟨rfl, qq, rfl⟩
      go_wp2_with fail
      refine (H2.out _).mono ?_
      rintro e w1 ⟨rfl, b1⟩
      go_wp2_with fail
      refine (lives1 _).mono ?_
      rintro e w2 ⟨rfl, b2⟩
      go_wp2_with fail
      refine (H3.out _).mono ?_
      rintro e w3 ⟨rfl, b3⟩
      go_wp2
      go_ret
      exact ⟨rfl, (below_q qq b1 b2).trans (b3.mono (below_q qq b1 b2).size)⟩
theorem walk (a0 : Int) (a1 : Int) (w0 : (Lit.int .i64 a0).wf = true) (w1 : (Lit.int .i64 a1).wf = true) (w : World) :
    Calls Try.prog 4 #[.int .i64 a0, .int .i64 a1] w fun e w' => e = .returned (.bool true) ∧ Below w.heap.size w w' := by
  have h0 := i64_of_wf w0
  have h1 := i64_of_wf w1
  by_cases hz : a1 = 0
  · subst hz
    have h := div_is a0 0 0 0 11 h0 h1 (Ending.returned.inj (divV_z (a := a0))).symm
    exact end_bad a0 0 11 (.inr rfl) (.inl rfl) h.1 h.2 w
  by_cases ho : a0 = -9223372036854775808 ∧ a1 = -1
  · obtain ⟨rfl, rfl⟩ := ho
    have h := div_is (-9223372036854775808) (-1) 0 0 10 h0 h1 (Ending.returned.inj (divV_o)).symm
    exact end_bad _ _ 10 (.inl rfl) (.inr rfl) h.1 h.2 w
  · have h := div_is a0 a1 (a0 / a1) (a0 % a1) 0 h0 h1 (Ending.returned.inj (divV_ok (a := a0) (b := a1) (q := a0 / a1) (r := a0 % a1) hz ho rfl rfl)).symm
    have hr0 := Int.emod_nonneg a0 hz
    have e := Int.emod_add_mul_ediv a0 a1
    refine end_ok a0 a1 (a0 / a1) (a0 % a1) h0 h1 ?_ hr0 hz ?_ (by rw [Int.mul_comm]; omega) h.1 h.2 w
    · rcases Int.lt_or_le (a0.tmod a1) 0 with h3 | h3
      · have hs := tdiv_step hz h0 h3
        rcases Int.lt_or_gt_of_ne hz with h4 | h4
        · have := (euclid_n h4 h3).1; unfold I64; omega
        · have := (euclid_p h4 h3).1; unfold I64; omega
      · have := (euclid_0 hz h3).1
        have := tdiv_bd' hz h0 ho
        unfold I64; omega
    · rcases Int.lt_or_gt_of_ne hz with h4 | h4
      · have := Int.emod_lt_of_neg a0 h4; right; omega
      · have := Int.emod_lt_of_pos a0 h4; left; omega

/-! ### THE ROW's STEP: WRITTEN OUT: LEAVE IT -/
set_option maxRecDepth 100000 in
theorem lifted (os : Os) (started : os.Started) (H : Type) (enc : TypeId × Value → H) :
    ReturnsInHanded {} Try.checked os 4 .any (Rows.numDividesSpec.pre6 enc Try.prog Try.f4 Rows.numDividesRow.domain false) (Rows.numDividesSpec.post enc Try.prog Try.f4 false true false false) := by
  refine returnsInHanded_of_change (C := Try.checked) own started (by kernel_rfl) Try.func4
    (ChangeSpec.witness6 (enc := enc) (C := Try.checked) false ⟨#[], #[.int .i64 0, .int .i64 0], []⟩ 8 (by kernel_rfl) (by kernel_rfl) (by kernel_rfl) (by kernel_rfl)) ?_
  intro W base args ds gs before hval0 hW hcnd _
  have hval : ∀ (j : Nat) t v, Try.f4.params[j]? = some t → args[j]? = some v → Value.okWide Try.prog W .any base t v := hval0
  have hW' := hW
  obtain ⟨p, q, hA0, hV, rfl, hfz, hnd⟩ := hW
  have hA : DataW.TrodAll enc Try.prog W 0 (fun _ => true) true Try.f4.params.toList args.toList ds p := hA0
  rw [Try.params4] at hA hval
  obtain ⟨v0, vs0, d0, ds0, p0, q0, hargs, rfl, rfl, h0, r0⟩ := trodAll_cons hA
  obtain ⟨v1, vs1, d1, ds1, p1, q1, rfl, rfl, rfl, h1, r1⟩ := trodAll_cons r0
  obtain ⟨rfl, rfl, rfl⟩ := trodAll_nil r1
  obtain rfl : args = #[v0, v1] := by cases args; simp_all
  obtain ⟨rfl, rfl⟩ := trodVars_none hV
  obtain ⟨a0, rfl, rfl, rfl, w0⟩ := open_int Try.underlying3 (hval 0 3 v0 rfl rfl) h0
  obtain ⟨a1, rfl, rfl, rfl, w1⟩ := open_int Try.underlying3 (hval 1 3 v1 rfl rfl) h1
  clear hA0 hval0
  simp only [List.append_nil] at hW'
  refine (walk a0 a1 w0 w1 W).mono fun e W' ⟨he, hg⟩ => ?_
  subst he
  exact ⟨_, rfl, post_below (pa := []) (pv := []) hW' (fun _ _ _ => (trodAll_cons_mk (shut_bool Try.underlying4 _) trodAll_mk0)) (fun sp _ => (trodAll_cons_mk (shut_int Try.underlying3 w0) (trodAll_cons_mk (shut_int Try.underlying3 w1) trodAll_mk0))) (fun _ _ => rfl) rfl hg⟩

theorem over : Rows.numDividesRow.holds Try.pinned (OpenSpec.ofChange Rows.numDividesSpec) :=
  OpenClaim.holds_of_wide 4 Try.f4 rfl rfl rfl rfl rfl rfl rfl ⟨rfl, rfl, rfl, rfl, rfl⟩ rfl rfl rfl rfl rfl (by kernel_rfl) Try.func4 (by kernel_rfl)
    (of_decide_eq_true (by kernel_rfl)) (by unfold Func.isWrapper; first | (rw [if_pos (by decide +kernel)]; kernel_rfl) | (rw [if_neg (by decide +kernel)]; exact ⟨rfl, rfl⟩))
    (fun os started H enc _ => lifted os started H enc)

/-- ████ THE STATEMENT ████ -/
theorem proved : Rows.NumDividesSaid :=
  over
end Go.Proofs.Ytajcfknblafkdaa.numDivides
