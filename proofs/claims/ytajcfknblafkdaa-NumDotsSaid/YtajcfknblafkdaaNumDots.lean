/- Statement NumDots: whatever the input is, the Go function returns true and each argument reads as it did. No condition. -/
import Derived.Test.YtajcfknblafkdaaRows
import Derived.Test.YtajcfknblafkdaaNumV
import Derived.Test.YtajcfknblafkdaaBigV
import Derived.Test.YtajcfknblafkdaaFrame
import Derived.ProofKit
import Derived.OpenShut
namespace Go.Proofs.Ytajcfknblafkdaa.numDots
open Go.ChangeShapes Go.WideShapes Go.ChangeAt Go.RowKit
set_option linter.unusedVariables false

theorem own : ownKnob Try.prog.godebug = none := by kernel_rfl
theorem laid : laidOutB Try.prog = true := by kernel_rfl
theorem cells_int : Try.prog.cellsOf 3 = 1 := by kernel_rfl

theorem dotI_comm (a b : List Int) (k : Nat) : dotI b a k = dotI a b k := by
  induction k with
  | zero => rfl
  | succ k ih => rw [dotI, dotI, ih, Int.mul_comm]
set_option maxHeartbeats 2000000 in
theorem walk (A A2 : Option Addr) (a b : List Int) (c c2 : Nat) (w : World) (hA : Lies w w.heap.size A a) (hB : Lies w w.heap.size A2 b) (ha : ∀ x ∈ a, I64 x) (hb : ∀ x ∈ b, I64 x) (la : a.length ≤ 9223372036854775807) (lb : b.length ≤ 9223372036854775807) :
    Calls Try.prog 6 #[.slice A a.length c, .slice A2 b.length c2] w fun e w' => e = .returned (.bool true) ∧ Below w.heap.size w w' := by
  by_cases h1 : 100 < a.length
  · generalize a.length = N at *
    generalize b.length = M at *
    go_enter Try.func6, Try.ntmps6
    go_wp2_with fail
    refine (lives1 _).mono ?_
    rintro e w1 ⟨rfl, b1⟩
    go_wp2
    go_ret
    exact ⟨rfl, b1⟩
  by_cases h2 : 100 < b.length
  · generalize a.length = N at *
    generalize b.length = M at *
    go_enter Try.func6, Try.ntmps6
    go_wp2_with fail
    refine (lives1 _).mono ?_
    rintro e w1 ⟨rfl, b1⟩
    go_wp2
    go_ret
    exact ⟨rfl, b1⟩
  by_cases h3 : b.length = a.length
  · have HA := Lib.hid hA
    have HB := Lib.hid hB
    have K1 := Lib.hid (fun W (h : Below w.heap.size w W) => num_dot A A2 a b c c2 W ha hb h3 (by omega) ((hA.below h).mono h.size) ((hB.below h).mono h.size))
    have K2 := Lib.hid (fun W (h : Below w.heap.size w W) => ref_dot A A2 a b c c2 W ha hb h3 (by omega) ((hA.below h).mono h.size) ((hB.below h).mono h.size))
    have K3 : Hid (∀ W, Below w.heap.size w W → Calls Try.prog 28 #[.slice A2 a.length c2, .slice A a.length c] W fun e w' => e = .returned (fitV (dotI a b a.length)) ∧ Below W.heap.size W w') := by
      intro W h
      have h4 := num_dot A2 A b a c2 c W hb ha h3.symm (by omega) ((hB.below h).mono h.size) ((hA.below h).mono h.size)
      rw [h3, dotI_comm] at h4
      exact h4
    rw [h3] at *
    clear hA hB ha hb h3
    generalize dotI a b a.length = S at *
    generalize a.length = N at *
    go_enter Try.func6, Try.ntmps6
    go_wp2_with fail
    refine (K1.out _ (Below.refl _ _)).mono ?_
    rintro e w1 ⟨rfl, b1⟩
    go_wp2_with fail
    refine (K2.out _ b1).mono ?_
    rintro e w2 ⟨rfl, b2⟩
    have c2' := b1.trans (b2.mono b1.size)
    go_wp2_with fail
    refine (K3.out _ c2').mono ?_
    rintro e w3 ⟨rfl, b3⟩
    have c3 := c2'.trans (b3.mono c2'.size)
    go_wp2_with fail
    refine (lives1 _).mono ?_
    rintro e w4 ⟨rfl, b4⟩
    go_wp2
    go_ret
    exact ⟨rfl, c3.trans (b4.mono c3.size)⟩
  · have h4 : a.length ≠ b.length := fun h => h3 h.symm
    generalize a.length = N at *
    generalize b.length = M at *
    have K1 := Lib.hid (fun W => num_dot_ne A A2 N M c c2 W h4)
    have K2 := Lib.hid (fun W => ref_dot_ne A A2 N M c c2 W h4)
    have K3 := Lib.hid (fun W => num_dot_ne A2 A M N c2 c W h3)
    clear h3 h4
    go_enter Try.func6, Try.ntmps6
    go_wp2_with fail
    refine (K1.out _).mono ?_
    rintro e w1 ⟨rfl, rfl⟩
    go_wp2_with fail
    refine (K2.out _).mono ?_
    rintro e w2 ⟨rfl, rfl⟩
    go_wp2_with fail
    refine (K3.out _).mono ?_
    rintro e w3 ⟨rfl, rfl⟩
    go_wp2_with fail
    refine (lives1 _).mono ?_
    rintro e w4 ⟨rfl, b4⟩
    go_wp2
    go_ret
    exact ⟨rfl, b4⟩

set_option maxRecDepth 100000 in
theorem lifted (os : Os) (started : os.Started) (H : Type) (enc : TypeId × Value → H) :
    ReturnsInHanded {} Try.checked os 6 .any (Rows.numDotsSpec.pre6 enc Try.prog Try.f6 Rows.numDotsRow.domain false) (Rows.numDotsSpec.post enc Try.prog Try.f6 false true false false) := by
  refine returnsInHanded_of_change (C := Try.checked) own started (by kernel_rfl) Try.func6
    (ChangeSpec.witness6 (enc := enc) (C := Try.checked) false ⟨#[], #[.slice none 0 0, .slice none 0 0], []⟩ 8 (by kernel_rfl) (by kernel_rfl) (by kernel_rfl) (by kernel_rfl)) ?_
  intro W base args ds gs before hval0 hW hcnd _
  have hval : ∀ (j : Nat) t v, Try.f6.params[j]? = some t → args[j]? = some v → Value.okWide Try.prog W .any base t v := hval0
  have hW' := hW
  obtain ⟨p, q, hA0, hV, rfl, hfz, hnd⟩ := hW
  obtain ⟨rfl, rfl⟩ := trodVars_none hV
  have hA : DataW.TrodAll enc Try.prog W 0 (fun _ => true) true Try.f6.params.toList args.toList ds p := hA0
  rw [Try.params6] at hA hval
  obtain ⟨v0, vs0, d0, ds0, p0, q0, hargs, rfl, rfl, h0, r0⟩ := trodAll_cons hA
  obtain ⟨v1, vs1, d1, ds1, p1, q1, rfl, rfl, rfl, h1, r1⟩ := trodAll_cons r0
  obtain ⟨rfl, rfl, rfl⟩ := trodAll_nil r1
  obtain rfl : args = #[v0, v1] := by cases args; simp_all
  obtain ⟨A, a, c, rfl, L0, I0, M0⟩ := open_list Try.underlying29 Try.underlying3 cells_int (hval 0 29 v0 rfl rfl) h0
  obtain ⟨A2, b, c2, rfl, L1, I1, M1⟩ := open_list Try.underlying29 Try.underlying3 cells_int (hval 1 29 v1 rfl rfl) h1
  refine (walk A A2 a b c c2 W L0 L1 I0 I1 M0 M1).mono fun e W' ⟨he, hg⟩ => ?_
  subst he
  exact ⟨_, rfl, law_post laid (by rw [Try.params6]; exact (by decide +kernel)) rfl (by kernel_rfl) Try.underlying4 rfl hW' hg⟩

theorem over : Rows.numDotsRow.holds Try.pinned (OpenSpec.ofChange Rows.numDotsSpec) :=
  OpenClaim.holds_of_wide 6 Try.f6 rfl rfl rfl rfl rfl rfl rfl ⟨rfl, rfl, rfl, rfl, rfl⟩ rfl rfl rfl rfl rfl (by kernel_rfl) Try.func6 (by kernel_rfl)
    (of_decide_eq_true (by kernel_rfl)) (by unfold Func.isWrapper; first | (rw [if_pos (by decide +kernel)]; kernel_rfl) | (rw [if_neg (by decide +kernel)]; exact ⟨rfl, rfl⟩))
    (fun os started H enc _ => lifted os started H enc)
theorem proved : Rows.NumDotsSaid := over
end Go.Proofs.Ytajcfknblafkdaa.numDots
