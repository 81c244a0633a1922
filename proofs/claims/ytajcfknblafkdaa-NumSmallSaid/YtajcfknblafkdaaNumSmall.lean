/- Statement NumSmall: whatever the input is, the Go function returns true and each argument reads as it did. No condition. -/
import Derived.Test.YtajcfknblafkdaaRows
import Derived.Test.YtajcfknblafkdaaNumV
import Derived.Test.YtajcfknblafkdaaNumLog
import Derived.Test.YtajcfknblafkdaaPost
import Derived.ProofKit
import Derived.OpenShut
namespace Go.Proofs.Ytajcfknblafkdaa.numSmall
open Go.ChangeShapes Go.WideShapes Go.ChangeAt Go.RowKit
set_option linter.unusedVariables false

theorem own : ownKnob Try.prog.godebug = none := by kernel_rfl

theorem clamp_lo (v lo hi : Int) (h : v < lo) (w : World) : Calls Try.prog 32 #[.int .i64 v, .int .i64 lo, .int .i64 hi] w fun e w' => e = .returned (.int .i64 lo) ∧ w = w' :=
  (num_clamp v lo hi w).mono fun e w' ⟨he, hw⟩ => ⟨by rw [if_pos h] at he; exact he, hw⟩
theorem clamp_hi (v lo hi : Int) (h : ¬ v < lo) (g : v > hi) (w : World) : Calls Try.prog 32 #[.int .i64 v, .int .i64 lo, .int .i64 hi] w fun e w' => e = .returned (.int .i64 hi) ∧ w = w' :=
  (num_clamp v lo hi w).mono fun e w' ⟨he, hw⟩ => ⟨by rw [if_neg h, if_pos g] at he; exact he, hw⟩
theorem clamp_v (v lo hi : Int) (h : ¬ v < lo) (g : ¬ v > hi) (w : World) : Calls Try.prog 32 #[.int .i64 v, .int .i64 lo, .int .i64 hi] w fun e w' => e = .returned (.int .i64 v) ∧ w = w' :=
  (num_clamp v lo hi w).mono fun e w' ⟨he, hw⟩ => ⟨by rw [if_neg h, if_neg g] at he; exact he, hw⟩
def LogAt (n : Int) (k : Nat) (w : World) (e : Ending) (w' : World) : Prop := e = .returned (.int .i64 k) ∧ w = w'
set_option maxHeartbeats 4000000 in
theorem walk (a0 : Int) (a1 : Int) (a2 : Int) (a3 : Int) (w0 : (Lit.int .i64 a0).wf = true) (w1 : (Lit.int .i64 a1).wf = true) (w2 : (Lit.int .i64 a2).wf = true) (w3 : (Lit.int .i64 a3).wf = true) (w : World) :
    Calls Try.prog 7 #[.int .i64 a0, .int .i64 a1, .int .i64 a2, .int .i64 a3] w fun e w' => e = .returned (.bool true) ∧ Below w.heap.size w w' := by
  have h0 := i64_of_wf w0
  have HL1 := Lib.hid (num_log a0 h0)
  go_enter Try.func7, Try.ntmps7
  go_wp2_with fail
  refine (num_log a0 h0 _).mono ?_
  rintro e w' ⟨k, hk, rfl, rfl⟩
  have HL2 := Lib.hid (fun W => (ref_log a0 h0 W).mono (R' := fun e w' => e = .returned (.int .i64 k) ∧ W = w') fun e w' ⟨k', hk', he, hw⟩ => ⟨by rw [isLog_unique hk hk']; exact he, hw⟩)
  obtain ⟨k1, k2, k3⟩ := hk
  rcases Nat.eq_zero_or_pos k with rfl | hpos
  · have hA : a0 ≤ 1 := k3 (by omega)
    clear k2 k3
    go_wp2_with fail
    refine (HL2.out _).mono ?_
    rintro e w' ⟨rfl, rfl⟩
    go_wp2_with fail
    all_goals
      first | (refine (clamp_lo _ _ _ (by omega) _).mono ?_) | (refine (clamp_hi _ _ _ (by omega) (by omega) _).mono ?_) | (refine (clamp_v _ _ _ (by omega) (by omega) _).mono ?_)
      rintro e w' ⟨rfl, rfl⟩
      go_wp2_with fail
      refine (lives1 _).mono ?_
      rintro e w' ⟨rfl, hb⟩
      go_wp2
      go_ret
      exact ⟨rfl, hb⟩
  · by_cases h63 : k = 63
    · subst h63
      have hB2 : 4611686018427387904 < a0 := k2 62 (by omega)
      clear k2 k3
      go_wp2_with fail
      refine (HL2.out _).mono ?_
      rintro e w' ⟨rfl, rfl⟩
      go_wp2_with fail
      all_goals
        first | (refine (clamp_lo _ _ _ (by omega) _).mono ?_) | (refine (clamp_hi _ _ _ (by omega) (by omega) _).mono ?_) | (refine (clamp_v _ _ _ (by omega) (by omega) _).mono ?_)
        rintro e w' ⟨rfl, rfl⟩
        go_wp2_with fail
        refine (lives1 _).mono ?_
        rintro e w' ⟨rfl, hb⟩
        go_wp2
        go_ret
        exact ⟨rfl, hb⟩
    · have hB : wrap64 ((2 : Int) ^ (k - 1)) < a0 := by rw [(pow_wrap (by omega)).1]; exact k2 (k - 1) (by omega)
      have hC : a0 ≤ wrap64 ((2 : Int) ^ k) := by rw [(pow_wrap (by omega)).1]; exact k3 (by omega)
      have hk : k < 63 := by omega
      clear k2 k3 h63
      go_wp2_with fail
      refine (HL2.out _).mono ?_
      rintro e w' ⟨rfl, rfl⟩
      go_wp2_with fail
      all_goals
        first | (refine (clamp_lo _ _ _ (by omega) _).mono ?_) | (refine (clamp_hi _ _ _ (by omega) (by omega) _).mono ?_) | (refine (clamp_v _ _ _ (by omega) (by omega) _).mono ?_)
        rintro e w' ⟨rfl, rfl⟩
        go_wp2_with fail
        refine (lives1 _).mono ?_
        rintro e w' ⟨rfl, hb⟩
        go_wp2
        go_ret
        exact ⟨rfl, hb⟩

/-! ### THE ROW's STEP: WRITTEN OUT: LEAVE IT -/
set_option maxRecDepth 100000 in
theorem lifted (os : Os) (started : os.Started) (H : Type) (enc : TypeId × Value → H) :
    ReturnsInHanded {} Try.checked os 7 .any (Rows.numSmallSpec.pre6 enc Try.prog Try.f7 Rows.numSmallRow.domain false) (Rows.numSmallSpec.post enc Try.prog Try.f7 false true false false) := by
  refine returnsInHanded_of_change (C := Try.checked) own started (by kernel_rfl) Try.func7
    (ChangeSpec.witness6 (enc := enc) (C := Try.checked) false ⟨#[], #[.int .i64 0, .int .i64 0, .int .i64 0, .int .i64 0], []⟩ 8 (by kernel_rfl) (by kernel_rfl) (by kernel_rfl) (by kernel_rfl)) ?_
  intro W base args ds gs before hval0 hW hcnd _
  have hval : ∀ (j : Nat) t v, Try.f7.params[j]? = some t → args[j]? = some v → Value.okWide Try.prog W .any base t v := hval0
  have hW' := hW
  obtain ⟨p, q, hA0, hV, rfl, hfz, hnd⟩ := hW
  have hA : DataW.TrodAll enc Try.prog W 0 (fun _ => true) true Try.f7.params.toList args.toList ds p := hA0
  rw [Try.params7] at hA hval
  obtain ⟨v0, vs0, d0, ds0, p0, q0, hargs, rfl, rfl, h0, r0⟩ := trodAll_cons hA
  obtain ⟨v1, vs1, d1, ds1, p1, q1, rfl, rfl, rfl, h1, r1⟩ := trodAll_cons r0
  obtain ⟨v2, vs2, d2, ds2, p2, q2, rfl, rfl, rfl, h2, r2⟩ := trodAll_cons r1
  obtain ⟨v3, vs3, d3, ds3, p3, q3, rfl, rfl, rfl, h3, r3⟩ := trodAll_cons r2
  obtain ⟨rfl, rfl, rfl⟩ := trodAll_nil r3
  obtain rfl : args = #[v0, v1, v2, v3] := by cases args; simp_all
  obtain ⟨rfl, rfl⟩ := trodVars_none hV
  obtain ⟨a0, rfl, rfl, rfl, w0⟩ := open_int Try.underlying3 (hval 0 3 v0 rfl rfl) h0
  obtain ⟨a1, rfl, rfl, rfl, w1⟩ := open_int Try.underlying3 (hval 1 3 v1 rfl rfl) h1
  obtain ⟨a2, rfl, rfl, rfl, w2⟩ := open_int Try.underlying3 (hval 2 3 v2 rfl rfl) h2
  obtain ⟨a3, rfl, rfl, rfl, w3⟩ := open_int Try.underlying3 (hval 3 3 v3 rfl rfl) h3
  clear hA0 hval0
  simp only [List.append_nil] at hW'
  refine (walk a0 a1 a2 a3 w0 w1 w2 w3 W).mono fun e W' ⟨he, hg⟩ => ?_
  subst he
  exact ⟨_, rfl, post_below (pa := []) (pv := []) hW' (fun _ _ _ => (trodAll_cons_mk (shut_bool Try.underlying4 _) trodAll_mk0)) (fun sp _ => (trodAll_cons_mk (shut_int Try.underlying3 w0) (trodAll_cons_mk (shut_int Try.underlying3 w1) (trodAll_cons_mk (shut_int Try.underlying3 w2) (trodAll_cons_mk (shut_int Try.underlying3 w3) trodAll_mk0))))) (fun _ _ => rfl) rfl hg⟩

theorem over : Rows.numSmallRow.holds Try.pinned (OpenSpec.ofChange Rows.numSmallSpec) :=
  OpenClaim.holds_of_wide 7 Try.f7 rfl rfl rfl rfl rfl rfl rfl ⟨rfl, rfl, rfl, rfl, rfl⟩ rfl rfl rfl rfl rfl (by kernel_rfl) Try.func7 (by kernel_rfl)
    (of_decide_eq_true (by kernel_rfl)) (by unfold Func.isWrapper; first | (rw [if_pos (by decide +kernel)]; kernel_rfl) | (rw [if_neg (by decide +kernel)]; exact ⟨rfl, rfl⟩))
    (fun os started H enc _ => lifted os started H enc)

/-- ████ THE STATEMENT ████ -/
theorem proved : Rows.NumSmallSaid :=
  over
end Go.Proofs.Ytajcfknblafkdaa.numSmall
