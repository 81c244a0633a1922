/- What the statements of layer 1 ask of every program: all that 'lives' calls answers as it asks, in any world. -/
import Derived.Test.YtajcfknblafkdaaNumD
namespace Go.Proofs.Ytajcfknblafkdaa
open Go.RowKit

theorem lies_new (w : World) (l : List Int) : Lies (w.alloc (.cells (l.map (Value.int .i64)).toArray 3)) (w.heap.size + 1) (some ⟨w.heap.size, 0, none⟩) l := fun _ => by
  refine ⟨⟨w.heap.size, 0, none⟩, rfl, Nat.lt_succ_self _, fun j hj => ?_⟩
  have h1 : (⟨w.heap.size, 0, none⟩ : Addr).add j = ⟨w.heap.size, j, none⟩ := by unfold Addr.add; split <;> simp_all
  rw [h1, (Box.new w _ _).cell j]
  simp [List.getD, hj]

theorem live_add (w : World) : Calls Try.prog 13 #[.int .i64 9223372036854775807, .int .i64 1] w fun e w' => e = .returned (.tuple #[.int .i64 0, .int .i64 10]) ∧ w = w' :=
  (num_add _ _ (by unfold I64; omega) (by unfold I64; omega) w).mono fun e w' ⟨he, hw⟩ => ⟨he.trans (fitV_out (by unfold I64; omega)).symm, hw⟩
theorem live_div (w : World) : Calls Try.prog 24 #[.int .i64 (-7), .int .i64 (-2)] w fun e w' => e = .returned (.tuple #[.int .i64 4, .int .i64 1, .int .i64 0]) ∧ ∃ n, w' = w.drewN n :=
  (num_div _ _ (by unfold I64; omega) (by unfold I64; omega) w).mono fun e w' ⟨he, hw⟩ => ⟨he.trans (divV_ok (by omega) (by omega) (by decide) (by decide)).symm, hw⟩
theorem live_sum (w : World) (g : Nat) (hg : g = w.heap.size) : Calls Try.prog 26 #[.slice (some ⟨g, 0, none⟩) 3 3] (w.alloc (.cells #[.int .i64 9223372036854775807, .int .i64 1, .int .i64 (-5)] 3)) fun e w' =>
    e = .returned (.tuple #[.int .i64 9223372036854775803, .int .i64 0]) ∧ Below (w.heap.size + 1) (w.alloc (.cells #[.int .i64 9223372036854775807, .int .i64 1, .int .i64 (-5)] 3)) w' := by
  subst hg
  exact (num_sum (some ⟨w.heap.size, 0, none⟩) [9223372036854775807, 1, -5] 3 (w.alloc (.cells #[.int .i64 9223372036854775807, .int .i64 1, .int .i64 (-5)] 3))
    (by intro x hx; simp only [List.mem_cons, List.not_mem_nil, or_false] at hx; unfold I64; omega) (by simp) (by rw [alloc_size']; exact lies_new w _)).mono
    fun e w' ⟨he, hb⟩ => ⟨he.trans (fitV_in (by simp only [sumI]; unfold I64; omega) (by simp only [sumI]; omega)).symm, by rw [alloc_size'] at hb; exact hb⟩
theorem live_ceil (w : World) : Calls Try.prog 20 #[.int .i64 7, .int .i64 2] w fun e w' => e = .returned (.tuple #[.int .i64 4, .int .i64 0]) ∧ w = w' :=
  (num_ceil _ _ (by unfold I64; omega) w).mono fun e w' ⟨he, hw⟩ => ⟨he.trans (ceilV_1 (by omega) (by decide)).symm, hw⟩
theorem live_gcd (w : World) : Calls Try.prog 22 #[.int .i64 12, .int .i64 (-18)] w fun e w' => e = .returned (.tuple #[.int .i64 6, .int .i64 0]) ∧ ∃ n, w' = w.drewN n :=
  (num_gcd _ _ (by unfold I64; omega) (by unfold I64; omega) w).mono fun e w' ⟨he, hw⟩ => ⟨he.trans (gcdV_in (X := 6) (by decide) (by omega)).symm, hw⟩
theorem live_clamp (w : World) : Calls Try.prog 32 #[.int .i64 9, .int .i64 1, .int .i64 4] w fun e w' => e = .returned (.int .i64 4) ∧ w = w' :=
  (num_clamp _ _ _ w).mono fun e w' ⟨he, hw⟩ => ⟨he.trans (ret1i (by decide)), hw⟩
theorem isLog_unique {n : Int} {j k : Nat} (hj : IsLog n j) (hk : IsLog n k) : j = k := by
  rcases Nat.lt_trichotomy j k with h | h | h
  · have h1 := hk.2.1 j h
    have h2 := hj.2.2 (by have := hk.1; omega)
    omega
  · exact h
  · have h1 := hj.2.1 k h
    have h2 := hk.2.2 (by have := hj.1; omega)
    omega
theorem isLog_5 : IsLog 5 3 := ⟨by omega, fun j hj => by
  have : j = 0 ∨ j = 1 ∨ j = 2 := by omega
  rcases this with rfl | rfl | rfl <;> decide, fun _ => by decide⟩
theorem live_log (w : World) : Calls Try.prog 30 #[.int .i64 5] w fun e w' => e = .returned (.int .i64 3) ∧ w = w' :=
  (num_log 5 (by unfold I64; omega) w).mono fun e w' ⟨k, hk, he, hw⟩ => ⟨by rw [isLog_unique hk isLog_5] at he; exact he, hw⟩
theorem live_dot (w : World) : Calls Try.prog 28 #[.slice (some ⟨w.heap.size, 0, none⟩) 2 2, .slice (some ⟨w.heap.size + 1, 0, none⟩) 2 2] ((w.alloc (.cells #[.int .i64 2, .int .i64 3] 3)).alloc (.cells #[.int .i64 5, .int .i64 (-1)] 3)) fun e w' =>
    e = .returned (.tuple #[.int .i64 7, .int .i64 0]) ∧ Below (w.heap.size + 1 + 1) ((w.alloc (.cells #[.int .i64 2, .int .i64 3] 3)).alloc (.cells #[.int .i64 5, .int .i64 (-1)] 3)) w' :=
  (num_dot (some ⟨w.heap.size, 0, none⟩) (some ⟨w.heap.size + 1, 0, none⟩) [2, 3] [5, -1] 2 2 ((w.alloc (.cells #[.int .i64 2, .int .i64 3] 3)).alloc (.cells #[.int .i64 5, .int .i64 (-1)] 3))
    (by intro x hx; simp only [List.mem_cons, List.not_mem_nil, or_false] at hx; unfold I64; omega) (by intro x hx; simp only [List.mem_cons, List.not_mem_nil, or_false] at hx; unfold I64; omega) rfl (by simp)
    (by rw [alloc_size', alloc_size']; exact ((lies_new w [2, 3]).below (B := w.heap.size + 1) ((Below.refl _ _).alloc (by rw [alloc_size']; exact Nat.le_refl _) _)).mono (by omega))
    (by have h := lies_new (w.alloc (.cells #[.int .i64 2, .int .i64 3] 3)) [5, -1]; rw [alloc_size'] at h; rw [alloc_size', alloc_size']; exact h)).mono
    fun e w' ⟨he, hb⟩ => ⟨he.trans (fitV_in (by unfold I64; decide) (by decide)).symm, by rw [alloc_size', alloc_size'] at hb; exact hb⟩

set_option maxHeartbeats 1000000 in
theorem lives1 (w : World) : Calls Try.prog 15 #[] w fun e w' => e = .returned (.bool true) ∧ Below w.heap.size w w' := by
  go_enter Try.func15, Try.ntmps15
  go_wp2_with fail
  refine (live_add _).mono ?_
  rintro e w1 ⟨rfl, rfl⟩
  go_wp2_with fail
  refine (live_div _).mono ?_
  rintro e w1 ⟨rfl, q, rfl⟩
  go_wp2_with fail
  refine (live_sum _ _ rfl).mono ?_
  rintro e w3 ⟨rfl, b3⟩
  go_wp2_with fail
  refine (live_ceil _).mono ?_
  rintro e w4 ⟨rfl, rfl⟩
  go_wp2_with fail
  refine (live_dot _).mono ?_
  rintro e w5 ⟨rfl, b5⟩
  go_wp2_with fail
  refine (live_gcd _).mono ?_
  rintro e w6 ⟨rfl, q2, rfl⟩
  go_wp2_with fail
  refine (live_log _).mono ?_
  rintro e w7 ⟨rfl, rfl⟩
  go_wp2_with fail
  refine (live_clamp _).mono ?_
  rintro e w8 ⟨rfl, rfl⟩
  go_wp2
  go_ret
  refine ⟨rfl, ?_⟩
  have e0 : Below w.heap.size w ((w.drewN q).alloc (.cells #[.int .i64 9223372036854775807, .int .i64 1, .int .i64 (-5)] 3)) := ((⟨rfl, rfl, rfl, Nat.le_refl _, fun _ _ => rfl⟩ : Below w.heap.size w (w.drewN q))).alloc (Nat.le_refl _) _
  have s0 : w.heap.size + 1 ≤ w3.heap.size := by have := b3.size; rw [alloc_size'] at this; exact this
  have e1 := e0.trans (b3.mono (Nat.le_succ _))
  have e2 : Below w.heap.size w ((w3.alloc (.cells #[.int .i64 2, .int .i64 3] 3)).alloc (.cells #[.int .i64 5, .int .i64 (-1)] 3)) := (e1.alloc (by omega) _).alloc (by rw [alloc_size']; omega) _
  have e3 := e2.trans (b5.mono (by omega))
  exact ⟨e3.os, e3.tape, e3.output, e3.size, e3.block⟩
end Go.Proofs.Ytajcfknblafkdaa
