/- What the statements of layer 1 ask of every program: all that 'lives' calls answers as it asks, in any world. -/
import Derived.Test.YtbnpbflndnjmcaaDoorNumD
namespace Go.Proofs.YtbnpbflndnjmcaaDoor
open Go.RowKit

theorem lies_new (w : World) (l : List Int) : Lies (w.alloc (.cells (l.map (Value.int .i64)).toArray 3)) (w.heap.size + 1) (some ⟨w.heap.size, 0, none⟩) l := fun _ => by
  refine ⟨⟨w.heap.size, 0, none⟩, rfl, Nat.lt_succ_self _, fun j hj => ?_⟩
  have h1 : (⟨w.heap.size, 0, none⟩ : Addr).add j = ⟨w.heap.size, j, none⟩ := by unfold Addr.add; split <;> simp_all
  rw [h1, (Box.new w _ _).cell j]
  simp [List.getD, hj]

theorem live_div (w : World) : Calls Tryd.prog 35 #[.int .i64 (-7), .int .i64 (-2)] w fun e w' => e = .returned (.tuple #[.int .i64 4, .int .i64 1, .int .i64 0]) ∧ ∃ n, w' = w.drewN n :=
  (num_div _ _ (by unfold I64; omega) (by unfold I64; omega) w).mono fun e w' ⟨he, hw⟩ => ⟨he.trans (divV_ok (by omega) (by omega) (by decide) (by decide)).symm, hw⟩
theorem live_ceil (w : World) : Calls Tryd.prog 45 #[.int .i64 7, .int .i64 2] w fun e w' => e = .returned (.tuple #[.int .i64 4, .int .i64 0]) ∧ w = w' :=
  (num_ceil _ _ (by unfold I64; omega) w).mono fun e w' ⟨he, hw⟩ => ⟨he.trans (ceilV_1 (by omega) (by decide)).symm, hw⟩
theorem live_gcd (w : World) : Calls Tryd.prog 54 #[.int .i64 12, .int .i64 (-18)] w fun e w' => e = .returned (.tuple #[.int .i64 6, .int .i64 0]) ∧ ∃ n, w' = w.drewN n :=
  (num_gcd _ _ (by unfold I64; omega) (by unfold I64; omega) w).mono fun e w' ⟨he, hw⟩ => ⟨he.trans (gcdV_in (X := 6) (by decide) (by omega)).symm, hw⟩
theorem live_clamp (w : World) : Calls Tryd.prog 36 #[.int .i64 9, .int .i64 1, .int .i64 4] w fun e w' => e = .returned (.int .i64 4) ∧ w = w' :=
  (num_clamp _ _ _ w).mono fun e w' ⟨he, hw⟩ => ⟨he.trans (ret1i (by decide)), hw⟩
theorem isLog_unique {n : Int} {j k : Nat} (hj : IsLog n j) (hk : IsLog n k) : j = k := by
  rcases Nat.lt_trichotomy j k with h | h | h
  · have h1 := hk.2.1 j h
    have h2 := hj.2.2 (by have := hk.1; omega)
    omega
  · exact h
  · have h1 := hj.2.1 k h
    have h2 := hk.2.2 (by have := hj.1; omega)
    omega
theorem isLog_5 : IsLog 5 3 := ⟨by omega, fun j hj => by
  have : j = 0 ∨ j = 1 ∨ j = 2 := by omega
  rcases this with rfl | rfl | rfl <;> decide, fun _ => by decide⟩
theorem live_dot (w : World) : Calls Tryd.prog 47 #[.slice (some ⟨w.heap.size, 0, none⟩) 2 2, .slice (some ⟨w.heap.size + 1, 0, none⟩) 2 2] ((w.alloc (.cells #[.int .i64 2, .int .i64 3] 3)).alloc (.cells #[.int .i64 5, .int .i64 (-1)] 3)) fun e w' =>
    e = .returned (.tuple #[.int .i64 7, .int .i64 0]) ∧ Below (w.heap.size + 1 + 1) ((w.alloc (.cells #[.int .i64 2, .int .i64 3] 3)).alloc (.cells #[.int .i64 5, .int .i64 (-1)] 3)) w' :=
  (num_dot (some ⟨w.heap.size, 0, none⟩) (some ⟨w.heap.size + 1, 0, none⟩) [2, 3] [5, -1] 2 2 ((w.alloc (.cells #[.int .i64 2, .int .i64 3] 3)).alloc (.cells #[.int .i64 5, .int .i64 (-1)] 3))
    (by intro x hx; simp only [List.mem_cons, List.not_mem_nil, or_false] at hx; unfold I64; omega) (by intro x hx; simp only [List.mem_cons, List.not_mem_nil, or_false] at hx; unfold I64; omega) rfl (by simp)
    (by rw [alloc_size', alloc_size']; exact ((lies_new w [2, 3]).below (B := w.heap.size + 1) ((Below.refl _ _).alloc (by rw [alloc_size']; exact Nat.le_refl _) _)).mono (by omega))
    (by have h := lies_new (w.alloc (.cells #[.int .i64 2, .int .i64 3] 3)) [5, -1]; rw [alloc_size'] at h; rw [alloc_size', alloc_size']; exact h)).mono
    fun e w' ⟨he, hb⟩ => ⟨he.trans (fitV_in (by unfold I64; decide) (by decide)).symm, by rw [alloc_size', alloc_size'] at hb; exact hb⟩

end Go.Proofs.YtbnpbflndnjmcaaDoor
