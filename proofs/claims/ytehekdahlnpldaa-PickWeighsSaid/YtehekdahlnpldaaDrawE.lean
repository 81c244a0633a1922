import Derived.Test.YtehekdahlnpldaaDrawD

/-! What the statements of layer 6 ask of every program. -/
namespace Go.Proofs.Ytehekdahlnpldaa
open Go.RowKit
set_option linter.unusedVariables false
set_option linter.unusedSimpArgs false

theorem liesU_new (w : World) (l : List Int) : LiesU (w.alloc (.cells (litu l).toArray 68)) (w.heap.size + 1) (some ⟨w.heap.size, 0, none⟩) l := fun _ => by
  refine ⟨⟨w.heap.size, 0, none⟩, rfl, Nat.lt_succ_self _, fun j hj => ?_⟩
  have h1 : (⟨w.heap.size, 0, none⟩ : Addr).add j = ⟨w.heap.size, j, none⟩ := by unfold Addr.add; split <;> simp_all
  rw [h1, (Box.new w _ _).cell j]
  simp [litu, List.getD, hj]
abbrev liveL : List Int := [18446744073709551615, 7]
theorem live_u : ∀ x ∈ liveL, U64 x := by intro x hx; simp at hx; unfold U64; omega
theorem lb1 : bnd liveL 0 3 2 = (1, 2, 0) := by decide +kernel
theorem lb2 : bnd liveL 0 3 1 = (0, 0, 61) := by decide +kernel
theorem lb3 : bnd liveL 2 3 1 = (0, 0, 60) := by decide +kernel
theorem lb4 : rng liveL 1 (-2) 0 1 = (-1, 2, 0) := by decide +kernel
theorem lb5 : coin liveL 1 2 3 1 = (true, 2, 0) := by decide +kernel
theorem lb6 : nextV liveL 1 = .tuple #[.int .u64 7, .int .i64 2, .int .i64 0] := rfl
theorem lb7 : topN 3 = 18446744073709551614 := by decide +kernel
theorem lb8 : shareN 3 = 6148914691236517205 := by decide +kernel
theorem lb9 : usedL liveL 1 2 = [7] := by decide +kernel
abbrev liveW (w : World) : World := w.alloc (.cells #[.int .u64 18446744073709551615, .int .u64 7] 68)
end Go.Proofs.Ytehekdahlnpldaa
