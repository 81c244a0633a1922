import Derived.Test.YtdcemcpcjdkpjaaTreeF
import Derived.Test.YtdcemcpcjdkpjaaTreeN

/-! Layer 10: an inner node, by the row of spans. -/
namespace Go.Proofs.Ytdcemcpcjdkpjaa
open Go.RowKit
set_option linter.unusedVariables false
set_option linter.unusedSimpArgs false

/-! ### the row of spans in the memory -/
theorem spC_set2 : ∀ (S : List (Int × Int)) (k : Nat) (p q : Int), k < S.length → ((spC S).set (k * 2) (.int .i64 p)).set (k * 2 + 1) (.int .i64 q) = spC (S.set k (p, q))
  | [], k, p, q, h => by simp at h
  | x :: S, 0, p, q, h => rfl
  | x :: S, k + 1, p, q, h => by
    have ih := spC_set2 S k p q (by simpa using h)
    have e1 : (k + 1) * 2 = k * 2 + 1 + 1 := by omega
    rw [e1]
    show ((Value.int .i64 x.1) :: (Value.int .i64 x.2) :: ((spC S).set (k * 2) (.int .i64 p)).set (k * 2 + 1) (.int .i64 q)) = (Value.int .i64 x.1) :: (Value.int .i64 x.2) :: spC (S.set k (p, q))
    rw [ih]
theorem spC_set1 : ∀ (S : List (Int × Int)) (k : Nat) (p : Int), k < S.length → (spC S).set (k * 2) (.int .i64 p) = spC (S.set k (p, (S.getD k (0, 0)).2))
  | [], k, p, h => by simp at h
  | x :: S, 0, p, h => rfl
  | x :: S, k + 1, p, h => by
    have ih := spC_set1 S k p (by simpa using h)
    have e1 : (k + 1) * 2 = k * 2 + 1 + 1 := by omega
    rw [e1]
    show ((Value.int .i64 x.1) :: (Value.int .i64 x.2) :: (spC S).set (k * 2) (.int .i64 p)) = (Value.int .i64 x.1) :: (Value.int .i64 x.2) :: spC (S.set k (p, (S.getD k (0, 0)).2))
    rw [ih]
theorem spC_zeros (n : Nat) : spC (List.replicate n (0, 0)) = List.replicate (n * 2) (.int .i64 0) := by
  induction n with
  | zero => rfl
  | succ n ih =>
    rw [List.replicate_succ, show (n + 1) * 2 = n * 2 + 1 + 1 from by omega, List.replicate_succ, List.replicate_succ, ← ih]
    rfl
theorem made_spans (n : Nat) : (madeCells (Value.agg #[.int .i64 0, .int .i64 0]).cells (n * 2)).toList = spC (List.replicate n (0, 0)) := by
  rw [spC_zeros]
  show (madeCells #[.int .i64 0, .int .i64 0] (n * 2)).toList = _
  apply List.ext_getElem?
  intro j
  by_cases hj : j < n * 2
  · have h2 : j % 2 = 0 ∨ j % 2 = 1 := by omega
    rcases h2 with h2 | h2 <;> simp [madeCells, hj, h2]
  · simp [madeCells, hj]
theorem info_parts5 {E : TypeId} {z : Value} {s b : Nat} (h : (Try.prog.info? E).map (fun i => (i.zero, i.size, i.bytes)) = some (some z, s, b)) : ∃ i0, Try.prog.info? E = some i0 ∧ i0.zero = some z ∧ i0.size = s ∧ i0.bytes = b := by
  rcases hi : Try.prog.info? E with _ | i0
  · rw [hi] at h; cases h
  · rw [hi] at h
    simp only [Option.map_some, Option.some.injEq, Prod.mk.injEq] at h
    exact ⟨i0, rfl, h.1, h.2.1, h.2.2⟩
end Go.Proofs.Ytdcemcpcjdkpjaa
