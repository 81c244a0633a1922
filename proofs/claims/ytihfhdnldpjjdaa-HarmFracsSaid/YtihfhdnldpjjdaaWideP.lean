/- The contract of copseref02.Prods. -/
import Derived.Test.YtihfhdnldpjjdaaBigs
import Derived.Test.YtihfhdnldpjjdaaWideA
namespace Go.Proofs.Ytihfhdnldpjjdaa
open Go.RowKit

theorem len_diff {P Q : Int} (h : -85070591730234615865843651857942052864 ≤ P ∧ P ≤ 85070591730234615865843651857942052864) (g : -85070591730234615865843651857942052864 ≤ Q ∧ Q ≤ 85070591730234615865843651857942052864) : (digs (P - Q).natAbs).length ≤ 9 := digs_len _ 9 (by unfold pw; omega)
theorem digs_len_0 {n : Int} (h : 0 ≤ n) : (digs n).length = 0 ↔ n = 0 := by
  constructor
  · intro h1
    rcases Int.lt_or_le 0 n with h2 | h2
    · rw [digs_s h2] at h1; simp at h1
    · omega
  · rintro rfl; rw [digs_0 (by omega)]; rfl
end Go.Proofs.Ytihfhdnldpjjdaa
