import Derived.Test.YtdcemcpcjdkpjaaTreeP

/-! Layer 10: points parted by a cut. -/
namespace Go.Proofs.Ytdcemcpcjdkpjaa
open Go.RowKit
set_option linter.unusedVariables false
set_option linter.unusedSimpArgs false

theorem pcK_at (p : Nat → Bool) (k : Nat) {j : Nat} (h : j < (pcK p k).length) : 0 ≤ (pcK p k).getD j 0 ∧ (pcK p k).getD j 0 < k := by
  have hm : (pcK p k).getD j 0 ∈ pcK p k := by
    rw [List.getD_eq_getElem?_getD, List.getElem?_eq_getElem h]; exact List.getElem_mem h
  obtain ⟨i, h1, h2, _⟩ := (pcK_mem p _ k).1 hm
  rw [h2]
  omega
theorem lft_at {c : List Int} {p : Int} {R : List Row} (h : splC c p R = 0) (j : Nat) (hj : j < (lft c p R).length) : 0 ≤ (lft c p R).getD j 0 ∧ (lft c p R).getD j 0 < R.length := by
  unfold lft at hj ⊢
  rw [if_pos h] at hj ⊢
  exact pcK_at _ _ hj
theorem rgt_at {c : List Int} {p : Int} {R : List Row} (h : splC c p R = 0) (j : Nat) (hj : j < (rgt c p R).length) : 0 ≤ (rgt c p R).getD j 0 ∧ (rgt c p R).getD j 0 < R.length := by
  unfold rgt at hj ⊢
  rw [if_pos h] at hj ⊢
  exact pcK_at _ _ hj
theorem lft_len {c : List Int} {p : Int} {R : List Row} : (lft c p R).length ≤ R.length := by
  unfold lft
  split
  · exact pcK_len _ _
  · exact Nat.zero_le _
theorem rgt_len {c : List Int} {p : Int} {R : List Row} : (rgt c p R).length ≤ R.length := by
  unfold rgt
  split
  · exact pcK_len _ _
  · exact Nat.zero_le _
end Go.Proofs.Ytdcemcpcjdkpjaa
