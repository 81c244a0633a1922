/- The reference of layer 4: Class, Code. -/
import Derived.Test.YtndofhcnjmbfeaaDoorPlyB
namespace Go.Proofs.YtndofhcnjmbfeaaDoor
open Go.RowKit Go.Extern.Stop Go.Stop Go.Extern
set_option linter.unusedVariables false
set_option linter.unusedSimpArgs false

def tb : List (Int × Int) := [(0, 0), (60, 2), (61, 2), (2, 3), (8, 3), (6, 4), (7, 4), (20, 5), (210, 5), (211, 5), (240, 5), (270, 5), (350, 5)]
def tbV : Array Value := #[.int .i64 0, .int .i64 0, .int .i64 60, .int .i64 2, .int .i64 61, .int .i64 2, .int .i64 2, .int .i64 3, .int .i64 8, .int .i64 3, .int .i64 6, .int .i64 4, .int .i64 7, .int .i64 4, .int .i64 20, .int .i64 5, .int .i64 210, .int .i64 5, .int .i64 211, .int .i64 5, .int .i64 240, .int .i64 5, .int .i64 270, .int .i64 5, .int .i64 350, .int .i64 5]
theorem tb_cells : ∀ k, k < 13 → tbV[k * 2]? = some (.int .i64 (tb.getD k (0, 0)).1) ∧ tbV[k * 2 + 1]? = some (.int .i64 (tb.getD k (0, 0)).2)
  | 0, _ => ⟨rfl, rfl⟩ | 1, _ => ⟨rfl, rfl⟩ | 2, _ => ⟨rfl, rfl⟩ | 3, _ => ⟨rfl, rfl⟩ | 4, _ => ⟨rfl, rfl⟩ | 5, _ => ⟨rfl, rfl⟩ | 6, _ => ⟨rfl, rfl⟩
  | 7, _ => ⟨rfl, rfl⟩ | 8, _ => ⟨rfl, rfl⟩ | 9, _ => ⟨rfl, rfl⟩ | 10, _ => ⟨rfl, rfl⟩ | 11, _ => ⟨rfl, rfl⟩ | 12, _ => ⟨rfl, rfl⟩
  | k + 13, h => absurd h (by omega)
theorem tb_hit : ∀ k, k < 13 → clN (tb.getD k (0, 0)).1 = (tb.getD k (0, 0)).2
  | 0, _ => rfl | 1, _ => rfl | 2, _ => rfl | 3, _ => rfl | 4, _ => rfl | 5, _ => rfl | 6, _ => rfl
  | 7, _ => rfl | 8, _ => rfl | 9, _ => rfl | 10, _ => rfl | 11, _ => rfl | 12, _ => rfl
  | k + 13, h => absurd h (by omega)
theorem tb_miss {c : Int} (h : ∀ k, k < 13 → (tb.getD k (0, 0)).1 ≠ c) : clN c = 1 := by
  have g : ∀ k, k < 13 → (tb.getD k (0, 0)).1 ≠ c := h
  have h0 := g 0 (by decide); have h1 := g 1 (by decide); have h2 := g 2 (by decide); have h3 := g 3 (by decide); have h4 := g 4 (by decide); have h5 := g 5 (by decide); have h6 := g 6 (by decide)
  have h7 := g 7 (by decide); have h8 := g 8 (by decide); have h9 := g 9 (by decide); have h10 := g 10 (by decide); have h11 := g 11 (by decide); have h12 := g 12 (by decide)
  simp [tb, List.getD] at h0 h1 h2 h3 h4 h5 h6 h7 h8 h9 h10 h11 h12
  unfold clN
  rw [if_neg (by omega), if_neg (by omega), if_neg (by omega), if_neg (by omega), if_neg (by omega)]
end Go.Proofs.YtndofhcnjmbfeaaDoor
