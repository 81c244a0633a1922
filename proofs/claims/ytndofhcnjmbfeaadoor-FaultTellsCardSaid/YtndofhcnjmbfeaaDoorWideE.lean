/- The contract of wide.Div. -/
import Derived.Test.YtndofhcnjmbfeaaDoorWideD
import Derived.Test.YtndofhcnjmbfeaaDoorWideA
namespace Go.Proofs.YtndofhcnjmbfeaaDoor
open Go.RowKit

theorem two_steps (h l d : Int) (hd : 0 < d) : wv h l / d = wv (wv 0 h / d) (wv (wv 0 h % d) l / d) ∧ wv h l % d = wv (wv 0 h % d) l % d := by
  have e0 : wv 0 h = h := by unfold wv; omega
  rw [e0]
  have e1 := Int.emod_add_mul_ediv h d
  have e2 := Int.emod_add_mul_ediv (wv (h % d) l) d
  have l2 := Int.emod_lt_of_pos (wv (h % d) l) hd
  have g2 := Int.emod_nonneg (wv (h % d) l) (Int.ne_of_gt hd)
  have := (Int.ediv_emod_unique (a := wv h l) (b := d) (r := wv (h % d) l % d) (q := wv (h / d) (wv (h % d) l / d)) hd).2 ⟨by
    generalize wv (h % d) l % d = r2 at *
    generalize wv (h % d) l / d = q2 at *
    unfold wv at *
    generalize h / d = q1 at *
    generalize h % d = r1 at *
    grind, g2, l2⟩
  exact this
theorem q2_bd (h l d : Int) (hd : 0 < d) (hl : U64 l) : 0 ≤ wv (h % d) l / d ∧ wv (h % d) l / d < 18446744073709551616 := by
  have l1 := Int.emod_lt_of_pos h hd
  have g1 := Int.emod_nonneg h (Int.ne_of_gt hd)
  unfold U64 at hl
  have hn : 0 ≤ wv (h % d) l := by unfold wv; omega
  refine ⟨Int.ediv_nonneg hn (by omega), ?_⟩
  refine Int.ediv_lt_of_lt_mul hd ?_
  have : (h % d + 1) * 18446744073709551616 ≤ d * 18446744073709551616 := Int.mul_le_mul_of_nonneg_right (by omega) (by omega)
  unfold wv; omega
end Go.Proofs.YtndofhcnjmbfeaaDoor
