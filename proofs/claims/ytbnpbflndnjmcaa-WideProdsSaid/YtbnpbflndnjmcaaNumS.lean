/- Contracts of num.Sum and Dot, over lists of numbers that lie in memory. -/
import Derived.Test.YtbnpbflndnjmcaaNumP
import Derived.Test.YtbnpbflndnjmcaaMem
import Derived.Laws.Rows
import Derived.OneCell
namespace Go.Proofs.Ytbnpbflndnjmcaa
open Go.RowKit

def sumI : List Int → Int
  | [] => 0
  | a :: l => a + sumI l
theorem sumI_append (a b : List Int) : sumI (a ++ b) = sumI a + sumI b := by
  induction a with
  | nil => simp [sumI]
  | cons x a ih => simp only [List.cons_append, sumI, ih]; omega
theorem sumI_bd (l : List Int) (h : ∀ x ∈ l, I64 x) : -(9223372036854775808 * (l.length : Int)) ≤ sumI l ∧ sumI l ≤ 9223372036854775808 * (l.length : Int) := by
  induction l with
  | nil => simp [sumI]
  | cons x l ih =>
    have h1 := ih fun y hy => h y (List.mem_cons_of_mem _ hy)
    have h2 := h x List.mem_cons_self
    unfold I64 at h2
    simp only [sumI, List.length_cons]
    omega
theorem sumI_take (l : List Int) (k : Nat) (h : k < l.length) : sumI (l.take (k + 1)) = sumI (l.take k) + l.getD k 0 := by
  rw [List.take_succ_eq_append_getElem h, sumI_append]
  simp [sumI, List.getD, h]

theorem heap_setCell_same (w : World) (g i : Nat) (u : Value) (cs : Array Value) (t : TypeId) (h : w.heap[g]? = some (.cells cs t (0, 0))) : (w.setCell ⟨g, i, none⟩ u).heap[g]? = some (.cells (cs.setIfInBounds i u) t (0, 0)) := by
  simp [World.setCell, Array.getElem?_modify, h]
end Go.Proofs.Ytbnpbflndnjmcaa
