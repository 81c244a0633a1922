/- Contracts of num.Sum and Dot, over lists of numbers that lie in memory. -/
import Derived.Test.YtbnpbflndnjmcaaDoorNumP
import Derived.Test.YtbnpbflndnjmcaaDoorMem
import Derived.Laws.Rows
import Derived.OneCell
namespace Go.Proofs.YtbnpbflndnjmcaaDoor
open Go.RowKit

def sumI : List Int → Int
  | [] => 0
  | a :: l => a + sumI l
theorem sumI_append (a b : List Int) : sumI (a ++ b) = sumI a + sumI b := by
  induction a with
  | nil => simp [sumI]
  | cons x a ih => simp only [List.cons_append, sumI, ih]; omega
theorem sumI_bd (l : List Int) (h : ∀ x ∈ l, I64 x) : -(9223372036854775808 * (l.length : Int)) ≤ sumI l ∧ sumI l ≤ 9223372036854775808 * (l.length : Int) := by
  induction l with
  | nil => simp [sumI]
  | cons x l ih =>
    have h1 := ih fun y hy => h y (List.mem_cons_of_mem _ hy)
    have h2 := h x List.mem_cons_self
    unfold I64 at h2
    simp only [sumI, List.length_cons]
    omega
theorem sumI_take (l : List Int) (k : Nat) (h : k < l.length) : sumI (l.take (k + 1)) = sumI (l.take k) + l.getD k 0 := by
  rw [List.take_succ_eq_append_getElem h, sumI_append]
  simp [sumI, List.getD, h]

/-- block g holds a number of three words -/
def Holds3 (w : World) (g : Nat) (n : Int) : Prop := w.heap[g]? = some (.cells #[.int .u64 (n % 18446744073709551616), .int .u64 (n / 18446744073709551616 % 18446744073709551616), .int .u64 (n / 340282366920938463463374607431768211456 % 18446744073709551616)] 76 (0, 0))
theorem Holds3.cells {w : World} {g : Nat} {n : Int} (h : Holds3 w g n) :
    w.cell? ⟨g, 0, none⟩ = some (.int .u64 (n % 18446744073709551616)) ∧ w.cell? ⟨g, 1, none⟩ = some (.int .u64 (n / 18446744073709551616 % 18446744073709551616)) ∧ w.cell? ⟨g, 2, none⟩ = some (.int .u64 (n / 340282366920938463463374607431768211456 % 18446744073709551616)) :=
  ⟨cell_of_row w g 0 _ _ (0, 0) h, cell_of_row w g 1 _ _ (0, 0) h, cell_of_row w g 2 _ _ (0, 0) h⟩
theorem Holds3.free {w : World} {g : Nat} {n : Int} (h : Holds3 w g n) : ∀ i, w.frozen? ⟨g, i, none⟩ = false := by
  intro i; unfold Holds3 at h; simp [World.frozen?, h]
theorem Holds3.below {w w' : World} {g B : Nat} {n : Int} (h : Holds3 w g n) (hb : Below B w w') (hg : g < B) : Holds3 w' g n := (hb.block g hg).trans h
theorem Holds3.lt {w : World} {g : Nat} {n : Int} (h : Holds3 w g n) : g < w.heap.size := by
  rcases Nat.lt_or_ge g w.heap.size with hlt | hge
  · exact hlt
  · unfold Holds3 at h; rw [Array.getElem?_eq_none hge] at h; cases h
theorem heap_setCell_same (w : World) (g i : Nat) (u : Value) (cs : Array Value) (t : TypeId) (h : w.heap[g]? = some (.cells cs t (0, 0))) : (w.setCell ⟨g, i, none⟩ u).heap[g]? = some (.cells (cs.setIfInBounds i u) t (0, 0)) := by
  simp [World.setCell, Array.getElem?_modify, h]
theorem Holds3.store {w : World} {g : Nat} {n : Int} (h : Holds3 w g n) (m : Int) : Holds3 (((w.setCell ⟨g, 0, none⟩ (.int .u64 (m % 18446744073709551616))).setCell ⟨g, 1, none⟩ (.int .u64 (m / 18446744073709551616 % 18446744073709551616))).setCell ⟨g, 2, none⟩ (.int .u64 (m / 340282366920938463463374607431768211456 % 18446744073709551616))) g m :=
  (heap_setCell_same _ _ _ _ _ _ (heap_setCell_same _ _ _ _ _ _ (heap_setCell_same _ _ _ _ _ _ h))).trans rfl
theorem Holds3.alloc {w : World} {g : Nat} {n : Int} (h : Holds3 w g n) (o : Obj) : Holds3 (w.alloc o) g n := (Below.heap_alloc w o g h.lt).trans h
theorem plus_tt (n m : Int) (w : World) :
    Calls Tryd.prog 64 #[.agg #[.int .u64 (n % 18446744073709551616), .int .u64 (n / 18446744073709551616 % 18446744073709551616), .int .u64 (n / 340282366920938463463374607431768211456 % 18446744073709551616)], twos m] w fun e w' => e = .returned (.agg #[.int .u64 ((n + m) % 18446744073709551616), .int .u64 ((n + m) / 18446744073709551616 % 18446744073709551616), .int .u64 ((n + m) / 340282366920938463463374607431768211456 % 18446744073709551616)]) ∧ PlusW w w' := by
  have h := num_plus _ _ _ _ _ _ (u64_mod n) (u64_mod (n / 18446744073709551616)) (u64_mod (n / 340282366920938463463374607431768211456)) (u64_mod m) (u64_mod (m / 18446744073709551616)) (u64_mod (m / 340282366920938463463374607431768211456)) w
  rw [plus_twos] at h
  exact h
theorem plus_to (n m : Int) (hm : I64 m) (w : World) :
    Calls Tryd.prog 64 #[.agg #[.int .u64 (n % 18446744073709551616), .int .u64 (n / 18446744073709551616 % 18446744073709551616), .int .u64 (n / 340282366920938463463374607431768211456 % 18446744073709551616)], L3 (m % 18446744073709551616) (sgn m) (sgn m)] w fun e w' => e = .returned (.agg #[.int .u64 ((n + m) % 18446744073709551616), .int .u64 ((n + m) / 18446744073709551616 % 18446744073709551616), .int .u64 ((n + m) / 340282366920938463463374607431768211456 % 18446744073709551616)]) ∧ PlusW w w' := by
  rw [of_twos m hm]
  exact plus_tt n m w
theorem number_tt (n : Int) (hn : N191 n) (w : World) :
    Calls Tryd.prog 66 #[.agg #[.int .u64 (n % 18446744073709551616), .int .u64 (n / 18446744073709551616 % 18446744073709551616), .int .u64 (n / 340282366920938463463374607431768211456 % 18446744073709551616)]] w fun e w' => e = .returned (fitV n) ∧ Below w.heap.size w w' := num_number n hn w
end Go.Proofs.YtbnpbflndnjmcaaDoor
