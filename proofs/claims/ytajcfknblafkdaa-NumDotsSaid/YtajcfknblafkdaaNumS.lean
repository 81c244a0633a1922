/- Contracts of num.Sum and Dot, over lists of numbers that lie in memory. -/
import Derived.Test.YtajcfknblafkdaaNumP
import Derived.Test.YtajcfknblafkdaaMem
import Derived.Laws.Rows
import Derived.OneCell
namespace Go.Proofs.Ytajcfknblafkdaa
open Go.RowKit

def sumI : List Int → Int
  | [] => 0
  | a :: l => a + sumI l
theorem sumI_append (a b : List Int) : sumI (a ++ b) = sumI a + sumI b := by
  induction a with
  | nil => simp [sumI]
  | cons x a ih => simp only [List.cons_append, sumI, ih]; omega
theorem sumI_bd (l : List Int) (h : ∀ x ∈ l, I64 x) : -(9223372036854775808 * (l.length : Int)) ≤ sumI l ∧ sumI l ≤ 9223372036854775808 * (l.length : Int) := by
  induction l with
  | nil => simp [sumI]
  | cons x l ih =>
    have h1 := ih fun y hy => h y (List.mem_cons_of_mem _ hy)
    have h2 := h x List.mem_cons_self
    unfold I64 at h2
    simp only [sumI, List.length_cons]
    omega
theorem sumI_take (l : List Int) (k : Nat) (h : k < l.length) : sumI (l.take (k + 1)) = sumI (l.take k) + l.getD k 0 := by
  rw [List.take_succ_eq_append_getElem h, sumI_append]
  simp [sumI, List.getD, h]

/-- block g holds a number of three words -/
def Holds3 (w : World) (g : Nat) (n : Int) : Prop := w.heap[g]? = some (.cells #[.int .u64 (n % 18446744073709551616), .int .u64 (n / 18446744073709551616 % 18446744073709551616), .int .u64 (n / 340282366920938463463374607431768211456 % 18446744073709551616)] 68 (0, 0))
theorem Holds3.cells {w : World} {g : Nat} {n : Int} (h : Holds3 w g n) :
    w.cell? ⟨g, 0, none⟩ = some (.int .u64 (n % 18446744073709551616)) ∧ w.cell? ⟨g, 1, none⟩ = some (.int .u64 (n / 18446744073709551616 % 18446744073709551616)) ∧ w.cell? ⟨g, 2, none⟩ = some (.int .u64 (n / 340282366920938463463374607431768211456 % 18446744073709551616)) :=
  ⟨cell_of_row w g 0 _ _ (0, 0) h, cell_of_row w g 1 _ _ (0, 0) h, cell_of_row w g 2 _ _ (0, 0) h⟩
theorem Holds3.free {w : World} {g : Nat} {n : Int} (h : Holds3 w g n) : ∀ i, w.frozen? ⟨g, i, none⟩ = false := by
  intro i; unfold Holds3 at h; simp [World.frozen?, h]
theorem Holds3.below {w w' : World} {g B : Nat} {n : Int} (h : Holds3 w g n) (hb : Below B w w') (hg : g < B) : Holds3 w' g n := (hb.block g hg).trans h
theorem Holds3.lt {w : World} {g : Nat} {n : Int} (h : Holds3 w g n) : g < w.heap.size := by
  rcases Nat.lt_or_ge g w.heap.size with hlt | hge
  · exact hlt
  · unfold Holds3 at h; rw [Array.getElem?_eq_none hge] at h; cases h
theorem heap_setCell_same (w : World) (g i : Nat) (u : Value) (cs : Array Value) (t : TypeId) (h : w.heap[g]? = some (.cells cs t (0, 0))) : (w.setCell ⟨g, i, none⟩ u).heap[g]? = some (.cells (cs.setIfInBounds i u) t (0, 0)) := by
  simp [World.setCell, Array.getElem?_modify, h]
theorem Holds3.store {w : World} {g : Nat} {n : Int} (h : Holds3 w g n) (m : Int) : Holds3 (((w.setCell ⟨g, 0, none⟩ (.int .u64 (m % 18446744073709551616))).setCell ⟨g, 1, none⟩ (.int .u64 (m / 18446744073709551616 % 18446744073709551616))).setCell ⟨g, 2, none⟩ (.int .u64 (m / 340282366920938463463374607431768211456 % 18446744073709551616))) g m :=
  (heap_setCell_same _ _ _ _ _ _ (heap_setCell_same _ _ _ _ _ _ (heap_setCell_same _ _ _ _ _ _ h))).trans rfl
theorem Holds3.alloc {w : World} {g : Nat} {n : Int} (h : Holds3 w g n) (o : Obj) : Holds3 (w.alloc o) g n := (Below.heap_alloc w o g h.lt).trans h
theorem plus_tt (n m : Int) (w : World) :
    Calls Try.prog 64 #[.agg #[.int .u64 (n % 18446744073709551616), .int .u64 (n / 18446744073709551616 % 18446744073709551616), .int .u64 (n / 340282366920938463463374607431768211456 % 18446744073709551616)], twos m] w fun e w' => e = .returned (.agg #[.int .u64 ((n + m) % 18446744073709551616), .int .u64 ((n + m) / 18446744073709551616 % 18446744073709551616), .int .u64 ((n + m) / 340282366920938463463374607431768211456 % 18446744073709551616)]) ∧ PlusW w w' := by
  have h := num_plus _ _ _ _ _ _ (u64_mod n) (u64_mod (n / 18446744073709551616)) (u64_mod (n / 340282366920938463463374607431768211456)) (u64_mod m) (u64_mod (m / 18446744073709551616)) (u64_mod (m / 340282366920938463463374607431768211456)) w
  rw [plus_twos] at h
  exact h
theorem plus_to (n m : Int) (hm : I64 m) (w : World) :
    Calls Try.prog 64 #[.agg #[.int .u64 (n % 18446744073709551616), .int .u64 (n / 18446744073709551616 % 18446744073709551616), .int .u64 (n / 340282366920938463463374607431768211456 % 18446744073709551616)], L3 (m % 18446744073709551616) (sgn m) (sgn m)] w fun e w' => e = .returned (.agg #[.int .u64 ((n + m) % 18446744073709551616), .int .u64 ((n + m) / 18446744073709551616 % 18446744073709551616), .int .u64 ((n + m) / 340282366920938463463374607431768211456 % 18446744073709551616)]) ∧ PlusW w w' := by
  rw [of_twos m hm]
  exact plus_tt n m w
theorem number_tt (n : Int) (hn : N191 n) (w : World) :
    Calls Try.prog 61 #[.agg #[.int .u64 (n % 18446744073709551616), .int .u64 (n / 18446744073709551616 % 18446744073709551616), .int .u64 (n / 340282366920938463463374607431768211456 % 18446744073709551616)]] w fun e w' => e = .returned (fitV n) ∧ Below w.heap.size w w' := num_number n hn w
set_option maxHeartbeats 1000000 in
theorem num_sum (A : Option Addr) (l : List Int) (c : Nat) (w : World) (hl : ∀ x ∈ l, I64 x) (hn : l.length ≤ 4611686018427387904) (hA : Lies w w.heap.size A l) :
    Calls Try.prog 26 #[.slice A l.length c] w fun e w' => e = .returned (fitV (sumI l)) ∧ Below w.heap.size w w' := by
  generalize hN : l.length = N at *
  have HN := Lib.hid hN
  clear hN
  go_enter Try.func26, Try.ntmps26
  go_wp2
  go_loopw [9] (fun i wr => ∃ k : Nat, k ≤ N ∧ i = .int .i64 k ∧ Holds3 wr w.heap.size (sumI (l.take k)) ∧ Below w.heap.size w wr) (fun i _ => N - (intOf i).toNat)
  case atStart => exact ⟨0, by omega, rfl, heap_alloc_new w _, (Below.refl _ _).alloc (Nat.le_refl _) _⟩
  case round =>
    obtain ⟨k, hk, rfl, hB, hb⟩ := hrel
    obtain ⟨c0, c1, c2⟩ := hB.cells
    have f0 := hB.free 0
    have f1 := hB.free 1
    have f2 := hB.free 2
    have hlt3 := hB.lt
    by_cases hlt : k < N
    · obtain ⟨ad, rfl, hadb, hc⟩ := (hA.below hb) (by have := HN.out; omega)
      have hcell := hc k (by have := HN.out; omega)
      have HX := Lib.hid (hl (l.getD k 0) (by rw [List.getD_eq_getElem?_getD, List.getElem?_eq_getElem (by have := HN.out; omega)]; exact List.getElem_mem _))
      have HT := Lib.hid (sumI_take l k (by have := HN.out; omega))
      generalize l.getD k 0 = x at *
      generalize sumI (l.take k) = S at *
      clear hc hl hA
      have n1 : w.heap.size < wr.heap.size + 1 := by omega
      have n2 : w.heap.size < wr.heap.size + 1 + 1 := by omega
      have n3 : w.heap.size < wr.heap.size + 1 + 1 + 1 := by omega
      have n4 : w.heap.size < wr.heap.size + 1 + 1 + 1 + 1 := by omega
      have HB := Lib.hid hB
      clear hB
      go_wp2
      go_region_with (first | (go_at_call 65; refine (num_of x HX.out _).mono ?_; rintro e w' ⟨rfl, rfl⟩) | (go_at_call 64; refine (plus_to S x HX.out _).mono ?_; rintro e w' ⟨rfl, d1, d2, d3, rfl⟩))
      all_goals
        go_wp2
        refine ⟨⟨k + 1, by omega, by go_num, ?_, ?_⟩, by simp [intOf]; omega⟩
        · rw [HT.out]
          exact (((((HB.out.store (S + x)).alloc _).alloc _).alloc _).alloc _)
        · exact (((((((((((hb.setCell (p := ⟨w.heap.size, 0, none⟩) (Nat.le_refl _) _).setCell (p := ⟨w.heap.size, 1, none⟩) (Nat.le_refl _) _).setCell (p := ⟨w.heap.size, 2, none⟩) (Nat.le_refl _) _).alloc (by simp; omega) _).alloc (by simp; omega) _).alloc (by simp; omega) _).alloc (by simp; omega) _).drew).drew).drew).drew)
    · have hS : Hid (sumI (l.take k) = sumI l) := by
        have := HN.out
        show _ = _
        rw [List.take_of_length_le (by omega)]
      have hs := sumI_bd (l.take k) fun x hx => hl x (List.mem_of_mem_take hx)
      have hs2 : (l.take k).length ≤ 4611686018427387904 := by have := HN.out; rw [List.length_take]; omega
      have hN : N191 (sumI (l.take k)) := by unfold N191; omega
      clear hs hs2
      generalize sumI (l.take k) = S at *
      clear hl hA hB
      go_wp2_with (go_at_call 61; refine (number_tt S hN _).mono ?_; rintro e w' ⟨rfl, hb2⟩)
      go_ret2
      rw [hS.out]
      exact ⟨rfl, hb.trans (hb2.mono (by omega))⟩
end Go.Proofs.Ytajcfknblafkdaa
