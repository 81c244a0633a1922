/- The contract of num.Dot. -/
import Derived.Test.YtbnpbflndnjmcaaDoorNumS
namespace Go.Proofs.YtbnpbflndnjmcaaDoor
open Go.RowKit

/-- the sum of the products of the first k of both -/
def dotI (a b : List Int) : Nat → Int
  | 0 => 0
  | k + 1 => dotI a b k + a.getD k 0 * b.getD k 0
theorem getD_i64 {l : List Int} (h : ∀ x ∈ l, I64 x) (k : Nat) : I64 (l.getD k 0) := by
  by_cases hk : k < l.length
  · rw [List.getD_eq_getElem?_getD, List.getElem?_eq_getElem hk]; exact h _ (List.getElem_mem _)
  · rw [List.getD_eq_getElem?_getD, List.getElem?_eq_none (by omega)]; unfold I64; simp
theorem dotI_bd (a b : List Int) (ha : ∀ x ∈ a, I64 x) (hb : ∀ x ∈ b, I64 x) (k : Nat) : -(85070591730234615865843651857942052864 * (k : Int)) ≤ dotI a b k ∧ dotI a b k ≤ 85070591730234615865843651857942052864 * (k : Int) := by
  induction k with
  | zero => simp [dotI]
  | succ k ih =>
    have := mul_bd _ _ (getD_i64 ha k) (getD_i64 hb k)
    rw [dotI]
    generalize a.getD k 0 * b.getD k 0 = P at *
    omega
theorem num_dot_ne (A A2 : Option Addr) (la lb c c2 : Nat) (w : World) (hne : la ≠ lb) :
    Calls Tryd.prog 47 #[.slice A la c, .slice A2 lb c2] w fun e w' => e = .returned (.tuple #[.int .i64 0, .int .i64 1]) ∧ w = w' := by
  have hn2 : ((la : Int) != lb) = true := by simp; omega
  go_enter Tryd.func47, Tryd.ntmps47
  go_wp2
  go_ret2
  exact ⟨rfl, rfl⟩

set_option maxHeartbeats 1000000 in
theorem num_dot (A A2 : Option Addr) (a b : List Int) (c c2 : Nat) (w : World) (ha : ∀ x ∈ a, I64 x) (hb0 : ∀ x ∈ b, I64 x) (hl : b.length = a.length) (hn : a.length ≤ 1000000000) (hA : Lies w w.heap.size A a) (hA2 : Lies w w.heap.size A2 b) :
    Calls Tryd.prog 47 #[.slice A a.length c, .slice A2 a.length c2] w fun e w' => e = .returned (fitV (dotI a b a.length)) ∧ Below w.heap.size w w' := by
  have HL := Lib.hid hl
  clear hl
  generalize hN : a.length = N at *
  have HN := Lib.hid hN
  clear hN
  go_enter Tryd.func47, Tryd.ntmps47
  go_wp2
  go_loopw [16] (fun i wr => ∃ k : Nat, k ≤ N ∧ i = .int .i64 k ∧ Holds3 wr w.heap.size (dotI a b k) ∧ Below w.heap.size w wr) (fun i _ => N - (intOf i).toNat)
  case atStart => exact ⟨0, by omega, rfl, heap_alloc_new w _, (Below.refl _ _).alloc (Nat.le_refl _) _⟩
  case round =>
    obtain ⟨k, hk, rfl, hB, hb⟩ := hrel
    obtain ⟨c0, c1, c2'⟩ := hB.cells
    have f0 := hB.free 0
    have f1 := hB.free 1
    have f2 := hB.free 2
    have hlt3 := hB.lt
    by_cases hlt : k < N
    · obtain ⟨ad, rfl, hadb, hc⟩ := (hA.below hb) (by have := HN.out; omega)
      have hcell := hc k (by have := HN.out; omega)
      obtain ⟨ad2, rfl, hadb2, hcc⟩ := (hA2.below hb) (by have := HL.out; omega)
      have hcell2 := hcc k (by have := HL.out; omega)
      have HX := Lib.hid (getD_i64 ha k)
      have HY := Lib.hid (getD_i64 hb0 k)
      have HT : Hid (dotI a b (k + 1) = dotI a b k + a.getD k 0 * b.getD k 0) := rfl
      generalize a.getD k 0 = x at *
      generalize b.getD k 0 = y at *
      generalize dotI a b k = S at *
      have hadk : (ad2.add k).block < wr.heap.size := by rw [add_block]; omega
      clear hc hcc ha hb0 hA hA2
      have n1 : w.heap.size < wr.heap.size + 1 := by omega
      have n2 : w.heap.size < wr.heap.size + 1 + 1 := by omega
      have n3 : w.heap.size < wr.heap.size + 1 + 1 + 1 := by omega
      have n4 : w.heap.size < wr.heap.size + 1 + 1 + 1 + 1 := by omega
      have HB := Lib.hid hB
      clear hB
      go_wp2
      go_region_with (first | (go_at_call 65; refine (num_product x y HX.out HY.out _).mono ?_; rintro e w' ⟨rfl, d0, rfl⟩) | (go_at_call 64; refine (plus_tt S (x * y) _).mono ?_; rintro e w' ⟨rfl, d1, d2, d3, rfl⟩))
      all_goals
        go_wp2
        refine ⟨⟨k + 1, by omega, by go_num, ?_, ?_⟩, by simp [intOf]; omega⟩
        · rw [HT.out]
          exact (((((HB.out.store (S + x * y)).alloc _).alloc _).alloc _).alloc _)
        · exact (((((((((((hb.setCell (p := ⟨w.heap.size, 0, none⟩) (Nat.le_refl _) _).setCell (p := ⟨w.heap.size, 1, none⟩) (Nat.le_refl _) _).setCell (p := ⟨w.heap.size, 2, none⟩) (Nat.le_refl _) _).alloc (by simp; omega) _).alloc (by simp; omega) _).alloc (by simp; omega) _).alloc (by simp; omega) _).drew).drew).drew).drew)
    · have hS : Hid (dotI a b k = dotI a b N) := by show _ = _; rw [show k = N from by omega]
      have hs := dotI_bd a b ha hb0 k
      have hN : N191 (dotI a b k) := by unfold N191; omega
      clear hs
      generalize dotI a b k = S at *
      clear ha hb0 hA hA2 hB
      go_wp2_with (go_at_call 66; refine (number_tt S hN _).mono ?_; rintro e w' ⟨rfl, hb2⟩)
      go_ret2
      rw [hS.out]
      exact ⟨rfl, hb.trans (hb2.mono (by omega))⟩
end Go.Proofs.YtbnpbflndnjmcaaDoor
