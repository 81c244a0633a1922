/- Contracts of copseref01: Add, Sub, Mul. -/
import Derived.Test.YtbnpbflndnjmcaaBigZ
import Derived.Test.YtbnpbflndnjmcaaBigF
import Derived.Test.YtbnpbflndnjmcaaNumS
namespace Go.Proofs.Ytbnpbflndnjmcaa
open Go.RowKit

theorem len_i64 {a : Int} (h : I64 a) : (digs a.natAbs).length ≤ 4 := digs_len _ 4 (by unfold I64 at h; unfold pw; omega)
theorem len_sum {a b : Int} (h : I64 a) (g : I64 b) : (digs (a + b).natAbs).length ≤ 5 := digs_len _ 5 (by unfold I64 at h g; unfold pw; omega)
theorem len_prod {a b : Int} (h : I64 a) (g : I64 b) : (digs (a * b).natAbs).length ≤ 8 := digs_len _ 8 (by have := mul_bd a b h g; unfold pw; omega)

/-- Turn, then Both: a less b -/
theorem turn_b (neg : Bool) (n : Int) (A : Option Addr) (c : Nat) (w : World) (hs : SgnOf neg n) (hA : Lies w w.heap.size A (digs n.natAbs)) :
    Calls Try.prog 49 #[.agg #[.bool neg, .slice A (digs n.natAbs).length c]] w fun e w' => ∃ neg' A' c', e = .returned (.agg #[.bool neg', .slice A' (digs n.natAbs).length c']) ∧ SgnOf neg' (-n) ∧ Lies w' w'.heap.size A' (digs n.natAbs) ∧ Below w.heap.size w w' :=
  (turn_z neg n A c w hs hA).mono fun e w' ⟨n5, A5, c5, he, s5, L5, b5⟩ => by
    rw [Int.natAbs_neg] at he L5
    exact ⟨n5, A5, c5, he, s5, L5, b5⟩
theorem both_b (na nb : Bool) (x y : Int) (A A2 : Option Addr) (ca cb : Nat) (w : World) (sx : SgnOf na x) (sy : SgnOf nb (-y)) (hA : Lies w w.heap.size A (digs x.natAbs)) (hB : Lies w w.heap.size A2 (digs y.natAbs)) (hl : (digs x.natAbs).length + (digs y.natAbs).length ≤ 100000) :
    Calls Try.prog 46 #[.agg #[.bool na, .slice A (digs x.natAbs).length ca], .agg #[.bool nb, .slice A2 (digs y.natAbs).length cb]] w (GivesZ (x - y) w) := by
  have h := both_z na nb x (-y) A A2 ca cb w sx sy hA (by rw [Int.natAbs_neg]; exact hB) (by rw [Int.natAbs_neg]; exact hl)
  rw [Int.natAbs_neg, ← Int.sub_eq_add_neg] at h
  exact h
end Go.Proofs.Ytbnpbflndnjmcaa
