/- How a list of numbers lies in memory; own rows. -/
import Derived.Test.YtbnpbflndnjmcaaDoorNumX
import Derived.Laws.Rows
import Derived.OneCell
namespace Go.Proofs.YtbnpbflndnjmcaaDoor
open Go.RowKit
/-- the numbers of l lie from A on, in a block below B -/
def Lies (w : World) (B : Nat) (A : Option Addr) (l : List Int) : Prop :=
  0 < l.length → ∃ ad : Addr, A = some ad ∧ ad.block < B ∧ ∀ j, j < l.length → w.cell? (ad.add j) = some (.int .i64 (l.getD j 0))
theorem add_block (a : Addr) (n : Nat) : (a.add n).block = a.block := by unfold Addr.add; split <;> rfl
theorem Lies.below {w w' : World} {B : Nat} {A : Option Addr} {l : List Int} (h : Lies w B A l) (hb : Below B w w') : Lies w' B A l := fun h0 => by
  obtain ⟨ad, e, hB, hc⟩ := h h0
  exact ⟨ad, e, hB, fun j hj => (hb.cell (by rw [add_block]; exact hB)).trans (hc j hj)⟩
theorem Lies.mono {w : World} {B B' : Nat} {A : Option Addr} {l : List Int} (h : Lies w B A l) (hB : B ≤ B') : Lies w B' A l := fun h0 => by
  obtain ⟨ad, e, hb, hc⟩ := h h0
  exact ⟨ad, e, by omega, hc⟩
theorem Lies.nil {w : World} {B : Nat} {A : Option Addr} : Lies w B A [] := fun h => absurd h (by simp)

theorem Lies.setCell {w : World} {B : Nat} {A : Option Addr} {l : List Int} (h : Lies w B A l) {p : Addr} (hp : ∀ n, w.cell? p ≠ some (.int .i64 n)) (u : Value) : Lies (w.setCell p u) B A l := fun h0 => by
  obtain ⟨ad, e, hb, hc⟩ := h h0
  refine ⟨ad, e, hb, fun j hj => ?_⟩
  rw [World.cell?_setCell_other w p (ad.add j) u (fun e2 => hp _ (by rw [e2]; exact hc j hj))]
  exact hc j hj

theorem alloc_size' (w : World) (o : Obj) : (w.alloc o).heap.size = w.heap.size + 1 := by simp
/-- block g holds just these cells -/
def Box (w : World) (g : Nat) (cs : Array Value) (t : TypeId) : Prop := w.heap[g]? = some (.cells cs t (0, 0))
theorem Box.new (w : World) (cs : Array Value) (t : TypeId) : Box (w.alloc (.cells cs t)) w.heap.size cs t := heap_alloc_new w _
theorem Box.lt {w : World} {g : Nat} {cs : Array Value} {t : TypeId} (h : Box w g cs t) : g < w.heap.size := by
  rcases Nat.lt_or_ge g w.heap.size with hlt | hge
  · exact hlt
  · unfold Box at h; rw [Array.getElem?_eq_none hge] at h; cases h
theorem Box.alloc {w : World} {g : Nat} {cs : Array Value} {t : TypeId} (h : Box w g cs t) (o : Obj) : Box (w.alloc o) g cs t := (Below.heap_alloc w o g h.lt).trans h
theorem Box.below {w w' : World} {g B : Nat} {cs : Array Value} {t : TypeId} (h : Box w g cs t) (hb : Below B w w') (hg : g < B) : Box w' g cs t := (hb.block g hg).trans h
theorem Box.drewN {w : World} {g : Nat} {cs : Array Value} {t : TypeId} (h : Box w g cs t) (n : Nat) : Box (w.drewN n) g cs t := h
theorem Box.cell {w : World} {g : Nat} {cs : Array Value} {t : TypeId} (h : Box w g cs t) (i : Nat) : w.cell? ⟨g, i, none⟩ = cs[i]? := cell_of_row w g i cs t (0, 0) h
theorem Box.free {w : World} {g : Nat} {cs : Array Value} {t : TypeId} (h : Box w g cs t) (i : Nat) : w.frozen? ⟨g, i, none⟩ = false := by
  unfold Box at h; simp [World.frozen?, h]
/-- the two cells of a box of two, and that they may be written -/
theorem Box.two {w : World} {g : Nat} {a b : Value} {t : TypeId} (h : Box w g #[a, b] t) :
    w.cell? ⟨g, 0, none⟩ = some a ∧ w.cell? ⟨g, 1, none⟩ = some b ∧ w.frozen? ⟨g, 0, none⟩ = false ∧ w.frozen? ⟨g, 1, none⟩ = false :=
  ⟨h.cell 0, h.cell 1, h.free 0, h.free 1⟩
/-- what lies elsewhere lies still, behind a store into a box of a bool and a list -/
theorem Lies.stored {w : World} {B g : Nat} {A : Option Addr} {l : List Int} {b : Bool} {A2 : Option Addr} {n c : Nat} {t : TypeId} (h : Lies w B A l) (hx : Box w g #[.bool b, .slice A2 n c] t) (u v : Value) :
    Lies ((w.setCell ⟨g, 0, none⟩ u).setCell ⟨g, 1, none⟩ v) B A l := by
  refine (h.setCell (p := ⟨g, 0, none⟩) (fun n he => ?_) u).setCell (p := ⟨g, 1, none⟩) (fun n he => ?_) v
  · rw [hx.two.1] at he; cases he
  · rw [World.cell?_setCell_other w ⟨g, 0, none⟩ ⟨g, 1, none⟩ u (by simp), hx.two.2.1] at he; cases he
end Go.Proofs.YtbnpbflndnjmcaaDoor
