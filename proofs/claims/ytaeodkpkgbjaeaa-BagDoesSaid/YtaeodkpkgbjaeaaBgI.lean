/- Layer 18 (bag): a bag and the reference's list side by side; the law's step 'do'. -/
import Derived.Test.YtaeodkpkgbjaeaaBgH
namespace Go.Proofs.Ytaeodkpkgbjaeaa
open Go.RowKit
set_option linter.unusedVariables false
set_option linter.unusedSimpArgs false

theorem LiesS.wrs {G : List Nat} {w w' : World} {A : Option Addr} {l : List PQ} (h : LiesS w w.heap.size A l) (hw : WrS G w w') (hA : ∀ ad, A = some ad → ad.block ∉ G) : LiesS w' w'.heap.size A l := fun h0 => by
  obtain ⟨ad, e, hb, hc⟩ := h h0
  have hblk := hw.block ad.block hb (hA ad e)
  have hcell : ∀ k, w'.cell? (ad.add k) = w.cell? (ad.add k) := fun k => by
    unfold World.cell?
    rw [add_block, hblk]
  exact ⟨ad, e, Nat.lt_of_lt_of_le hb hw.size, fun j hj => ⟨(hcell _).trans (hc j hj).1, (hcell _).trans (hc j hj).2⟩⟩
/-- a bag (its scores lb) and the reference's list lr (at A), beside boxes, in memory that is newer than w0 -/
def LvR (w0 : World) (g : Nat) (bx : List (Nat × Array Value)) (lb : List PQ) (A : Option Addr) (ca : Nat) (lr : List PQ) (W : World) : Prop :=
  ∃ O, BagAt W O g lb ∧ (∀ x ∈ bx, x.1 ∉ O ∧ Box W x.1 x.2 24) ∧ (∀ x ∈ O, w0.heap.size ≤ x) ∧ Below w0.heap.size w0 W ∧ (∀ ad, A = some ad → ad.block ∉ O ∧ ad.block < W.heap.size) ∧ LiesS W W.heap.size A lr ∧ lr.length ≤ ca ∧ (A = none → ca = 0)
theorem LvR.below {w0 W W' : World} {g : Nat} {bx : List (Nat × Array Value)} {lb lr : List PQ} {A : Option Addr} {ca : Nat} (h : LvR w0 g bx lb A ca lr W) (hb : Below W.heap.size W W') : LvR w0 g bx lb A ca lr W' := by
  obtain ⟨O, h1, h2, h4, h5, h6, h7, h8, h9⟩ := h
  exact ⟨O, h1.below hb, fun x hx => ⟨(h2 x hx).1, (h2 x hx).2.below hb (h2 x hx).2.lt⟩, h4, h5.trans (hb.mono h5.size), fun ad ea => ⟨(h6 ad ea).1, Nat.lt_of_lt_of_le (h6 ad ea).2 hb.size⟩, (h7.below hb).mono hb.size, h8, h9⟩
theorem LvR.lvs {w0 W : World} {g : Nat} {bx : List (Nat × Array Value)} {lb lr : List PQ} {A : Option Addr} {ca : Nat} (h : LvR w0 g bx lb A ca lr W) : LvS w0 g bx lb W := by
  obtain ⟨O, h1, h2, h4, h5, h6, h7, h8, h9⟩ := h
  exact ⟨O, h1, h2, h4, h5⟩
theorem LvR.ups {w0 W : World} {g : Nat} {bx : List (Nat × Array Value)} {lb lr : List PQ} {A : Option Addr} {ca : Nat} (h : LvR w0 g bx lb A ca lr W) : UpS lb ∧ lb.length ≤ 4096 := by
  obtain ⟨O, ⟨gB, c, bs, -, -, -, -, -, -, h1, h2⟩, -⟩ := h
  exact ⟨h1, h2⟩
/-- the bag is new, the list is none -/
theorem LvR.start {w0 W : World} {g : Nat} {bx : List (Nat × Array Value)} (h : LvS w0 g bx [] W) : LvR w0 g bx [] none 0 [] W := by
  obtain ⟨O, h1, h2, h4, h5⟩ := h
  exact ⟨O, h1, h2, h4, h5, (fun ad h => by cases h), LiesS.nil, Nat.le_refl _, fun _ => rfl⟩
/-- the reference's step -/
theorem LvR.ref {w0 W W' : World} {g : Nat} {bx : List (Nat × Array Value)} {lb lr lr' : List PQ} {A : Option Addr} {ca : Nat} {x : Int} {e : Ending} (h : LvR w0 g bx lb A ca lr W) (hR : RefR A lr' x W e W') :
    ∃ A' ca', e = .returned (.tuple #[.slice A' lr'.length ca', .int .i64 x]) ∧ LvR w0 g bx lb A' ca' lr' W' := by
  obtain ⟨O, h1, h2, h4, h5, h6, h7, h8, h9⟩ := h
  obtain ⟨A', ca', he, k1, k2, k3, hb, k4⟩ := hR
  refine ⟨A', ca', he, O, h1.below hb, fun x hx => ⟨(h2 x hx).1, (h2 x hx).2.below hb (h2 x hx).2.lt⟩, h4, h5.trans (hb.mono h5.size), fun ad ea => ?_, k3, k1, k2⟩
  rcases k4 with k4 | k4
  · have := h6 ad (by rw [← k4]; exact ea)
    exact ⟨this.1, Nat.lt_of_lt_of_le this.2 hb.size⟩
  · exact ⟨fun hm => by have := (k4 ad ea).1; have := h1.lt _ hm; omega, (k4 ad ea).2⟩
theorem LvR.bag2 {w0 W W' : World} {g : Nat} {bx : List (Nat × Array Value)} {lb' lr : List PQ} {A : Option Addr} {ca : Nat} {x : Int} {e : Ending} {O : List Nat} {lb : List PQ} (h1 : BagAt W O g lb) (h2 : ∀ x ∈ bx, x.1 ∉ O ∧ Box W x.1 x.2 24) (h4 : ∀ x ∈ O, w0.heap.size ≤ x) (h5 : Below w0.heap.size w0 W) (h6 : ∀ ad, A = some ad → ad.block ∉ O ∧ ad.block < W.heap.size) (h7 : LiesS W W.heap.size A lr) (h8 : lr.length ≤ ca) (h9 : A = none → ca = 0)
    (hR : BgR W O g x lb' e W') : e = .returned (.int .i64 x) ∧ LvR w0 g bx lb' A ca lr W' := by
  obtain ⟨he, O', k1, k2, k3⟩ := hR
  refine ⟨he, O', k1, fun y hy => ⟨fun hx => ?_, k2.box (h2 y hy).2 (h2 y hy).1⟩, fun x hx => ?_, h5.trans (k2.low _ h5.size h4), fun ad ea => ⟨fun hm => ?_, Nat.lt_of_lt_of_le (h6 ad ea).2 k2.size⟩, h7.wrs k2 (fun ad ea => (h6 ad ea).1), h8, h9⟩
  · rcases k3 _ hx with g | g
    · exact (h2 y hy).1 g
    · have := (h2 y hy).2.lt; omega
  · rcases k3 _ hx with g | g
    · exact h4 x g
    · have := h5.size; omega
  · rcases k3 _ hm with g | g
    · exact (h6 ad ea).1 g
    · have := (h6 ad ea).2; omega
theorem LvR.list {w0 W : World} {g : Nat} {bx : List (Nat × Array Value)} {lb lr : List PQ} {A : Option Addr} {ca : Nat} (h : LvR w0 g bx lb A ca lr W) : LiesS W W.heap.size A lr ∧ lr.length ≤ ca ∧ (A = none → ca = 0) := by
  obtain ⟨O, h1, h2, h4, h5, h6, h7, h8, h9⟩ := h
  exact ⟨h7, h8, h9⟩
theorem lvr_all (w0 : World) (g : Nat) (bx : List (Nat × Array Value)) (lb lr : List PQ) (A : Option Addr) (ca : Nat) (W : World) (h : LvR w0 g bx lb A ca lr W) :
    Calls Try.prog 21 #[.pointer (some ⟨g, 0, none⟩)] W fun e w' => ∃ X cx, e = .returned (.slice X lb.length cx) ∧ LiesS w' w'.heap.size X lb ∧ LvR w0 g bx lb A ca lr w' := by
  have h0 := h
  obtain ⟨O, h1, _⟩ := h0
  refine (bag_all O g lb W h1).mono ?_
  rintro e w' ⟨⟨v, rfl, ho⟩, hb⟩
  obtain ⟨X, cx, rfl, _, _, hl, _⟩ := ho.sl
  exact ⟨X, cx, rfl, hl, h.below hb⟩
theorem lvr_kth_no (w0 : World) (g : Nat) (bx : List (Nat × Array Value)) (lb lr : List PQ) (A : Option Addr) (ca : Nat) (k : Int) (hk : k < 1 ∨ (lb.length : Int) < k) (W : World) (h : LvR w0 g bx lb A ca lr W) :
    Calls Try.prog 24 #[.pointer (some ⟨g, 0, none⟩), .int .i64 k] W fun e w' => e = .returned (.tuple #[.agg #[.int .i64 0, .int .i64 0], .int .i64 1]) ∧ Below W.heap.size W w' := by
  obtain ⟨O, h1, _⟩ := h
  exact bag_Kth_no O g lb k hk W h1
end Go.Proofs.Ytaeodkpkgbjaeaa
