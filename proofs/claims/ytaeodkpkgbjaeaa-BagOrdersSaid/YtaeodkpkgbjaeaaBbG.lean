/- Layer 18 (bag): lives. -/
import Derived.Test.YtaeodkpkgbjaeaaBbE
import Derived.Test.YtaeodkpkgbjaeaaBbF
namespace Go.Proofs.Ytaeodkpkgbjaeaa
open Go.RowKit
set_option linter.unusedVariables false
set_option linter.unusedSimpArgs false

/-- a bag of l beside boxes, in memory that is newer than w0 -/
def LvS (w0 : World) (g : Nat) (bx : List (Nat × Array Value)) (l : List PQ) (W : World) : Prop :=
  ∃ O, BagAt W O g l ∧ (∀ x ∈ bx, x.1 ∉ O ∧ Box W x.1 x.2 24) ∧ (∀ x ∈ O, w0.heap.size ≤ x) ∧ Below w0.heap.size w0 W
theorem LvS.below {w0 W W' : World} {g : Nat} {bx : List (Nat × Array Value)} {l : List PQ} (h : LvS w0 g bx l W) (hb : Below W.heap.size W W') : LvS w0 g bx l W' := by
  obtain ⟨O, h1, h2, h4, h5⟩ := h
  exact ⟨O, h1.below hb, fun x hx => ⟨(h2 x hx).1, (h2 x hx).2.below hb (h2 x hx).2.lt⟩, h4, h5.trans (hb.mono h5.size)⟩
theorem LvS.drew {w0 W : World} {g : Nat} {bx : List (Nat × Array Value)} {l : List PQ} (h : LvS w0 g bx l W) : LvS w0 g bx l W.drew := h.below (Below.refl _ _).drew
theorem LvS.drewN {w0 W : World} {g : Nat} {bx : List (Nat × Array Value)} {l : List PQ} (h : LvS w0 g bx l W) (k : Nat) : LvS w0 g bx l (W.drewN k) := h.below (below_drewN (Below.refl _ _) k)
theorem LvS.box {w0 W : World} {g gh : Nat} {cs : Array Value} {bx : List (Nat × Array Value)} {l : List PQ} (h : LvS w0 g bx l W) (hm : (gh, cs) ∈ bx) : Box W gh cs 24 := by
  obtain ⟨O, h1, h2, h4, h5⟩ := h
  exact (h2 _ hm).2
theorem LvS.cells {w0 W : World} {g gh : Nat} {a b : Value} {bx : List (Nat × Array Value)} {l : List PQ} (h : LvS w0 g ((gh, #[a, b]) :: bx) l W) : W.cell? ⟨gh, 0, none⟩ = some a ∧ W.cell? ⟨gh, 1, none⟩ = some b := by
  have := h.box (gh := gh) (cs := #[a, b]) (by simp)
  exact ⟨(this.cell 0).trans rfl, (this.cell 1).trans rfl⟩
/-- one box more -/
theorem LvS.more {w0 W : World} {g : Nat} {bx : List (Nat × Array Value)} {l : List PQ} (h : LvS w0 g bx l W) (cs : Array Value) : LvS w0 g (bx ++ [(W.heap.size, cs)]) l (W.alloc (.cells cs 24)) := by
  have hb : Below W.heap.size W (W.alloc (.cells cs 24)) := (Below.refl _ _).alloc (Nat.le_refl _) _
  obtain ⟨O, h1, h2, h4, h5⟩ := h
  refine ⟨O, h1.below hb, fun x hx => ?_, h4, h5.trans (hb.mono h5.size)⟩
  rcases List.mem_append.1 hx with g | g
  · exact ⟨(h2 x g).1, (h2 x g).2.below hb (h2 x g).2.lt⟩
  · rw [List.mem_singleton] at g
    subst g
    exact ⟨fun hx => by have := h1.lt _ hx; exact Nat.lt_irrefl _ this, Box.new _ _ _⟩
theorem LvS.of {w0 W W' : World} {g : Nat} {bx : List (Nat × Array Value)} {l l' : List PQ} {O : List Nat} {x : Int} {e : Ending} (h1 : BagAt W O g l) (h2 : ∀ x ∈ bx, x.1 ∉ O ∧ Box W x.1 x.2 24) (h4 : ∀ x ∈ O, w0.heap.size ≤ x) (h5 : Below w0.heap.size w0 W) (h : BgR W O g x l' e W') : e = .returned (.int .i64 x) ∧ LvS w0 g bx l' W' := by
  obtain ⟨he, O', k1, k2, k3⟩ := h
  refine ⟨he, O', k1, fun y hy => ⟨fun hx => ?_, k2.box (h2 y hy).2 (h2 y hy).1⟩, fun x hx => ?_, h5.trans (k2.low _ h5.size h4)⟩
  · rcases k3 _ hx with g | g
    · exact (h2 y hy).1 g
    · have := (h2 y hy).2.lt; omega
  · rcases k3 _ hx with g | g
    · exact h4 x g
    · have := h5.size; omega
theorem lv_add (w0 : World) (g gh : Nat) (a b : Value) (bx : List (Nat × Array Value)) (l l' : List PQ) (p q x : Int) (hp : I64 p) (hq : I64 q) (hx : addE l (p, q) = x) (hl : addL l (p, q) = l') (W : World) (h : LvS w0 g ((gh, #[a, b]) :: bx) l W) :
    Calls Try.prog 25 #[.pointer (some ⟨g, 0, none⟩), .agg #[.int .i64 p, .int .i64 q]] W fun e w' => e = .returned (.int .i64 x) ∧ (w'.cell? ⟨gh, 0, none⟩ = some a ∧ w'.cell? ⟨gh, 1, none⟩ = some b) ∧ Hid (LvS w0 g ((gh, #[a, b]) :: bx) l' w') := by
  obtain ⟨O, h1, h2, h4, h5⟩ := h
  subst hx; subst hl
  refine (bag_Add O g l p q hp hq W h1).mono ?_
  rintro e w' hR
  obtain ⟨he, hL⟩ := LvS.of h1 h2 h4 h5 hR
  exact ⟨he, hL.cells, hL⟩
theorem lv_drop (w0 : World) (g : Nat) (bx : List (Nat × Array Value)) (l l' : List PQ) (p q x : Int) (hp : I64 p) (hq : I64 q) (hx : dropE l (p, q) = x) (hl : dropL l (p, q) = l') (W : World) (h : LvS w0 g bx l W) :
    Calls Try.prog 27 #[.pointer (some ⟨g, 0, none⟩), .agg #[.int .i64 p, .int .i64 q]] W fun e w' => e = .returned (.int .i64 x) ∧ Hid (LvS w0 g bx l' w') := by
  obtain ⟨O, h1, h2, h4, h5⟩ := h
  subst hx; subst hl
  refine (bag_Drop O g l p q hp hq W h1).mono ?_
  rintro e w' hR
  obtain ⟨he, hL⟩ := LvS.of h1 h2 h4 h5 hR
  exact ⟨he, hL⟩
theorem lv_e1 : addE [] (1, 2) = 0 ∧ addL [] (1, 2) = [(1, 2)] := by decide
theorem lv_e2 : addE [(1, 2)] (3, 1) = 0 ∧ addL [(1, 2)] (3, 1) = [(3, 1), (1, 2)] := by decide
theorem lv_e3 : addE [(3, 1), (1, 2)] (1, 2) = 0 ∧ addL [(3, 1), (1, 2)] (1, 2) = [(3, 1), (1, 2), (1, 2)] := by decide
theorem lv_e4 : dropE [(3, 1), (1, 2), (1, 2)] (1, 3) = 4 ∧ dropL [(3, 1), (1, 2), (1, 2)] (1, 3) = [(3, 1), (1, 2), (1, 2)] := by decide
theorem lv_e5 : rkL [(3, 1), (1, 2), (1, 2)] (1, 2) = 1 ∧ rkS [(3, 1), (1, 2), (1, 2)] (1, 2) = 2 ∧ rkE (1, 2) = 0 := by decide
set_option maxRecDepth 100000 in
theorem bag_add0 (p q : Int) (hp : I64 p) (hq : I64 q) (w : World) :
    Calls Try.prog 25 #[.pointer none, .agg #[.int .i64 p, .int .i64 q]] w fun e w' => e = .returned (.int .i64 7) ∧ Below w.heap.size w w' := by
  have J0 := Lib.hid ((Keeps.start w).alloc #[.int .i64 p, .int .i64 q] 24)
  obtain ⟨s0, s1, _, _⟩ := J0.out.head.two
  have K1 := Lib.hid (fun W => bag_check none p q hp hq W)
  rw [if_pos rfl] at K1
  go_enter Try.func25, Try.ntmps25
  go_wp2_with fail
  refine (K1.out _).mono ?_
  rintro e w1 ⟨rfl, b1⟩
  have J1 := Lib.hid (J0.out.below b1)
  clear b1
  go_wp2
  go_ret
  exact ⟨rfl, J1.out.2.1⟩
end Go.Proofs.Ytaeodkpkgbjaeaa
