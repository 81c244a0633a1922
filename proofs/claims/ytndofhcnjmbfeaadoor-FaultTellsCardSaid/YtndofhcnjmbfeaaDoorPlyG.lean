/- What the laws of layer 4 use of what acts make. -/
import Derived.Test.YtndofhcnjmbfeaaDoorFauY
import Derived.Test.YtndofhcnjmbfeaaDoorPlyC
import Derived.Test.YtndofhcnjmbfeaaDoorPlyF
namespace Go.Proofs.YtndofhcnjmbfeaaDoor
open Go.RowKit Go.Extern.Stop Go.Stop Go.Extern
set_option linter.unusedVariables false
set_option linter.unusedSimpArgs false

def G4 (w : World) : Prop := Tab4 w ∧ Glob w ∧ 1 < w.heap.size
theorem G4.below {w w' : World} (h : G4 w) (hb : Below w.heap.size w w') : G4 w' := ⟨h.1.below hb h.2.2, h.2.1.below (by have := h.2.2; omega) hb, Nat.lt_of_lt_of_le h.2.2 hb.size⟩
theorem below_refl_drewN (w : World) (n : Nat) : Below w.heap.size w (w.drewN n) := below_dN (Below.refl _ _) n
theorem own_in {w : World} {B s n : Nat} {E : TypeId} {v : Value} {xs : List Value} (h : w.ownsRow B E s v n xs) (h0 : 0 < n) : ∃ g c, v = .slice (some ⟨g, 0, none⟩) n c ∧ g < w.heap.size ∧ ∀ i u, xs[i]? = some u → w.cell? ((⟨g, 0, none⟩ : Addr).add i) = some u := by
  have hh := h
  obtain ⟨g, c, rfl, hc, hcell⟩ := own_cells h h0
  refine ⟨g, c, rfl, ?_, hcell⟩
  rcases hh.2 with ⟨h1, _⟩ | ⟨g', cap, cur, h1, hb, hx, _⟩
  · cases h1
  · cases h1; exact (Array.getElem?_eq_some_iff.1 hx).1
theorem own_lies {w : World} {B : Nat} {E : TypeId} {v : Value} {l : List Int} (h : w.ownsRow B E 1 v l.length (litJ l)) : ∃ A c, v = .slice A l.length c ∧ Lies w w.heap.size A l := by
  rcases Nat.eq_zero_or_pos l.length with h0 | h0
  · obtain ⟨A, c, rfl⟩ := pc_shape h
    exact ⟨A, c, rfl, fun h1 => absurd h1 (by omega)⟩
  · obtain ⟨g, c, rfl, hg, hcell⟩ := own_in h h0
    exact ⟨_, c, rfl, fun _ => ⟨⟨g, 0, none⟩, rfl, hg, fun j hj => hcell j _ (litJ_get l j hj)⟩⟩
theorem two_pow_12 {i : Nat} (h : i < 12) : 2 ^ i ≤ 4096 := by
  have : 2 ^ i ≤ 2 ^ 12 := Nat.pow_le_pow_right (by decide) (by omega)
  omega
theorem LiesA.mono {w : World} {B B' : Nat} {A : Option Addr} {l : List Ac} (h : LiesA w B A l) (hB : B ≤ B') : LiesA w B' A l := fun h0 => by
  obtain ⟨ad, e, h1, hc⟩ := h h0
  exact ⟨ad, e, Nat.lt_of_lt_of_le h1 hB, hc⟩
/-- .. Has and Of, by the codes -/
theorem Has_codes (t : FT) (b : Nat) (w : World) (hf : IsFault w t b) (hG : G4 w) (hs : size t ≤ 100000) (k : Int) :
    Calls Tryd.prog 17 #[ptr b 0, .int .i64 k] w fun e w' => e = .returned (.bool ((codesF t).any (fits (.code k)))) ∧ Below w.heap.size w w' := by
  rw [← hasF_codes]; exact fau_Has t b w hf hG.2.1 (by omega) k
theorem Of_codes (t : FT) (b : Nat) (w : World) (hf : IsFault w t b) (hG : G4 w) (hs : size t ≤ 100000) (k : Int) :
    Calls Tryd.prog 18 #[ptr b 0, .int .i64 k] w fun e w' => e = .returned (.bool ((codesF t).any (fits (.cls k)))) ∧ Below w.heap.size w w' := by
  rw [← hasF_codes]; exact fau_Of t b w hf hG.2.1 (by omega) k
end Go.Proofs.YtndofhcnjmbfeaaDoor
