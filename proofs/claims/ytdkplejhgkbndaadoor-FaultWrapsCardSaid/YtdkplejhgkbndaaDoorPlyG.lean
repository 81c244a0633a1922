/- What the laws of layer 4 use of what acts make. -/
import Derived.Test.YtdkplejhgkbndaaDoorFauY
import Derived.Test.YtdkplejhgkbndaaDoorPlyC
import Derived.Test.YtdkplejhgkbndaaDoorPlyF
namespace Go.Proofs.YtdkplejhgkbndaaDoor
open Go.RowKit Go.Extern.Stop Go.Stop Go.Extern
set_option linter.unusedVariables false
set_option linter.unusedSimpArgs false

def G4 (w : World) : Prop := Tab4 w ∧ Glob w ∧ 1 < w.heap.size
theorem G4.below {w w' : World} (h : G4 w) (hb : Below w.heap.size w w') : G4 w' := ⟨h.1.below hb h.2.2, h.2.1.below (by have := h.2.2; omega) hb, Nat.lt_of_lt_of_le h.2.2 hb.size⟩
theorem below_refl_drewN (w : World) (n : Nat) : Below w.heap.size w (w.drewN n) := below_dN (Below.refl _ _) n
theorem own_in {w : World} {B s n : Nat} {E : TypeId} {v : Value} {xs : List Value} (h : w.ownsRow B E s v n xs) (h0 : 0 < n) : ∃ g c, v = .slice (some ⟨g, 0, none⟩) n c ∧ g < w.heap.size ∧ ∀ i u, xs[i]? = some u → w.cell? ((⟨g, 0, none⟩ : Addr).add i) = some u := by
  have hh := h
  obtain ⟨g, c, rfl, hc, hcell⟩ := own_cells h h0
  refine ⟨g, c, rfl, ?_, hcell⟩
  rcases hh.2 with ⟨h1, _⟩ | ⟨g', cap, cur, h1, hb, hx, _⟩
  · cases h1
  · cases h1; exact (Array.getElem?_eq_some_iff.1 hx).1
theorem own_lies {w : World} {B : Nat} {E : TypeId} {v : Value} {l : List Int} (h : w.ownsRow B E 1 v l.length (litJ l)) : ∃ A c, v = .slice A l.length c ∧ Lies w w.heap.size A l := by
  rcases Nat.eq_zero_or_pos l.length with h0 | h0
  · obtain ⟨A, c, rfl⟩ := pc_shape h
    exact ⟨A, c, rfl, fun h1 => absurd h1 (by omega)⟩
  · obtain ⟨g, c, rfl, hg, hcell⟩ := own_in h h0
    exact ⟨_, c, rfl, fun _ => ⟨⟨g, 0, none⟩, rfl, hg, fun j hj => hcell j _ (litJ_get l j hj)⟩⟩
theorem two_pow_12 {i : Nat} (h : i < 12) : 2 ^ i ≤ 4096 := by
  have : 2 ^ i ≤ 2 ^ 12 := Nat.pow_le_pow_right (by decide) (by omega)
  omega
theorem LiesA.mono {w : World} {B B' : Nat} {A : Option Addr} {l : List Ac} (h : LiesA w B A l) (hB : B ≤ B') : LiesA w B' A l := fun h0 => by
  obtain ⟨ad, e, h1, hc⟩ := h h0
  exact ⟨ad, e, Nat.lt_of_lt_of_le h1 hB, hc⟩
/-- what play gives, in the form that the laws use -/
theorem play_out {B : Nat} {W w : World} {vm vn vp : Value} {T : List FT} {bs : List Nat} {N : List Nd} {P : List Int} (h : PL B W vm vn vp T bs N P w) (hf : Fit T N P) (hl : bs.length = T.length) (h12 : T.length ≤ 12) (hG : G4 w) :
    ∃ (M : Nat) (Am : Option Addr) (cm : Nat) (An : Option Addr) (cn : Nat) (b : Nat → Nat), vm = .slice Am M cm ∧ vn = .slice An M cn ∧ M ≤ 12 ∧
      (∀ i, i < M → (codesF (T.getD i tD)).length ≤ 100001) ∧
      (∀ i, i < M → ∃ ad, Am = some ad ∧ ∀ W', Below w.heap.size w W' → W'.cell? (ad.add i) = some (ptr (b i) 0)) ∧
      (∀ i W', i < M → Below w.heap.size w W' → IsFault W' (T.getD i tD) (b i)) ∧
      (∀ i, i < M → size (T.getD i tD) ≤ 100000) ∧
      (∀ i W', i < M → Below w.heap.size w W' → Calls Tryd.prog 17 #[.slice An M cn, .int .i64 i] W' (GivesK (codesF (T.getD i tD)) W')) := by
  have hsz : ∀ i, i < T.length → size (T.getD i tD) ≤ 100000 := fun i hi => by
    have h1 := (hf.2.2.2.1 i hi).1
    have h2 := two_pow_12 (show i < 12 by omega)
    omega
  obtain ⟨An, cn, rfl, hN⟩ := own_liesN h.2.1
  obtain ⟨Am, cm, rfl⟩ := pc_shape h.1
  have hB := h.1
  have hF := h.2.2.2.1
  refine ⟨T.length, Am, cm, An, cn, fun i => bs.getD i 0, by rw [hl], by rw [hf.1], h12, fun i hi => ?_, fun i hi => ?_, fun i W' hi hb => (hF i hi).below hb, hsz, fun i W' hi hb => ?_⟩
  · have h1 := codesF_len (T.getD i tD)
    have h2 := hsz i hi
    omega
  · obtain ⟨g, c, e, hg, hcell⟩ := own_in hB (by omega)
    simp only [Value.slice.injEq] at e
    refine ⟨⟨g, 0, none⟩, e.1, fun W' hb => (hb.cell (by rw [add_block]; exact hg)).trans (hcell i _ (litB_get bs i (by omega)))⟩
  · have := ref_codes (fun i hi => (hf.2.2.1 i hi).1) hsz hf.1 An cn (i + 1) i (by omega) hi W' ((hN.below hb).mono hb.size)
    rwa [hf.1] at this
/-- .. Has and Of, by the codes -/
theorem Has_codes (t : FT) (b : Nat) (w : World) (hf : IsFault w t b) (hG : G4 w) (hs : size t ≤ 100000) (k : Int) :
    Calls Tryd.prog 19 #[ptr b 0, .int .i64 k] w fun e w' => e = .returned (.bool ((codesF t).any (fits (.code k)))) ∧ Below w.heap.size w w' := by
  rw [← hasF_codes]; exact fau_Has t b w hf hG.2.1 (by omega) k
theorem Of_codes (t : FT) (b : Nat) (w : World) (hf : IsFault w t b) (hG : G4 w) (hs : size t ≤ 100000) (k : Int) :
    Calls Tryd.prog 20 #[ptr b 0, .int .i64 k] w fun e w' => e = .returned (.bool ((codesF t).any (fits (.cls k)))) ∧ Below w.heap.size w w' := by
  rw [← hasF_codes]; exact fau_Of t b w hf hG.2.1 (by omega) k
end Go.Proofs.YtdkplejhgkbndaaDoor
