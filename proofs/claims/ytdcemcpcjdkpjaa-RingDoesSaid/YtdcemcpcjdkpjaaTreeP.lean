import Derived.Test.YtdcemcpcjdkpjaaTreeI

/-! Layer 10: the points with these indices. -/
namespace Go.Proofs.Ytdcemcpcjdkpjaa
open Go.RowKit
set_option linter.unusedVariables false
set_option linter.unusedSimpArgs false

theorem lies_atT {w : World} {B : Nat} {A : Option Addr} {l : List Int} (h : Lies w B A l) {k : Nat} (hk : k < l.length) :
    ∃ ad : Addr, A = some ad ∧ ad.block < B ∧ w.cell? (ad.add k) = some (.int .i64 (l.getD k 0)) := by
  obtain ⟨ad, e, hb, hc⟩ := h (by omega)
  exact ⟨ad, e, hb, hc k hk⟩
/-- the rows at these indices -/
def selR (R : List Row) (I : List Int) : List Row := I.map fun i => R.getD i.toNat row0
theorem selR_len (R : List Row) (I : List Int) : (selR R I).length = I.length := by simp [selR]
theorem selR_at (R : List Row) (I : List Int) {j : Nat} (h : j < I.length) : (selR R I).getD j row0 = R.getD (I.getD j 0).toNat row0 := by
  simp [selR, List.getD, List.getElem?_map, h]
theorem selR_of {R : List Row} {I : List Int} {S : List Row} (h1 : S.length = I.length) (h2 : ∀ j, j < I.length → S.getD j row0 = R.getD (I.getD j 0).toNat row0) : S = selR R I := by
  apply List.ext_getElem (by rw [h1, selR_len])
  intro j g1 g2
  have h3 := h2 j (by omega)
  rw [← selR_at R I (by omega)] at h3
  simpa [List.getD, g1, g2] using h3
/-- block g holds these rows -/
def OwnR (w : World) (g : Nat) (S : List Row) : Prop := Box w g (S.map rowV).toArray 30
theorem OwnR.at {w : World} {g : Nat} {S : List Row} (h : OwnR w g S) {k : Nat} (hk : k < S.length) : w.cell? ⟨g, k, none⟩ = some (rowV (S.getD k row0)) := by
  refine (Box.cell h k).trans ?_
  simp [List.getD, hk]
theorem OwnR.set {w : World} {g : Nat} {S : List Row} (h : OwnR w g S) (k : Nat) (r : Row) : OwnR (w.setCell ⟨g, k, none⟩ (rowV r)) g (S.set k r) := by
  have := Box.set h k (rowV r)
  simp only [List.setIfInBounds_toArray] at this
  rw [← List.map_set] at this
  exact this
theorem OwnR.free {w : World} {g : Nat} {S : List Row} (h : OwnR w g S) (i : Nat) : w.frozen? ⟨g, i, none⟩ = false := Box.free h i
theorem OwnR.below {w w' : World} {g : Nat} {S : List Row} (h : OwnR w g S) (hb : Below w.heap.size w w') : OwnR w' g S := Box.below h hb h.lt
theorem info_row : (Try.prog.info? 30).map (fun i => (i.zero, i.size, i.bytes)) = some (some (.slice none 0 0), 1, 24) := by kernel_rfl
/-- a new row of nil rows -/
theorem make_rows {wr : World} {ops : Array Oper} {rest : List Oper} {o : Oper} {a : Act} {Q : Exit → Act → World → Prop} (hgd : o.guard = none) (l c : Operand)
    (ho : o.op = Op.makeSlice 48 l c) (n : Nat) (hl : a.eval l = .int .i64 n) (hc : a.eval c = .int .i64 n) (hn : n ≤ 1000000)
    (h : ∀ w', OwnR w' wr.heap.size (List.replicate n row0) → Below wr.heap.size wr w' → wpList Try.prog ops Q rest (a.put o.dst (.slice (some ⟨wr.heap.size, 0, none⟩) n n)) w') :
    wpList Try.prog ops Q (o :: rest) a wr := by
  obtain ⟨i0, hi, hz0, hz1, hz2⟩ := info_parts5 info_row
  refine wpList_make_full wr hgd l c 48 ho wr.heap.size 30 i0 (.slice none 0 0) 1 Try.underlying48 hi hz0 hz1 .i64 .i64 n n n hl hc rfl rfl (by rw [hz2]; omega) (by unfold maxLen; omega) (Nat.le_refl _) ?_
  intro w' h1 h2
  refine h w' ?_ ((Below.refl _ _).grown h2 (Nat.le_refl _) (fun k hk => by cases hk))
  have hm : (madeCells (Value.slice none 0 0).cells (n * 1)).toList = (List.replicate n row0).map rowV := by
    rw [Nat.mul_one]
    refine (toList_madeCells_one _ n).trans ?_
    simp [rowV]
  rw [hm] at h1
  rcases h1.2 with ⟨e, _⟩ | ⟨g, cap, cur, e, hb, hh, hnc, hm, hsz, hx⟩
  · cases e
  · cases e
    have : cur = ((List.replicate n row0).map rowV).toArray := by
      rw [← hx]
      apply Array.ext'
      simp only [List.toList_toArray]
      rw [List.take_of_length_le (by simp [hsz])]
    subst this
    exact hh
end Go.Proofs.Ytdcemcpcjdkpjaa
