/- Layer 18 (bag): the blocks in memory of their own. -/
import Derived.Test.YtaeodkpkgbjaeaaBagH
namespace Go.Proofs.Ytaeodkpkgbjaeaa
open Go.RowKit
set_option linter.unusedVariables false
set_option linter.unusedSimpArgs false

/-- a block with its whole room -/
def BlkAt (w : World) (b : Blk) : Prop := ∃ sp : List Value, (celS b.2 ++ sp).length = 128 ∧ Box w b.1 (celS b.2 ++ sp).toArray 24
/-- the row of blocks -/
def RowAt (w : World) (gB c : Nat) (bs : List Blk) : Prop := ∃ (sp : List Value) (T : TypeId), bs.length + sp.length = c ∧ c ≤ maxLen ∧ Box w gB (bs.map blkV ++ sp).toArray T
/-- all blocks of memory that they are in -/
def memB (gB : Nat) (bs : List Blk) : List Nat := gB :: bs.map (fun b => b.1)
structure BksAt (w : World) (gB c : Nat) (bs : List Blk) : Prop where
  row : RowAt w gB c bs
  blk : ∀ b ∈ bs, BlkAt w b
  nd : (memB gB bs).Nodup
/-- nothing but the blocks of G changes -/
structure WrS (G : List Nat) (w w' : World) : Prop where
  os : w'.os = w.os
  tape : w'.tape = w.tape
  output : w'.output = w.output
  size : w.heap.size ≤ w'.heap.size
  block : ∀ k, k < w.heap.size → k ∉ G → w'.heap[k]? = w.heap[k]?
theorem WrS.refl (G : List Nat) (w : World) : WrS G w w := ⟨rfl, rfl, rfl, Nat.le_refl _, fun _ _ _ => rfl⟩
/-- of the blocks that are written later, the elder ones are of G -/
theorem WrS.trans {G G' : List Nat} {a b c : World} (h : WrS G a b) (k : WrS G' b c) (hG : ∀ x ∈ G', x ∈ G ∨ a.heap.size ≤ x) : WrS G a c :=
  ⟨k.os.trans h.os, k.tape.trans h.tape, k.output.trans h.output, Nat.le_trans h.size k.size, fun i hi hg => (k.block i (Nat.lt_of_lt_of_le hi h.size) fun hx => by
    rcases hG i hx with g | g
    · exact hg g
    · omega).trans (h.block i hi hg)⟩
theorem WrS.of (G : List Nat) {w w' : World} (h : Below w.heap.size w w') : WrS G w w' := ⟨h.os, h.tape, h.output, h.size, fun k hk _ => h.block k hk⟩
theorem WrS.row (G : List Nat) (w : World) (g : Nat) (L : Array Value) (hg : g ∈ G) : WrS G w (w.setRow g L) :=
  ⟨rfl, rfl, rfl, by simp, fun k _ hk => setRow_other w g k L fun e => hk (by rw [e]; exact hg)⟩
theorem WrS.cell (G : List Nat) (w : World) (g i : Nat) (u : Value) (hg : g ∈ G) : WrS G w (w.setCell ⟨g, i, none⟩ u) :=
  ⟨rfl, rfl, rfl, by simp [World.setCell], fun k _ hk => Below.heap_setCell _ _ _ _ fun e => hk (by rw [e]; exact hg)⟩
theorem WrS.low {G : List Nat} {w w' : World} (h : WrS G w w') (B : Nat) (hB : B ≤ w.heap.size) (hG : ∀ x ∈ G, B ≤ x) : Below B w w' :=
  ⟨h.os, h.tape, h.output, h.size, fun k hk => h.block k (by omega) fun hx => by have := hG k hx; omega⟩
theorem WrS.box {G : List Nat} {w w' : World} {g : Nat} {cs : Array Value} {t : TypeId} (h : WrS G w w') (hb : Box w g cs t) (hg : g ∉ G) : Box w' g cs t := (h.block g hb.lt hg).trans hb
theorem BlkAt.lt {w : World} {b : Blk} (h : BlkAt w b) : b.1 < w.heap.size := by obtain ⟨_, _, hb⟩ := h; exact hb.lt
theorem RowAt.lt {w : World} {gB c : Nat} {bs : List Blk} (h : RowAt w gB c bs) : gB < w.heap.size := by obtain ⟨_, _, _, _, hb⟩ := h; exact hb.lt
theorem BksAt.ltM {w : World} {gB c : Nat} {bs : List Blk} (h : BksAt w gB c bs) : ∀ x ∈ memB gB bs, x < w.heap.size := by
  intro x hx
  rcases List.mem_cons.1 hx with rfl | hx
  · exact h.row.lt
  · obtain ⟨b, hb, rfl⟩ := List.mem_map.1 hx
    exact (h.blk b hb).lt
theorem BlkAt.keep {w w' : World} {b : Blk} (h : BlkAt w b) (hk : w'.heap[b.1]? = w.heap[b.1]?) : BlkAt w' b := by
  obtain ⟨sp, h1, h2⟩ := h
  exact ⟨sp, h1, hk.trans h2⟩
theorem RowAt.keep {w w' : World} {gB c : Nat} {bs : List Blk} (h : RowAt w gB c bs) (hk : w'.heap[gB]? = w.heap[gB]?) : RowAt w' gB c bs := by
  obtain ⟨sp, T, h1, h3, h2⟩ := h
  exact ⟨sp, T, h1, h3, hk.trans h2⟩
theorem BksAt.keep {w w' : World} {gB c : Nat} {bs : List Blk} (h : BksAt w gB c bs) (hk : ∀ x ∈ memB gB bs, w'.heap[x]? = w.heap[x]?) : BksAt w' gB c bs :=
  ⟨h.row.keep (hk gB List.mem_cons_self), fun b hb => (h.blk b hb).keep (hk b.1 (List.mem_cons_of_mem _ (List.mem_map.2 ⟨b, hb, rfl⟩))), h.nd⟩
theorem BksAt.below {w w' : World} {gB c : Nat} {bs : List Blk} (h : BksAt w gB c bs) (hb : Below w.heap.size w w') : BksAt w' gB c bs :=
  h.keep fun x hx => hb.block x (h.ltM x hx)
theorem BksAt.cap {w : World} {gB c : Nat} {bs : List Blk} (h : BksAt w gB c bs) : bs.length ≤ c := by obtain ⟨sp, T, h1, _, _⟩ := h.row; omega
theorem blk_cell {w : World} {b : Blk} (h : BlkAt w b) (i : Nat) (hi : i < b.2.length * 2) : w.cell? ⟨b.1, i, none⟩ = (celS b.2)[i]? := by
  obtain ⟨sp, h1, hb⟩ := h
  rw [hb.cell i]
  simp only [List.getElem?_toArray]
  rw [List.getElem?_append_left (by rw [celS_len]; omega)]
theorem BlkAt.lies {w : World} {b : Blk} (h : BlkAt w b) (B : Nat) (hB : b.1 < B) : LiesS w B (some ⟨b.1, 0, none⟩) b.2 := fun h0 =>
  ⟨_, rfl, hB, fun j hj => by
    obtain ⟨c0, c1⟩ := celS_at b.2 j hj
    rw [Addr.add_lit, Addr.add_lit, Nat.zero_add, Nat.zero_add, blk_cell h _ (by omega), blk_cell h _ (by omega)]
    exact ⟨c0, c1⟩⟩
theorem BksAt.lies {w : World} {gB c : Nat} {bs : List Blk} (h : BksAt w gB c bs) : LiesB w w.heap.size gB bs := by
  obtain ⟨sp, T, h1, _, hb⟩ := h.row
  refine ⟨hb.lt, fun i hi => ?_, fun i hi => ?_⟩
  · have e : bs.getD i bk0 = bs[i] := by simp [List.getElem?_eq_getElem hi]
    rw [hb.cell i, e]
    simp only [List.getElem?_toArray]
    rw [List.getElem?_append_left (by rw [List.length_map]; exact hi), List.getElem?_map, List.getElem?_eq_getElem hi]
    rfl
  · have e : bs.getD i bk0 = bs[i] := by simp [List.getElem?_eq_getElem hi]
    rw [e]
    have hm := h.blk _ (List.getElem_mem hi)
    exact hm.lies _ hm.lt
/-- one block's scores are others, in the same place -/
theorem BksAt.swap {w w' : World} {gB c : Nat} {A C : List Blk} {b b' : Blk} (h : BksAt w gB c (A ++ b :: C)) (he : b'.1 = b.1) (hr : RowAt w' gB c (A ++ b' :: C)) (hb : BlkAt w' b') (hk : ∀ x ∈ (A ++ C).map (fun b => b.1), w'.heap[x]? = w.heap[x]?) : BksAt w' gB c (A ++ b' :: C) := by
  refine ⟨hr, fun y hy => ?_, ?_⟩
  · rcases List.mem_append.1 hy with g | g
    · exact (h.blk y (List.mem_append_left _ g)).keep (hk y.1 (List.mem_map.2 ⟨y, List.mem_append_left _ g, rfl⟩))
    · rcases List.mem_cons.1 g with rfl | g
      · exact hb
      · exact (h.blk y (List.mem_append_right _ (List.mem_cons_of_mem _ g))).keep (hk y.1 (List.mem_map.2 ⟨y, List.mem_append_right _ g, rfl⟩))
  · have := h.nd
    unfold memB at *
    simpa [he] using this
theorem memB_swap {gB : Nat} {A C : List Blk} {b b' : Blk} (he : b'.1 = b.1) : memB gB (A ++ b' :: C) = memB gB (A ++ b :: C) := by unfold memB; simp [he]
/-- in a row without doubles: none of the others is the middle one -/
theorem memB_ne {gB : Nat} {A C : List Blk} {b : Blk} (h : (memB gB (A ++ b :: C)).Nodup) : gB ≠ b.1 ∧ ∀ x ∈ (A ++ C).map (fun b => b.1), x ≠ b.1 ∧ x ≠ gB := by
  unfold memB at h
  rw [List.nodup_cons, List.map_append, List.map_cons] at h
  obtain ⟨h1, h2⟩ := h
  rw [List.nodup_append] at h2
  obtain ⟨_, h4, h5⟩ := h2
  rw [List.nodup_cons] at h4
  refine ⟨fun e => h1 (by rw [e]; simp), fun x hx => ⟨?_, ?_⟩⟩
  · rw [List.map_append] at hx
    rcases List.mem_append.1 hx with g | g
    · exact h5 x g b.1 List.mem_cons_self
    · rintro rfl; exact h4.1 g
  · rintro rfl
    refine h1 ?_
    rw [List.map_append] at hx
    rcases List.mem_append.1 hx with g | g
    · exact List.mem_append_left _ g
    · exact List.mem_append_right _ (List.mem_cons_of_mem _ g)
end Go.Proofs.Ytaeodkpkgbjaeaa
