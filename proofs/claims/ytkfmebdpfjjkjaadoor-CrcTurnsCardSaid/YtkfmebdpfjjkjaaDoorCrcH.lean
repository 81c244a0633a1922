/- Bytes made anew, and set one by one; what sealed bytes hold. -/
import Derived.Test.YtkfmebdpfjjkjaaDoorCrcG
namespace Go.Proofs.YtkfmebdpfjjkjaaDoor
open Go.RowKit
set_option linter.unusedVariables false
set_option linter.unusedSimpArgs false

theorem made_bytes (n : Nat) : (madeCells (Value.int .u8 0).cells (n * 1)).toList = litY (List.replicate n 0) := by
  rw [Nat.mul_one]
  refine (toList_madeCells_one _ n).trans ?_
  simp [litY]
/-- a new row of noughts -/
theorem make_bytes {wr : World} {ops : Array Oper} {rest : List Oper} {o : Oper} {a : Act} {Q : Exit → Act → World → Prop} (hgd : o.guard = none) (l c : Operand)
    (ho : o.op = Op.makeSlice 22 l c) (n : Nat) (hl : a.eval l = .int .i64 n) (hc : a.eval c = .int .i64 n) (hn : n ≤ 100000000)
    (h : ∀ w', LiesY w' w'.heap.size (some ⟨wr.heap.size, 0, none⟩) (List.replicate n 0) → Below wr.heap.size wr w' → wpList Tryd.prog ops Q rest (a.put o.dst (.slice (some ⟨wr.heap.size, 0, none⟩) n n)) w') :
    wpList Tryd.prog ops Q (o :: rest) a wr := by
  obtain ⟨i0, hi, hz0, hz1, hz2⟩ := info_parts infoY
  refine wpList_make_full wr hgd l c 22 ho wr.heap.size 5 i0 (.int .u8 0) 1 Tryd.underlying22 hi hz0 hz1 .i64 .i64 n n n hl hc rfl rfl (by rw [hz2]; omega) (by unfold maxLen; omega) (Nat.le_refl _) ?_
  intro w' h1 h2
  refine h w' ?_ ((Below.refl _ _).grown h2 (Nat.le_refl _) (fun k hk => by cases hk))
  rw [made_bytes] at h1
  have hO : OwnsY w' wr.heap.size (.slice (some ⟨wr.heap.size, 0, none⟩) n n) (List.replicate n 0) := by
    show w'.ownsRow _ _ _ _ _ _
    rw [List.length_replicate]
    exact h1
  exact lies_of_ownC hO
theorem ownY_at {w : World} {B g n c : Nat} {l : List Int} (h : OwnsY w B (.slice (some ⟨g, 0, none⟩) n c) l) {k : Nat} (hk : k < l.length) : w.cell? ⟨g, k, none⟩ = some (.int .u8 (l.getD k 0)) ∧ w.frozen? ⟨g, k, none⟩ = false ∧ B ≤ g ∧ g < w.heap.size := by
  obtain ⟨A1, c1, e1, -, -, g3, -, g5⟩ := h.lies
  cases e1
  obtain ⟨g', e', h6, h7⟩ := g5 _ rfl
  cases e'
  obtain ⟨ad, e2, -, hc⟩ := g3 (by omega)
  cases e2
  have h1 := hc k hk
  rw [addr_addY] at h1
  refine ⟨h1, ?_, h6, h7⟩
  rcases h.2 with ⟨e, _⟩ | ⟨g', cap, cur, e, hb, hh, _⟩
  · cases e
  · cases e
    exact Box.free (cs := cur) hh k
theorem ownY_set {w : World} {B g n c : Nat} {l : List Int} (h : OwnsY w B (.slice (some ⟨g, 0, none⟩) n c) l) (k : Nat) (x : Int) :
    OwnsY (w.setCell ⟨g, k, none⟩ (.int .u8 x)) B (.slice (some ⟨g, 0, none⟩) n c) (l.set k x) := by
  rcases h.2 with ⟨e, h1⟩ | ⟨g', cap, cur, e, hb, hh, hnc, hm, hsz, hx⟩
  · cases e
  · cases e
    refine ⟨by rw [litY_len]; omega, .inr ⟨g, c, cur.setIfInBounds k (.int .u8 x), by rw [List.length_set], hb, Box.set (t := 5) hh k _, by rw [List.length_set]; exact hnc, hm, by simpa using hsz, ?_⟩⟩
    have hx' : cur.toList.take l.length = litY l := by simpa using hx
    rw [Array.toList_setIfInBounds, List.length_set, Nat.mul_one, List.take_set, hx']
    unfold litY
    rw [List.map_set]
theorem opnC_seal (b : List Int) : opnC (sealC b) = (b, 0) := by
  unfold opnC
  rw [sealC_len, if_neg (by omega), Nat.add_sub_cancel]
  have h1 : (sealC b).drop b.length = le4 (sumC b) := by unfold sealC; rw [List.drop_append_of_le_length (Nat.le_refl _), List.drop_length, List.nil_append]
  have h2 : (sealC b).take b.length = b := by unfold sealC; rw [List.take_append_of_le_length (Nat.le_refl _), List.take_length]
  rw [h1, h2, if_pos rfl]
theorem opnC_len (b : List Int) : (opnC b).1.length ≤ b.length := by
  unfold opnC
  split
  · simp
  · split
    · rw [List.length_take]; omega
    · simp
theorem byt_rep (n : Nat) : byt (List.replicate n 0) := fun x hx => by
  have := (List.mem_replicate.mp hx).2
  omega
end Go.Proofs.YtkfmebdpfjjkjaaDoor
