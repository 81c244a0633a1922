/- Text: pieces onto the stack, the builder beside it; the measure of the stack. -/
import Derived.Test.YtndofhcnjmbfeaaDoorFauV
namespace Go.Proofs.YtndofhcnjmbfeaaDoor
open Go.RowKit Go.Extern.Stop Go.Stop Go.Extern
set_option linter.unusedVariables false
set_option linter.unusedSimpArgs false

/-- pieces more onto a row of pieces of the call's own: all but rows of pieces stay -/
theorem app_pieces2 {B : Nat} {wr : World} {ops : Array Oper} {rest : List Oper} {o : Oper} {a : Act} {Q : Exit → Act → World → Prop} (hgd : o.guard = none) (s x : Operand)
    (ho : o.op = .call { callee := .builtin .append, args := #[s, x], argTypes := #[68, 68] })
    (v : Value) (l ps : List Piece) (hs : a.eval s = v) (hown : wr.ownsRow B 67 2 v l.length (litT l)) (hx : a.eval x = .slice (some ⟨wr.heap.size, 0, none⟩) ps.length ps.length)
    (hB : B ≤ wr.heap.size) (hn : l.length ≤ 100000000) (hps : ps.length ≤ 3)
    (h : ∀ v' w', w'.ownsRow B 67 2 v' (l ++ ps).length (litT (l ++ ps)) → Below B wr w' → Lib.OthersKept 67 none wr w' → wpList Tryd.prog ops Q rest (a.put o.dst v') w') :
    wpList Tryd.prog ops Q (o :: rest) a (wr.alloc (.cells (litT ps).toArray 67)) := by
  obtain ⟨i0, hi, hz0, hz1, hz2⟩ := info_parts info_piece
  have hlen := litT_len ps
  refine wpList_append_own _ hgd s x 68 ho B 67 i0 _ 2 24 Tryd.underlying68 hi hz0 hz1 hz2 rfl (by decide) v l.length (litT l) hs (hown.alloc _) ⟨wr.heap.size, 0, none⟩ ps.length ps.length (litT ps) hx hlen ?_ ?_ ?_ ?_ ?_ ?_
  · intro j u hj
    have hj' : (litT ps).toArray[j]? = some u := by simpa using hj
    have hc := cell_of_row _ _ j _ _ (0, 0) (heap_alloc_new wr (.cells (litT ps).toArray 67))
    have h0 : (Addr.add ⟨wr.heap.size, 0, none⟩ j : Addr) = ⟨wr.heap.size, j, none⟩ := by
      rw [Addr.add]
      split
      · rename_i hj0; rw [hj0]
      · rw [Nat.zero_add]
    rw [h0]
    exact hc.trans hj'
  · intro u hu
    obtain ⟨p, _, hp⟩ := List.mem_flatMap.1 hu
    obtain ⟨m, _ | x⟩ := p <;> (simp [pieceV] at hp; rcases hp with rfl | rfl <;> rfl)
  · unfold maxLen; omega
  · omega
  · simp; omega
  · intro v' w' h1 h2 _
    refine h v' w' ?_ ?_ ?_
    · rw [List.length_append]
      unfold litT at h1 ⊢
      rw [List.flatMap_append]; exact h1
    · refine ((Below.refl _ _).alloc hB _).grown h2 (by simp; omega) fun k hk => ?_
      rcases hown.2 with ⟨rfl, _⟩ | ⟨g, cap, cur, rfl, hg, _⟩
      · simp [Value.ownBlock] at hk
      · simp only [Value.ownBlock, Option.some.injEq] at hk; omega
    · intro k ob hk _ hob
      have hklt : k < wr.heap.size := by
        rcases Nat.lt_or_ge k wr.heap.size with h | h
        · exact h
        · rw [Array.getElem?_eq_none h] at hk; cases hk
      have hka : (wr.alloc (.cells (litT ps).toArray 67)).heap[k]? = some ob := by rw [heap_alloc_old _ _ hklt]; exact hk
      refine (h2.block k (by rw [alloc_size']; omega) (fun e => ?_)).trans hka
      rcases hown.2 with ⟨rfl, _⟩ | ⟨g, cap, cur, rfl, hg, hh, _⟩
      · simp [Value.ownBlock] at e
      · simp only [Value.ownBlock, Option.some.injEq] at e
        subst e
        rw [hk] at hh
        cases hh
        exact hob _ _ rfl
/-- how much a piece's second cell stands for -/
noncomputable def cellM (w : World) : Value → Nat
  | .pointer none => 1
  | v => 4 * szp w v + 1
/-- the measure of the stack, read off the memory -/
noncomputable def stkV (w : World) : Value → Nat
  | .slice (some a) n _ => ((List.range n).map fun j => cellM w ((w.cell? ⟨a.block, 2 * j + 1, none⟩).getD .nilIface)).sum
  | _ => 0
/-- all trees of the stack are faults in the memory -/
def OkP (w : World) (l : List Piece) : Prop := ∀ p ∈ l, ∀ x, p.2 = some x → IsFault w x.1 x.2
theorem OkP.same {w w' : World} {l : List Piece} (h : OkP w l) (hb : Same w w') : OkP w' l := fun p hp x hx => (h p hp x hx).same hb
theorem litT_snd (l : List Piece) {j : Nat} (hj : j < l.length) : (litT l)[2 * j + 1]? = some (match (l[j]).2 with | none => .pointer none | some x => ptr x.2 0) := by
  induction l generalizing j with
  | nil => simp at hj
  | cons p l ih =>
    have hp := pieceV_len p
    have e : litT (p :: l) = pieceV p ++ litT l := rfl
    rw [e]
    cases j with
    | zero =>
      obtain ⟨m, _ | x⟩ := p <;> simp [pieceV]
    | succ j =>
      rw [List.getElem?_append_right (by omega), show 2 * (j + 1) + 1 - (pieceV p).length = 2 * j + 1 from by omega]
      exact ih (by simpa using hj)
theorem stkS_sum (l : List Piece) : stkS l = (l.map fun p => match p.2 with | none => 1 | some x => 4 * size x.1 + 1).sum := by
  induction l with
  | nil => rfl
  | cons p l ih =>
    obtain ⟨m, _ | x⟩ := p <;> (simp only [stkS, List.map_cons, List.sum_cons, ih]; omega)
theorem stkV_eq {w : World} {B : Nat} {v : Value} {l : List Piece} (h : w.ownsRow B 67 2 v l.length (litT l)) (hf : OkP w l) : stkV w v = stkS l := by
  rcases h.2 with ⟨rfl, h0⟩ | ⟨g, cap, cur, rfl, hb, hh, hnc, hm, hsz, hx⟩
  · rw [List.eq_nil_of_length_eq_zero h0]; rfl
  · rw [stkS_sum]
    unfold stkV
    refine congrArg List.sum (List.ext_getElem (by simp) fun j h1 h2 => ?_)
    have hj : j < l.length := by simpa using h2
    have hc : w.cell? ⟨g, 2 * j + 1, none⟩ = some (match (l[j]).2 with | none => .pointer none | some x => ptr x.2 0) := by
      refine (cell_of_row w g (2 * j + 1) _ _ (0, 0) hh).trans ?_
      rw [← litT_snd l hj, ← hx, List.getElem?_take, if_pos (by omega)]
      simp
    simp only [List.getElem_map, List.getElem_range, hc, Option.getD_some]
    cases hp : (l[j]).2 with
    | none => rfl
    | some x =>
      have := szp_eq (hf _ (List.getElem_mem hj) x hp)
      show 4 * szp w (ptr x.2 0) + 1 = _
      rw [this]
end Go.Proofs.YtndofhcnjmbfeaaDoor
