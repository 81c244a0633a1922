/- Pieces onto the stack. -/
import Derived.Test.YtndofhcnjmbfeaaDoorFauR
namespace Go.Proofs.YtndofhcnjmbfeaaDoor
open Go.RowKit Go.Extern.Stop Go.Stop Go.Extern
set_option linter.unusedVariables false
set_option linter.unusedSimpArgs false

theorem info_piece : (Tryd.prog.info? 67).map (fun i => (i.zero, i.size, i.bytes)) = some (some (.agg #[.string ⟨#[]⟩, .pointer none]), 2, 24) := by kernel_rfl
/-- pieces more onto a row of pieces of the call's own -/
theorem app_pieces {B : Nat} {wr : World} {ops : Array Oper} {rest : List Oper} {o : Oper} {a : Act} {Q : Exit → Act → World → Prop} (hgd : o.guard = none) (s x : Operand)
    (ho : o.op = .call { callee := .builtin .append, args := #[s, x], argTypes := #[68, 68] })
    (v : Value) (l ps : List Piece) (hs : a.eval s = v) (hown : wr.ownsRow B 67 2 v l.length (litT l)) (hx : a.eval x = .slice (some ⟨wr.heap.size, 0, none⟩) ps.length ps.length)
    (hB : B ≤ wr.heap.size) (hn : l.length ≤ 100000000) (hps : ps.length ≤ 3)
    (h : ∀ v' w', w'.ownsRow B 67 2 v' (l ++ ps).length (litT (l ++ ps)) → Below B wr w' → (∀ (g : Nat) (cs : Array Value) (T : TypeId), T ≠ 67 → Box wr g cs T → Box w' g cs T) → wpList Tryd.prog ops Q rest (a.put o.dst v') w') :
    wpList Tryd.prog ops Q (o :: rest) a (wr.alloc (.cells (litT ps).toArray 67)) := by
  obtain ⟨i0, hi, hz0, hz1, hz2⟩ := info_parts info_piece
  have hlen := litT_len ps
  refine wpList_append_own _ hgd s x 68 ho B 67 i0 _ 2 24 Tryd.underlying68 hi hz0 hz1 hz2 rfl (by decide) v l.length (litT l) hs (hown.alloc _) ⟨wr.heap.size, 0, none⟩ ps.length ps.length (litT ps) hx hlen ?_ ?_ ?_ ?_ ?_ ?_
  · intro j u hj
    have hj' : (litT ps).toArray[j]? = some u := by simpa using hj
    have hc := cell_of_row _ _ j _ _ (0, 0) (heap_alloc_new wr (.cells (litT ps).toArray 67))
    have h0 : (Addr.add ⟨wr.heap.size, 0, none⟩ j : Addr) = ⟨wr.heap.size, j, none⟩ := by
      rw [Addr.add]
      split
      · rename_i hj0; rw [hj0]
      · rw [Nat.zero_add]
    rw [h0]
    exact hc.trans hj'
  · intro u hu
    obtain ⟨p, _, hp⟩ := List.mem_flatMap.1 hu
    obtain ⟨m, _ | x⟩ := p <;> (simp [pieceV] at hp; rcases hp with rfl | rfl <;> rfl)
  · unfold maxLen; omega
  · omega
  · simp; omega
  · intro v' w' h1 h2 _
    refine h v' w' ?_ ?_ ?_
    · rw [List.length_append]
      unfold litT at h1 ⊢
      rw [List.flatMap_append]; exact h1
    · refine ((Below.refl _ _).alloc hB _).grown h2 (by simp; omega) fun k hk => ?_
      rcases hown.2 with ⟨rfl, _⟩ | ⟨g, cap, cur, rfl, hg, _⟩
      · simp [Value.ownBlock] at hk
      · simp only [Value.ownBlock, Option.some.injEq] at hk; omega
    · intro g cs T hT hb
      have hb2 := hb.alloc (.cells (litT ps).toArray 67)
      exact (h2.block g hb2.lt (fun e => own_blk2 (hown.alloc (.cells (litT ps).toArray 67)) hb2 hT e.symm)).trans hb2
end Go.Proofs.YtndofhcnjmbfeaaDoor
