import Derived.Test.YtdcemcpcjdkpjaaTreeQ
import Derived.Laws.AppendOwnNone
import Derived.OwnWalk
import Derived.Laws.OwnMore

/-! Layer 10: the reference's sub: rows at indices, appended. -/
namespace Go.Proofs.Ytdcemcpcjdkpjaa
open Go.RowKit
set_option linter.unusedVariables false
set_option linter.unusedSimpArgs false

/-- a row of rows, the call's own, to which it appends -/
def OwnA (w : World) (B : Nat) (v : Value) (S : List Row) : Prop := w.ownsRow B 30 1 v S.length (S.map rowV)
theorem OwnA.nil (w : World) (B : Nat) : OwnA w B (.slice none 0 0) [] := ⟨rfl, .inl ⟨rfl, rfl⟩⟩
theorem OwnA.below {w w' : World} {B : Nat} {v : Value} {S : List Row} (h : OwnA w B v S) (hb : Below w.heap.size w w') : OwnA w' B v S := by
  refine ⟨h.1, ?_⟩
  rcases h.2 with h0 | ⟨g, cap, cur, h1, hbg, hh, hr⟩
  · exact .inl h0
  · refine .inr ⟨g, cap, cur, h1, hbg, (hb.block g ?_).trans hh, hr⟩
    rcases Nat.lt_or_ge g w.heap.size with h | h
    · exact h
    · rw [Array.getElem?_eq_none h] at hh; cases hh
/-- where such a row lies -/
theorem OwnA.lies {w : World} {B : Nat} {v : Value} {S : List Row} (h : OwnA w B v S) : ∃ A c, v = .slice A S.length c ∧ S.length ≤ c ∧ (0 < S.length → ∃ g, A = some ⟨g, 0, none⟩ ∧ B ≤ g ∧ g < w.heap.size ∧ ∀ j, j < S.length → w.cell? ⟨g, j, none⟩ = some (rowV (S.getD j row0))) := by
  rcases h.2 with ⟨rfl, h0⟩ | ⟨g, cap, cur, rfl, hbg, hh, hnc, hm, hsz, hx⟩
  · refine ⟨none, 0, by rw [h0], by omega, fun h1 => by omega⟩
  · refine ⟨_, cap, rfl, hnc, fun _ => ⟨g, rfl, hbg, ?_, fun j hj => ?_⟩⟩
    · rcases Nat.lt_or_ge g w.heap.size with h | h
      · exact h
      · rw [Array.getElem?_eq_none h] at hh; cases hh
    · rw [cell_of_row w g j cur 30 (0, 0) hh]
      have h1 : (cur.toList.take (S.length * 1))[j]? = (S.map rowV)[j]? := by rw [hx]
      rw [List.getElem?_take, if_pos (by omega)] at h1
      rw [← Array.getElem?_toList, h1]
      simp [List.getD, hj]
/-- a row more -/
theorem app_r {B : Nat} {W : World} {ops : Array Oper} {rest : List Oper} {o : Oper} {a : Act} {Q : Exit → Act → World → Prop} (hgd : o.guard = none) (s x : Operand)
    (ho : o.op = .call { callee := .builtin .append, args := #[s, x], argTypes := #[48, 48] })
    (v : Value) (S : List Row) (r : Row) (g : Nat) (hs : a.eval s = v) (hx : a.eval x = .slice (some ⟨g, 0, none⟩) 1 1) (hown : OwnA W B v S) (hb : Box W g #[rowV r] 30)
    (hB : B ≤ W.heap.size) (hn : S.length ≤ 1000000)
    (h : ∀ v' w', OwnA w' B v' (S ++ [r]) → Below B W w' → wpList Try.prog ops Q rest (a.put o.dst v') w') : wpList Try.prog ops Q (o :: rest) a W := by
  refine wpList_plain hgd fun K hK => ?_
  obtain ⟨i0, hi, hz0, hz1, hz2⟩ := info_parts5 info_row
  refine wp_append_own _ s x 48 ho B 30 i0 (.slice none 0 0) 1 24 Try.underlying48 hi hz0 hz1 hz2 rfl (by decide) v S.length (S.map rowV) hs hown ⟨g, 0, none⟩ 1 1 [rowV r] hx rfl ?_ (by intro u hu; rw [List.mem_singleton.1 hu]; rfl) ?_ ?_ hB ?_
  · intro j u hj
    have e1 : (⟨g, 0, none⟩ : Addr).add j = ⟨g, j, none⟩ := by unfold Addr.add; split <;> simp_all
    rw [e1, hb.cell j]
    simpa using hj
  · unfold maxLen; omega
  · omega
  · intro v' w' h1 h2 _
    refine hK _ _ (h v' w' ?_ ?_)
    · show w'.ownsRow _ _ _ _ _ _
      rw [List.length_append, List.map_append]
      exact h1
    · refine (Below.refl _ _).grown h2 hB fun k hk => ?_
      rcases hown.2 with ⟨rfl, _⟩ | ⟨g, cap, cur, rfl, hg, _⟩
      · simp [Value.ownBlock] at hk
      · simp only [Value.ownBlock, Option.some.injEq] at hk; omega
end Go.Proofs.Ytdcemcpcjdkpjaa
