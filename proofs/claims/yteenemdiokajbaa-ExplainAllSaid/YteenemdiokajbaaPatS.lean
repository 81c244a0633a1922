import Derived.Test.YteenemdiokajbaaPatT
import Derived.Test.YteenemdiokajbaaTrE

/-! Layer 12: how trees among the arguments of a law are opened; trees onto a row of the call's own. -/
namespace Go.Proofs.Yteenemdiokajbaa
open Go.RowKit Go.WideShapes Go.ChangeShapes Go.Joins Go.Deep
set_option linter.unusedVariables false
set_option linter.unusedSimpArgs false
section
variable {H : Type} {enc : TypeId × Value → H}
theorem open_trees_cs {P : Program} {W : World} {base : Nat} {t e : TypeId} {v : Value} {d : DataW H} {p : List MemPlace} {f0 f1 : Field} (ht : P.underlying t = some (.slice e)) (he : P.underlying e = some (.struct #[f0, f1])) (hc : P.cellsOf e = 2) (ho : (f0.offset, f1.offset) = (0, 1)) (hs : (P.cellsOf f0.type, P.cellsOf f1.type) = (1, 1)) (hu : P.underlying f0.type = some (.int .i64))
    (hin : ∀ (v : Value) (n : Nat) (y : DataW H × List MemPlace), DataW.trod enc P W 0 (fun _ => true) true n f1.type [v] = some y → ∃ A N c, v = .slice A N.length c ∧ LiesT W W.heap.size A N ∧ okT N ∧ N.length ≤ c ∧ c ≤ 9223372036854775807)
    (hv : Value.okWide P W .any base t v) (h : DataW.Trod enc P W 0 (fun _ => true) true t v d p) :
    ∃ A T c, v = .slice A T.length c ∧ LiesTs W W.heap.size A T ∧ (∀ t ∈ T, okT t.n ∧ t.n.length ≤ 9223372036854775807) ∧ T.length ≤ c ∧ c ≤ 9223372036854775807 := by
  simp only [Prod.mk.injEq] at ho hs
  obtain ⟨o0, o1⟩ := ho
  obtain ⟨s0, s1⟩ := hs
  obtain ⟨a0, len, cap, rfl⟩ := okWide_slice ht hv
  obtain ⟨fuel, hf⟩ := h
  rcases open_slice ht hf with ⟨hcs, _⟩ | ⟨a, len', cap', m, n, D, Pl, hcs, _, hle, hm, hmm, _, hx⟩
  · simp [Value.cells] at hcs
    obtain ⟨rfl, rfl, rfl⟩ := hcs
    exact ⟨none, [], 0, rfl, ⟨fun h0 => absurd h0 (by simp), fun n hn => by cases hn⟩, (fun n hn => by cases hn), by simp, by simp⟩
  · simp [Value.cells] at hcs
    obtain ⟨rfl, rfl, rfl⟩ := hcs
    simp only [if_true] at hmm
    subst hmm
    rw [hc] at hx
    have each : ∀ i, i < m → ∃ x : TT, (okT x.n ∧ x.n.length ≤ 9223372036854775807) ∧ (W.cell? (a.add (i * 2)) = some (.int .i64 x.dim) ∧ W.cell? ⟨(a.add (i * 2)).block, (a.add (i * 2)).off + 1, none⟩ = some (.slice x.a x.n.length x.c)) ∧ LiesT W W.heap.size x.a x.n := fun i hi => by
      obtain ⟨cs', h1, h2⟩ := hx i hi
      obtain ⟨_, hlen, hcell⟩ := World.cells?_some h1
      obtain ⟨xs, n', _, _, _, hxl, hfl⟩ := DataW.trod_struct he h2
      match cs', hlen, xs, hxl with
      | [v0, v1], _, [y0, y1], _ =>
        have t0 := hfl 0 f0 rfl
        have t1 := hfl 1 f1 rfl
        rw [o0, s0] at t0
        rw [o1, s1] at t1
        obtain ⟨n1, e1, _, w1'⟩ := DataW.trod_int hu t0
        simp at e1
        subst e1
        obtain ⟨A, N, c, e5, k1, k2, k3, k4⟩ := hin v1 _ _ (by simpa using t1)
        subst e5
        have k := fun j (hj : j < 2) => hcell j hj
        simp only [add_addT] at k
        exact ⟨⟨n1, A, c, N⟩, ⟨k2, by show N.length ≤ _; omega⟩, ⟨k 0 (by omega), by rw [fldT _ _ _ (by omega)]; exact k 1 (by omega)⟩, k1⟩
    have : Inhabited TT := ⟨tt0⟩
    obtain ⟨X, hX⟩ := choose_lt each
    have hgd : ∀ j, j < len → ((List.range len).map X).getD j tt0 = X j := fun j hj => by simp [List.getD, hj]
    unfold maxLen at hm
    refine ⟨some a, (List.range len).map X, m, by simp, ⟨fun h0 => ⟨a, rfl, ?_, fun j hj => ?_⟩, fun x hx => ?_⟩, fun x hx => ?_, by simp; omega, by omega⟩
    · have h0' : 0 < len := by simpa using h0
      have h1 := (hX 0 (by omega)).2.1.1
      have h2 := World.block_lt_of_cell? W (a.add (0 * 2)) h1
      rw [add_block] at h2
      exact h2
    · have hj' : j < len := by simpa using hj
      rw [hgd j hj']
      exact (hX j (by omega)).2.1
    · obtain ⟨j, hj, rfl⟩ := List.mem_map.1 hx
      exact (hX j (by have := List.mem_range.1 hj; omega)).2.2
    · obtain ⟨j, hj, rfl⟩ := List.mem_map.1 hx
      exact (hX j (by have := List.mem_range.1 hj; omega)).1
end
set_option maxRecDepth 100000 in
theorem open_trees {H : Type} {enc : TypeId × Value → H} {W : World} {base : Nat} {v : Value} {d : DataW H} {p : List MemPlace}
    (hv : Value.okWide Try.prog W .any base 39 v) (h : DataW.Trod enc Try.prog W 0 (fun _ => true) true 39 v d p) :
    ∃ A T c, v = .slice A T.length c ∧ LiesTs W W.heap.size A T ∧ (∀ t ∈ T, okT t.n ∧ t.n.length ≤ 9223372036854775807) ∧ T.length ≤ c ∧ c ≤ 9223372036854775807 :=
  open_trees_cs Try.underlying39 Try.underlying24 (by kernel_rfl) rfl (by kernel_rfl) Try.underlying3
    (fun v n y hf => open_nodes_cs Try.underlying22 Try.underlying81 (by kernel_rfl) rfl (by kernel_rfl) (Prod.ext Try.underlying79 (Prod.ext Try.underlying3 (Prod.ext Try.underlying3 Try.underlying3))) rfl (by kernel_rfl) (Prod.ext Try.underlying25 Try.underlying3) Try.underlying3 cells_i8 hf) hv h
/-! ### trees onto a row of the call's own -/
def ttC (t : TT) : Array Value := #[.int .i64 t.dim, .slice t.a t.n.length t.c]
def ttL (T : List TT) : List Value := T.flatMap (fun t => (ttC t).toList)
theorem info_tree : (Try.prog.info? 24).map (fun i => (i.zero, i.size, i.bytes)) = some (some (.agg #[.int .i64 0, .slice none 0 0]), 2, 32) := by kernel_rfl
theorem ttC_len (t : TT) : (ttC t).toList.length = 2 := rfl
theorem ttL_len (T : List TT) : (ttL T).length = T.length * 2 := flat_len _ 2 ttC_len T
theorem tt_one (t : TT) : ∀ u ∈ (ttC t).toList, u.oneCell' = true := by
  intro u hu
  simp [ttC] at hu
  rcases hu with rfl | rfl <;> rfl
def OwnTt (w : World) (B : Nat) (v : Value) (T : List TT) : Prop := w.ownsRow B 24 2 v T.length (ttL T)
theorem OwnTt.below {w w' : World} {B : Nat} {v : Value} {T : List TT} (h : OwnTt w B v T) (hb : Below w.heap.size w w') : OwnTt w' B v T := own_belowG h hb
/-- a tree more -/
theorem app_tt {B : Nat} {W : World} {ops : Array Oper} {rest : List Oper} {o : Oper} {a : Act} {Q : Exit → Act → World → Prop} (hgd : o.guard = none) (s x : Operand)
    (ho : o.op = .call { callee := .builtin .append, args := #[s, x], argTypes := #[39, 39] })
    (v : Value) (T : List TT) (n : TT) (g : Nat) (hs : a.eval s = v) (hx : a.eval x = .slice (some ⟨g, 0, none⟩) 1 1) (hown : OwnTt W B v T) (hb : Box W g (ttC n) 24) (hB : B ≤ W.heap.size) (hN : T.length ≤ 1000000)
    (h : ∀ v' w', OwnTt w' B v' (T ++ [n]) → Below B W w' → wpList Try.prog ops Q rest (a.put o.dst v') w') : wpList Try.prog ops Q (o :: rest) a W := by
  refine wpList_plain hgd fun K hK => ?_
  obtain ⟨i0, hi, hz0, hz1, hz2⟩ := info_parts5 info_tree
  refine wp_append_where (P := Try.prog) W s x 39 ho B 24 i0 _ 2 32 Try.underlying39 hi hz0 hz1 hz2 rfl (by decide) v T.length (ttL T) hs hown ⟨g, 0, none⟩ 1 1 (ttC n).toList hx rfl ?_ (tt_one n) ?_ ?_ hB ?_
  · intro j u hj
    rw [cell_add, hb.cell j, ← Array.getElem?_toList]
    exact hj
  · unfold maxLen; omega
  · omega
  · intro v' w' h1 h2 h3
    refine hK _ _ (h v' w' ?_ ((Below.refl _ _).grown h2 hB fun k hk => (hown.lt k hk).1))
    unfold OwnTt
    rw [List.length_append, show ttL (T ++ [n]) = ttL T ++ (ttC n).toList from by unfold ttL; simp]
    exact h1
/-- as a law's trees -/
theorem OwnTt.lies {w : World} {B : Nat} {v : Value} {T : List TT} (h : OwnTt w B v T) (hc : ∀ t ∈ T, LiesT w w.heap.size t.a t.n) : ∃ A c, v = .slice A T.length c ∧ LiesTs w w.heap.size A T := by
  rcases Nat.eq_zero_or_pos T.length with h0 | h0
  · rcases h.2 with ⟨e, _⟩ | ⟨g, cap, cur, e, _⟩
    · exact ⟨none, 0, by rw [e, h0], fun h1 => absurd h1 (by omega), hc⟩
    · exact ⟨_, cap, e, fun h1 => absurd h1 (by omega), hc⟩
  · obtain ⟨g, c, cur, e, _, _, _, hbx, hcell⟩ := own_box h h0
    refine ⟨_, c, e, fun _ => ⟨⟨g, 0, none⟩, rfl, hbx.lt, fun k hk => ?_⟩, hc⟩
    have hk2 : T[k]? = some (T.getD k tt0) := by simp [List.getD, hk]
    have key : ∀ j, j < 2 → w.cell? ((⟨g, 0, none⟩ : Addr).add (k * 2 + j)) = (ttC (T.getD k tt0)).toList[j]? := fun j hj => by
      rw [cell_add, hcell _ (by omega)]
      exact flat_get _ 2 ttC_len j hj T k _ hk2
    exact ⟨key 0 (by omega), by rw [fldT _ _ _ (by omega)]; exact key 1 (by omega)⟩
end Go.Proofs.Yteenemdiokajbaa
