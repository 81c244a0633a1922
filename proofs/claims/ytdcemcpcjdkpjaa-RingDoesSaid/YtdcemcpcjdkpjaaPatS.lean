import Derived.Test.YtdcemcpcjdkpjaaPatT
import Derived.Test.YtdcemcpcjdkpjaaTrE

/-! Layer 12: how trees among the arguments of a law are opened; trees onto a row of the call's own. -/
namespace Go.Proofs.Ytdcemcpcjdkpjaa
open Go.RowKit Go.WideShapes Go.ChangeShapes Go.Joins Go.Deep
set_option linter.unusedVariables false
set_option linter.unusedSimpArgs false
section
variable {H : Type} {enc : TypeId × Value → H}
theorem open_trees_cs {P : Program} {W : World} {base : Nat} {t e : TypeId} {v : Value} {d : DataW H} {p : List MemPlace} {f0 f1 : Field} (ht : P.underlying t = some (.slice e)) (he : P.underlying e = some (.struct #[f0, f1])) (hc : P.cellsOf e = 2) (ho : (f0.offset, f1.offset) = (0, 1)) (hs : (P.cellsOf f0.type, P.cellsOf f1.type) = (1, 1)) (hu : P.underlying f0.type = some (.int .i64))
    (hin : ∀ (v : Value) (n : Nat) (y : DataW H × List MemPlace), DataW.trod enc P W 0 (fun _ => true) true n f1.type [v] = some y → ∃ A N c, v = .slice A N.length c ∧ LiesT W W.heap.size A N ∧ okT N ∧ N.length ≤ c ∧ c ≤ 9223372036854775807)
    (hv : Value.okWide P W .any base t v) (h : DataW.Trod enc P W 0 (fun _ => true) true t v d p) :
    ∃ A T c, v = .slice A T.length c ∧ LiesTs W W.heap.size A T ∧ (∀ t ∈ T, okT t.n ∧ t.n.length ≤ 9223372036854775807) ∧ T.length ≤ c ∧ c ≤ 9223372036854775807 := by
  simp only [Prod.mk.injEq] at ho hs
  obtain ⟨o0, o1⟩ := ho
  obtain ⟨s0, s1⟩ := hs
  obtain ⟨a0, len, cap, rfl⟩ := okWide_slice ht hv
  obtain ⟨fuel, hf⟩ := h
  rcases open_slice ht hf with ⟨hcs, _⟩ | ⟨a, len', cap', m, n, D, Pl, hcs, _, hle, hm, hmm, _, hx⟩
  · simp [Value.cells] at hcs
    obtain ⟨rfl, rfl, rfl⟩ := hcs
    exact ⟨none, [], 0, rfl, ⟨fun h0 => absurd h0 (by simp), fun n hn => by cases hn⟩, (fun n hn => by cases hn), by simp, by simp⟩
  · simp [Value.cells] at hcs
    obtain ⟨rfl, rfl, rfl⟩ := hcs
    simp only [if_true] at hmm
    subst hmm
    rw [hc] at hx
    have each : ∀ i, i < m → ∃ x : TT, (okT x.n ∧ x.n.length ≤ 9223372036854775807) ∧ (W.cell? (a.add (i * 2)) = some (.int .i64 x.dim) ∧ W.cell? ⟨(a.add (i * 2)).block, (a.add (i * 2)).off + 1, none⟩ = some (.slice x.a x.n.length x.c)) ∧ LiesT W W.heap.size x.a x.n := fun i hi => by
      obtain ⟨cs', h1, h2⟩ := hx i hi
      obtain ⟨_, hlen, hcell⟩ := World.cells?_some h1
      obtain ⟨xs, n', _, _, _, hxl, hfl⟩ := DataW.trod_struct he h2
      match cs', hlen, xs, hxl with
      | [v0, v1], _, [y0, y1], _ =>
        have t0 := hfl 0 f0 rfl
        have t1 := hfl 1 f1 rfl
        rw [o0, s0] at t0
        rw [o1, s1] at t1
        obtain ⟨n1, e1, _, w1'⟩ := DataW.trod_int hu t0
        simp at e1
        subst e1
        obtain ⟨A, N, c, e5, k1, k2, k3, k4⟩ := hin v1 _ _ (by simpa using t1)
        subst e5
        have k := fun j (hj : j < 2) => hcell j hj
        simp only [add_addT] at k
        exact ⟨⟨n1, A, c, N⟩, ⟨k2, by show N.length ≤ _; omega⟩, ⟨k 0 (by omega), by rw [fldT _ _ _ (by omega)]; exact k 1 (by omega)⟩, k1⟩
    have : Inhabited TT := ⟨tt0⟩
    obtain ⟨X, hX⟩ := choose_lt each
    have hgd : ∀ j, j < len → ((List.range len).map X).getD j tt0 = X j := fun j hj => by simp [List.getD, hj]
    unfold maxLen at hm
    refine ⟨some a, (List.range len).map X, m, by simp, ⟨fun h0 => ⟨a, rfl, ?_, fun j hj => ?_⟩, fun x hx => ?_⟩, fun x hx => ?_, by simp; omega, by omega⟩
    · have h0' : 0 < len := by simpa using h0
      have h1 := (hX 0 (by omega)).2.1.1
      have h2 := World.block_lt_of_cell? W (a.add (0 * 2)) h1
      rw [add_block] at h2
      exact h2
    · have hj' : j < len := by simpa using hj
      rw [hgd j hj']
      exact (hX j (by omega)).2.1
    · obtain ⟨j, hj, rfl⟩ := List.mem_map.1 hx
      exact (hX j (by have := List.mem_range.1 hj; omega)).2.2
    · obtain ⟨j, hj, rfl⟩ := List.mem_map.1 hx
      exact (hX j (by have := List.mem_range.1 hj; omega)).1
end
/-! ### trees onto a row of the call's own -/
def ttC (t : TT) : Array Value := #[.int .i64 t.dim, .slice t.a t.n.length t.c]
def ttL (T : List TT) : List Value := T.flatMap (fun t => (ttC t).toList)
theorem ttC_len (t : TT) : (ttC t).toList.length = 2 := rfl
theorem ttL_len (T : List TT) : (ttL T).length = T.length * 2 := flat_len _ 2 ttC_len T
theorem tt_one (t : TT) : ∀ u ∈ (ttC t).toList, u.oneCell' = true := by
  intro u hu
  simp [ttC] at hu
  rcases hu with rfl | rfl <;> rfl
end Go.Proofs.Ytdcemcpcjdkpjaa
