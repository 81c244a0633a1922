import Derived.Test.YtaeodkpkgbjaeaaScoB
import Derived.Test.YtaeodkpkgbjaeaaVecT
import Derived.Lib.SmallJoins
import Derived.OpenShut
import Derived.ProofKit

/-! Scores among the arguments of a law: how they are opened. -/
namespace Go.Proofs.Ytaeodkpkgbjaeaa
open Go.RowKit Go.WideShapes Go.ChangeShapes Go.Joins Go.Deep
set_option linter.unusedVariables false
set_option linter.unusedSimpArgs false
section
variable {H : Type} {enc : TypeId × Value → H}
theorem open_scores {P : Program} {W : World} {base : Nat} {t e : TypeId} {v : Value} {d : DataW H} {p : List MemPlace} {f0 f1 : Field} (ht : P.underlying t = some (.slice e)) (he : P.underlying e = some (.struct #[f0, f1])) (hc : P.cellsOf e = 2)
    (ho : (f0.offset, f1.offset) = (0, 1)) (hs : (P.cellsOf f0.type, P.cellsOf f1.type) = (1, 1))
    (hu : (P.underlying f0.type, P.underlying f1.type) = (some (.int .i64), some (.int .i64)))
    (hv : Value.okWide P W .any base t v) (h : DataW.Trod enc P W 0 (fun _ => true) true t v d p) :
    ∃ A l c, v = .slice A l.length c ∧ LiesS W W.heap.size A l ∧ okS l ∧ l.length ≤ 9223372036854775807 ∧ l.length ≤ c ∧ (A = none → c = 0) := by
  simp only [Prod.mk.injEq] at ho hs hu
  obtain ⟨o0, o1⟩ := ho
  obtain ⟨s0, s1⟩ := hs
  obtain ⟨u0, u1⟩ := hu
  obtain ⟨a0, len, cap, rfl⟩ := okWide_slice ht hv
  obtain ⟨fuel, hf⟩ := h
  rcases open_slice ht hf with ⟨hcs, _⟩ | ⟨a, len', cap', m, n, D, Pl, hcs, _, hle, hm, hmm, _, hx⟩
  · simp [Value.cells] at hcs
    obtain ⟨rfl, rfl, rfl⟩ := hcs
    exact ⟨none, [], 0, rfl, LiesS.nil, (fun x hx => by cases hx), by simp, by simp, fun _ => rfl⟩
  · simp [Value.cells] at hcs
    obtain ⟨rfl, rfl, rfl⟩ := hcs
    simp only [if_true] at hmm
    subst hmm
    rw [hc] at hx
    have each : ∀ i, i < m → ∃ x : PQ, (I64 x.1 ∧ I64 x.2) ∧ W.cell? (a.add (i * 2)) = some (.int .i64 x.1) ∧ W.cell? (a.add (i * 2 + 1)) = some (.int .i64 x.2) := fun i hi => by
      obtain ⟨cs', h1, h2⟩ := hx i hi
      obtain ⟨_, hlen, hcell⟩ := World.cells?_some h1
      obtain ⟨xs, n', _, _, _, hxl, hfl⟩ := DataW.trod_struct he h2
      match cs', hlen, xs, hxl with
      | [v0, v1], _, [y0, y1], _ =>
        have t0 := hfl 0 f0 rfl
        have t1 := hfl 1 f1 rfl
        rw [o0, s0] at t0
        rw [o1, s1] at t1
        obtain ⟨n0, e0, _, w0⟩ := DataW.trod_int u0 t0
        obtain ⟨n1, e1, _, w1⟩ := DataW.trod_int u1 t1
        simp at e0 e1
        subst e0 e1
        have k := fun j (hj : j < 2) => hcell j hj
        simp only [add_addS] at k
        exact ⟨⟨n0, n1⟩, ⟨i64_of_wf w0, i64_of_wf w1⟩, k 0 (by omega), k 1 (by omega)⟩
    obtain ⟨X, hX⟩ := choose_lt each
    have hg : ∀ j, j < len → ((List.range len).map X).getD j pq0 = X j := fun j hj => by simp [List.getD, hj]
    refine ⟨some a, (List.range len).map X, m, by simp, fun h0 => ⟨a, rfl, ?_, fun j hj => ?_⟩, fun x hx => ?_, by unfold maxLen at hm; simp; omega, by simp; omega, fun h => by cases h⟩
    · have h0' : 0 < len := by simpa using h0
      have h1 := (hX 0 (by omega)).2.1
      have h2 := World.block_lt_of_cell? W (a.add (0 * 2)) h1
      rw [add_block] at h2
      exact h2
    · have hj' : j < len := by simpa using hj
      rw [hg j hj']
      exact (hX j (by omega)).2
    · obtain ⟨j, hj, rfl⟩ := List.mem_map.1 hx
      have hj' := List.mem_range.1 hj
      exact (hX j (by omega)).1
end
end Go.Proofs.Ytaeodkpkgbjaeaa
