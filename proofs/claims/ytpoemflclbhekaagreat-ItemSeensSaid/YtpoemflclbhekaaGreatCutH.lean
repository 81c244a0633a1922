import Derived.Test.YtpoemflclbhekaaGreatCutF
import Derived.Test.YtpoemflclbhekaaGreatVecT
import Derived.Lib.SmallJoins

/-! How a cut among the arguments of a law is opened. -/
namespace Go.Proofs.YtpoemflclbhekaaGreat
open Go.RowKit Go.WideShapes Go.ChangeShapes Go.Joins Go.Deep
section
variable {H : Type} {enc : TypeId × Value → H}
theorem open_ints_cs {P : Program} {W : World} {t e : TypeId} {v : Value} {n : Nat} {y : DataW H × List MemPlace} (ht : P.underlying t = some (.slice e)) (he : P.underlying e = some (.int .i64)) (hc : P.cellsOf e = 1)
    (hf : DataW.trod enc P W 0 (fun _ => true) true n t [v] = some y) :
    ∃ A l c, v = .slice A l.length c ∧ Lies W W.heap.size A l ∧ (∀ x ∈ l, I64 x) ∧ l.length ≤ c ∧ c ≤ 9223372036854775807 := by
  rcases open_ints ht he hc hf with ⟨hcs, _⟩ | ⟨a, len', cap', zs, hcs, _, hle, hm, hz, _, hcell, hwz⟩
  · simp at hcs
    subst hcs
    exact ⟨none, [], 0, rfl, Lies.nil, (fun x hx => by cases hx), by simp, by simp⟩
  · simp at hcs
    subst hcs
    simp only [if_true] at hz
    unfold maxLen at hm
    have hlen : (zs.take len').length = len' := by rw [List.length_take]; omega
    refine ⟨some a, zs.take len', cap', by rw [hlen], fun h0 => ⟨a, rfl, ?_, fun j hj => ?_⟩, fun x hx => i64_of_wf (hwz x (List.mem_of_mem_take hx)), by omega, by omega⟩
    · have h1 := hcell 0 (by omega)
      have h2 := World.block_lt_of_cell? W (a.add 0) h1
      rw [add_block] at h2
      exact h2
    · rw [hlen] at hj
      rw [hcell j (by omega), List.getD_eq_getElem?_getD, List.getD_eq_getElem?_getD, List.getElem?_take, if_pos hj]
theorem open_cut {P : Program} {W : World} {base : Nat} {t e : TypeId} {f0 f1 : Field} {v : Value} {d : DataW H} {p : List MemPlace} (hs : P.underlying t = some (.struct #[f0, f1])) (h0 : P.underlying f0.type = some (.slice e)) (he : P.underlying e = some (.int .i64)) (hc : P.cellsOf e = 1)
    (h1 : P.underlying f1.type = some (.int .i64)) (hone : oneCellFields P #[f0, f1] = true) (hC : P.cellsOf t = 2)
    (hv : Value.okWide P W .any base t v) (h : DataW.Trod enc P W 0 (fun _ => true) true t v d p) :
    ∃ A l c q, v = .agg #[.slice A l.length c, .int .i64 q] ∧ Lies W W.heap.size A l ∧ (∀ x ∈ l, I64 x) ∧ l.length ≤ c ∧ c ≤ 9223372036854775807 ∧ I64 q := by
  obtain ⟨v0, v1, y0, y1, n, rfl, _, _, t0, t1⟩ := Joins.open_agg2 hs hone hC hv h
  obtain ⟨A, l, c, rfl, g1, g2, g3, g4⟩ := open_ints_cs h0 he hc t0
  obtain ⟨b, e1, _, w1⟩ := DataW.trod_int h1 t1
  simp at e1
  subst e1
  exact ⟨A, l, c, b, rfl, g1, g2, g3, g4, i64_of_wf w1⟩
end
end Go.Proofs.YtpoemflclbhekaaGreat
