import Derived.Test.YtehekdahlnpldaaVecB
import Derived.Deep.Matrix
import Derived.OpenShut
import Derived.ProofKit

/-! How lists and rows among the arguments of a law are opened. -/
namespace Go.Proofs.Ytehekdahlnpldaa
open Go.RowKit Go.WideShapes Go.ChangeShapes Go.Joins Go.Deep
theorem below_qd {w0 w w' : World} (c : Below w0.heap.size w0 w) (h : ∃ n, w' = w.drewN n) : Below w0.heap.size w0 w' := by
  obtain ⟨n, rfl⟩ := h; exact ⟨c.os, c.tape, c.output, c.size, c.block⟩
theorem below_tr {w0 w w' : World} (c : Below w0.heap.size w0 w) (h : Below w.heap.size w w') : Below w0.heap.size w0 w' := c.trans (h.mono c.size)
section
variable {H : Type} {enc : TypeId × Value → H}
theorem cells_i8 : Try.prog.cellsOf 3 = 1 := by kernel_rfl
theorem cells_l8 : Try.prog.cellsOf 24 = 1 := by kernel_rfl
theorem open_ints8 {P : Program} {W : World} {base : Nat} {t e : TypeId} {v : Value} {d : DataW H} {p : List MemPlace} (ht : P.underlying t = some (.slice e)) (he : P.underlying e = some (.int .i64)) (hc : P.cellsOf e = 1)
    (hv : Value.okWide P W .any base t v) (h : DataW.Trod enc P W 0 (fun _ => true) true t v d p) :
    ∃ A l c, v = .slice A l.length c ∧ Lies W W.heap.size A l ∧ (∀ x ∈ l, I64 x) ∧ l.length ≤ c ∧ c ≤ 9223372036854775807 := by
  obtain ⟨a0, len, cap, rfl⟩ := okWide_slice ht hv
  obtain ⟨fuel, hf⟩ := h
  rcases open_ints ht he hc hf with ⟨hcs, _⟩ | ⟨a, len', cap', zs, hcs, _, hle, hm, hz, _, hcell, hwz⟩
  · simp [Value.cells] at hcs
    obtain ⟨rfl, rfl, rfl⟩ := hcs
    exact ⟨none, [], 0, rfl, Lies.nil, (fun x hx => by cases hx), by simp, by simp⟩
  · simp [Value.cells] at hcs
    obtain ⟨rfl, rfl, rfl⟩ := hcs
    simp only [if_true] at hz
    unfold maxLen at hm
    have hlen : (zs.take len).length = len := by rw [List.length_take]; omega
    refine ⟨some a, zs.take len, cap, by rw [hlen], fun h0 => ⟨a, rfl, ?_, fun j hj => ?_⟩, fun x hx => i64_of_wf (hwz x (List.mem_of_mem_take hx)), by omega, by omega⟩
    · have h1 := hcell 0 (by omega)
      have h2 := World.block_lt_of_cell? W (a.add 0) h1
      rw [add_block] at h2
      exact h2
    · rw [hlen] at hj
      rw [hcell j (by omega), List.getD_eq_getElem?_getD, List.getD_eq_getElem?_getD, List.getElem?_take, if_pos hj]
theorem open_rows8 {P : Program} {W : World} {base : Nat} {t e q : TypeId} {v : Value} {d : DataW H} {p : List MemPlace} (ht : P.underlying t = some (.slice e)) (he : P.underlying e = some (.slice q)) (hq : P.underlying q = some (.int .i64)) (hc : P.cellsOf e = 1) (hc2 : P.cellsOf q = 1)
    (hv : Value.okWide P W .any base t v) (h : DataW.Trod enc P W 0 (fun _ => true) true t v d p) :
    ∃ A R c, v = .slice A R.length c ∧ LiesR W W.heap.size A R ∧ OkR R ∧ R.length ≤ c ∧ c ≤ 9223372036854775807 := by
  obtain ⟨a0, len, cap, rfl⟩ := okWide_slice ht hv
  obtain ⟨fuel, hf⟩ := h
  rcases open_int_rows ht he hq hc hc2 hf with ⟨hcs, _⟩ | ⟨a, len', cap', A, L, C, Z, hcs, _, hle, hm, _, hrows⟩
  · simp [Value.cells] at hcs
    obtain ⟨rfl, rfl, rfl⟩ := hcs
    exact ⟨none, [], 0, rfl, LiesR.nil, (fun x hx => by cases hx), by simp, by simp⟩
  · simp [Value.cells] at hcs
    obtain ⟨rfl, rfl, rfl⟩ := hcs
    unfold maxLen at hm hrows
    have hg : ∀ j, j < len → ((List.range len).map fun r => (⟨A r, (Z r).take (L r), C r⟩ : Row)).getD j row0 = ⟨A j, (Z j).take (L j), C j⟩ := fun j hj => by
      rw [List.getD_eq_getElem?_getD, List.getElem?_map, List.getElem?_range hj]; rfl
    have hlr : ∀ j, j < len → ((Z j).take (L j)).length = L j := fun j hj => by
      obtain ⟨_, h2, _, h4, _⟩ := hrows j (by omega)
      rw [List.length_take]; omega
    refine ⟨some a, (List.range len).map fun r => ⟨A r, (Z r).take (L r), C r⟩, cap, by simp, ⟨fun h0 => ⟨a, rfl, ?_, fun j hj => ?_⟩, fun r hr => ?_⟩, fun r hr => ?_, by simpa using hle, by omega⟩
    · simp at h0
      have h1 := (hrows 0 (by omega)).1
      have h2 := World.block_lt_of_cell? W (a.add 0) h1
      rw [add_block] at h2
      exact h2
    · have hj' : j < len := by simpa using hj
      rw [hg j hj', (hrows j (by omega)).1]
      unfold rowV
      simp only
      rw [hlr j hj']
    · simp only [List.mem_map, List.mem_range] at hr
      obtain ⟨j, hj, rfl⟩ := hr
      obtain ⟨_, h2, _, h4, _, h6, h7⟩ := hrows j (by omega)
      intro h0
      simp only at h0
      rw [hlr j hj] at h0
      cases hA : A j with
      | none => rw [h6 hA] at h2; omega
      | some a' =>
        obtain ⟨_, hcell⟩ := h7 a' hA
        refine ⟨a', rfl, ?_, fun k hk => ?_⟩
        · have h1 := hcell 0 (by omega)
          have h3 := World.block_lt_of_cell? W (a'.add 0) h1
          rw [add_block] at h3
          exact h3
        · simp only at hk ⊢
          rw [hlr j hj] at hk
          rw [hcell k (by omega), List.getD_eq_getElem?_getD, List.getD_eq_getElem?_getD, List.getElem?_take, if_pos hk]
    · simp only [List.mem_map, List.mem_range] at hr
      obtain ⟨j, hj, rfl⟩ := hr
      obtain ⟨_, h2, h3, h4, h5, _⟩ := hrows j (by omega)
      refine ⟨by simp only; rw [hlr j hj]; exact h2, by simp only; omega, fun x hx => i64_of_wf (h5 x (List.mem_of_mem_take hx))⟩
end
end Go.Proofs.Ytehekdahlnpldaa
