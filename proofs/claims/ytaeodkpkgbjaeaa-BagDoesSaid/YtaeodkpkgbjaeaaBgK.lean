/- Layer 18 (bag): the law's list of operations. -/
import Derived.Test.YtaeodkpkgbjaeaaBgJ
import Derived.Test.YtaeodkpkgbjaeaaScoZ
import Derived.OpenShut
namespace Go.Proofs.Ytaeodkpkgbjaeaa
open Go.RowKit Go.WideShapes Go.ChangeShapes Go.Joins Go.Deep
set_option linter.unusedVariables false
set_option linter.unusedSimpArgs false

/-- an operation: what, and a score -/
abbrev OQ := Int × Int × Int
abbrev oq0 : OQ := (0, 0, 0)
/-- the operations lie in the memory from A on, in a block below B -/
def LiesQ (w : World) (B : Nat) (A : Option Addr) (l : List OQ) : Prop :=
  0 < l.length → ∃ ad : Addr, A = some ad ∧ ad.block < B ∧ ∀ j, j < l.length → w.cell? (ad.add (j * 3)) = some (.int .i64 (l.getD j oq0).1) ∧ w.cell? (ad.add (j * 3 + 1)) = some (.int .i64 (l.getD j oq0).2.1) ∧ w.cell? (ad.add (j * 3 + 2)) = some (.int .i64 (l.getD j oq0).2.2)
theorem LiesQ.nil {w : World} {B : Nat} {A : Option Addr} : LiesQ w B A [] := fun h => absurd h (by simp)
theorem LiesQ.below {w w' : World} {B : Nat} {A : Option Addr} {l : List OQ} (h : LiesQ w B A l) (hb : Below B w w') : LiesQ w' B A l := fun h0 => by
  obtain ⟨ad, e, hB, hc⟩ := h h0
  refine ⟨ad, e, hB, fun j hj => ?_⟩
  obtain ⟨c0, c1, c2⟩ := hc j hj
  have k : ∀ i, w'.cell? (ad.add i) = w.cell? (ad.add i) := fun i => hb.cell (by rw [add_block]; exact hB)
  rw [k, k, k]
  exact ⟨c0, c1, c2⟩
theorem LiesQ.at {w : World} {B : Nat} {A : Option Addr} {l : List OQ} (h : LiesQ w B A l) {k : Nat} (hk : k < l.length) : ∃ ad : Addr, A = some ad ∧ ad.block < B ∧ w.cell? (ad.add (k * 3)) = some (.int .i64 (l.getD k oq0).1) ∧ w.cell? ⟨(ad.add (k * 3)).block, (ad.add (k * 3)).off + 1, none⟩ = some (.int .i64 (l.getD k oq0).2.1) ∧ w.cell? ⟨(ad.add (k * 3)).block, (ad.add (k * 3)).off + 2, none⟩ = some (.int .i64 (l.getD k oq0).2.2) := by
  obtain ⟨ad, e, hB, hc⟩ := h (by omega)
  obtain ⟨c0, c1, c2⟩ := hc k hk
  exact ⟨ad, e, hB, c0, by rw [fldS _ _ _ (by omega)]; exact c1, by rw [fldS _ _ _ (by omega)]; exact c2⟩
theorem getD_memQ {l : List OQ} {k : Nat} (h : k < l.length) : l.getD k oq0 ∈ l := by
  rw [List.getD_eq_getElem?_getD, List.getElem?_eq_getElem h]; exact List.getElem_mem h
section
variable {H : Type} {enc : TypeId × Value → H}
theorem open_ops18 {P : Program} {W : World} {base : Nat} {t e : TypeId} {v : Value} {d : DataW H} {p : List MemPlace} {f0 f1 g0 g1 : Field} (ht : P.underlying t = some (.slice e)) (he : P.underlying e = some (.struct #[f0, f1])) (hc : P.cellsOf e = 3)
    (ho : (f0.offset, f1.offset) = (0, 1)) (hs : (P.cellsOf f0.type, P.cellsOf f1.type) = (1, 2))
    (hu : (P.underlying f0.type, P.underlying f1.type) = (some (.int .i64), some (.struct #[g0, g1])))
    (hg : (g0.offset, g1.offset) = (0, 1)) (hgs : (P.cellsOf g0.type, P.cellsOf g1.type) = (1, 1)) (hgu : (P.underlying g0.type, P.underlying g1.type) = (some (.int .i64), some (.int .i64)))
    (hv : Value.okWide P W .any base t v) (h : DataW.Trod enc P W 0 (fun _ => true) true t v d p) :
    ∃ A l c, v = .slice A l.length c ∧ LiesQ W W.heap.size A l ∧ (∀ x ∈ l, I64 x.1 ∧ I64 x.2.1 ∧ I64 x.2.2) ∧ l.length ≤ 9223372036854775807 ∧ l.length ≤ c ∧ (A = none → c = 0) := by
  simp only [Prod.mk.injEq] at ho hs hu hg hgs hgu
  obtain ⟨o0, o1⟩ := ho
  obtain ⟨s0, s1⟩ := hs
  obtain ⟨u0, u1⟩ := hu
  obtain ⟨p0, p1⟩ := hg
  obtain ⟨r0, r1⟩ := hgs
  obtain ⟨y0, y1⟩ := hgu
  obtain ⟨a0, len, cap, rfl⟩ := okWide_slice ht hv
  obtain ⟨fuel, hf⟩ := h
  rcases open_slice ht hf with ⟨hcs, _⟩ | ⟨a, len', cap', m, n, D, Pl, hcs, _, hle, hm, hmm, _, hx⟩
  · simp [Value.cells] at hcs
    obtain ⟨rfl, rfl, rfl⟩ := hcs
    exact ⟨none, [], 0, rfl, LiesQ.nil, (fun x hx => by cases hx), by simp, by simp, fun _ => rfl⟩
  · simp [Value.cells] at hcs
    obtain ⟨rfl, rfl, rfl⟩ := hcs
    simp only [if_true] at hmm
    subst hmm
    rw [hc] at hx
    have each : ∀ i, i < m → ∃ x : OQ, (I64 x.1 ∧ I64 x.2.1 ∧ I64 x.2.2) ∧ W.cell? (a.add (i * 3)) = some (.int .i64 x.1) ∧ W.cell? (a.add (i * 3 + 1)) = some (.int .i64 x.2.1) ∧ W.cell? (a.add (i * 3 + 2)) = some (.int .i64 x.2.2) := fun i hi => by
      obtain ⟨cs', h1, h2⟩ := hx i hi
      obtain ⟨_, hlen, hcell⟩ := World.cells?_some h1
      obtain ⟨xs, n', _, _, _, hxl, hfl⟩ := DataW.trod_struct he h2
      match cs', hlen, xs, hxl with
      | [v0, v1, v2], _, [z0, z1], _ =>
        have t0 := hfl 0 f0 rfl
        have t1 := hfl 1 f1 rfl
        rw [o0, s0] at t0
        rw [o1, s1] at t1
        obtain ⟨n0, e0, _, w0⟩ := DataW.trod_int u0 t0
        simp at e0
        subst e0
        obtain ⟨xs2, n2', _, _, _, hxl2, hfl2⟩ := DataW.trod_struct u1 t1
        match xs2, hxl2 with
        | [q0, q1], _ =>
          have b0 := hfl2 0 g0 rfl
          have b1 := hfl2 1 g1 rfl
          rw [p0, r0] at b0
          rw [p1, r1] at b1
          obtain ⟨n1, e1, _, w1⟩ := DataW.trod_int y0 b0
          obtain ⟨n2, e2, _, w2⟩ := DataW.trod_int y1 b1
          simp at e1 e2
          subst e1 e2
          have k := fun j (hj : j < 3) => hcell j hj
          simp only [add_addS] at k
          exact ⟨⟨n0, n1, n2⟩, ⟨i64_of_wf w0, i64_of_wf w1, i64_of_wf w2⟩, k 0 (by omega), k 1 (by omega), k 2 (by omega)⟩
    obtain ⟨X, hX⟩ := choose_lt each
    have hg : ∀ j, j < len → ((List.range len).map X).getD j oq0 = X j := fun j hj => by simp [List.getD, hj]
    refine ⟨some a, (List.range len).map X, m, by simp, fun h0 => ⟨a, rfl, ?_, fun j hj => ?_⟩, fun x hx => ?_, by unfold maxLen at hm; simp; omega, by simp; omega, fun h => by cases h⟩
    · have h0' : 0 < len := by simpa using h0
      have h1 := (hX 0 (by omega)).2.1
      have h2 := World.block_lt_of_cell? W (a.add (0 * 3)) h1
      rw [add_block] at h2
      exact h2
    · have hj' : j < len := by simpa using hj
      rw [hg j hj']
      exact (hX j (by omega)).2
    · obtain ⟨j, hj, rfl⟩ := List.mem_map.1 hx
      have hj' := List.mem_range.1 hj
      exact (hX j (by omega)).1
end
end Go.Proofs.Ytaeodkpkgbjaeaa
