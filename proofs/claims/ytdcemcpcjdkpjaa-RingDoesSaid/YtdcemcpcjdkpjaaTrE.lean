import Derived.Test.YtdcemcpcjdkpjaaTrD
import Derived.Test.YtdcemcpcjdkpjaaCutH
import Derived.Deep.Slices

/-! Layer 10: how a tree among the arguments of a law is opened; is it more than is waited for? -/
namespace Go.Proofs.Ytdcemcpcjdkpjaa
open Go.RowKit Go.WideShapes Go.ChangeShapes Go.Joins Go.Deep
set_option linter.unusedVariables false
set_option linter.unusedSimpArgs false
section
variable {H : Type} {enc : TypeId × Value → H}
theorem add_addT (a : Addr) (n m : Nat) : (a.add n).add m = a.add (n + m) := by
  unfold Addr.add
  by_cases hn : n = 0
  · subst hn; simp
  · by_cases hm : m = 0
    · subst hm; simp
    · simp [hn, hm, Nat.add_assoc]
/-- a row of nodes, read -/
theorem open_nodes_cs {P : Program} {W : World} {t e q : TypeId} {v : Value} {n : Nat} {y : DataW H × List MemPlace} {f0 f1 f2 f3 g0 g1 : Field} (ht : P.underlying t = some (.slice e)) (he : P.underlying e = some (.struct #[f0, f1, f2, f3])) (hc : P.cellsOf e = 5)
    (ho : (f0.offset, f1.offset, f2.offset, f3.offset) = (0, 2, 3, 4)) (hs : (P.cellsOf f0.type, P.cellsOf f1.type, P.cellsOf f2.type, P.cellsOf f3.type) = (2, 1, 1, 1))
    (hu : (P.underlying f0.type, P.underlying f1.type, P.underlying f2.type, P.underlying f3.type) = (some (.struct #[g0, g1]), some (.int .i64), some (.int .i64), some (.int .i64)))
    (hg : (g0.offset, g1.offset) = (0, 1)) (hgs : (P.cellsOf g0.type, P.cellsOf g1.type) = (1, 1)) (hgu : (P.underlying g0.type, P.underlying g1.type) = (some (.slice q), some (.int .i64))) (hq : P.underlying q = some (.int .i64)) (hqc : P.cellsOf q = 1)
    (hf : DataW.trod enc P W 0 (fun _ => true) true n t [v] = some y) :
    ∃ A N c, v = .slice A N.length c ∧ LiesT W W.heap.size A N ∧ okT N ∧ N.length ≤ c ∧ c ≤ 9223372036854775807 := by
  simp only [Prod.mk.injEq] at ho hs hu hg hgs hgu
  obtain ⟨o0, o1, o2, o3⟩ := ho
  obtain ⟨s0, s1, s2, s3⟩ := hs
  obtain ⟨u0, u1, u2, u3⟩ := hu
  obtain ⟨p0, p1⟩ := hg
  obtain ⟨r0, r1⟩ := hgs
  obtain ⟨w0, w1⟩ := hgu
  rcases open_slice ht hf with ⟨hcs, _⟩ | ⟨a, len', cap', m, n, D, Pl, hcs, _, hle, hm, hmm, _, hx⟩
  · simp at hcs
    subst hcs
    exact ⟨none, [], 0, rfl, ⟨fun h0 => absurd h0 (by simp), fun n hn => by cases hn⟩, (fun n hn => by cases hn), by simp, by simp⟩
  · simp at hcs
    subst hcs
    simp only [if_true] at hmm
    subst hmm
    rw [hc] at hx
    have each : ∀ i, i < m → ∃ x : TN, (x.co.length ≤ x.c ∧ (x.c : Int) ≤ 9223372036854775807 ∧ (∀ y ∈ x.co, I64 y) ∧ I64 x.lv ∧ I64 x.lf ∧ I64 x.rt ∧ I64 x.sz) ∧ Nd5 W a i x ∧ Lies W W.heap.size x.a x.co := fun i hi => by
      obtain ⟨cs', h1, h2⟩ := hx i hi
      obtain ⟨_, hlen, hcell⟩ := World.cells?_some h1
      obtain ⟨xs, n', _, _, _, hxl, hfl⟩ := DataW.trod_struct he h2
      match cs', hlen, xs, hxl with
      | [v0, v1, v2, v3, v4], _, [y0, y1, y2, y3], _ =>
        have t0 := hfl 0 f0 rfl
        have t1 := hfl 1 f1 rfl
        have t2 := hfl 2 f2 rfl
        have t3 := hfl 3 f3 rfl
        rw [o0, s0] at t0
        rw [o1, s1] at t1
        rw [o2, s2] at t2
        rw [o3, s3] at t3
        obtain ⟨n1, e1, _, w1'⟩ := DataW.trod_int u1 t1
        obtain ⟨n2, e2, _, w2'⟩ := DataW.trod_int u2 t2
        obtain ⟨n3, e3, _, w3'⟩ := DataW.trod_int u3 t3
        simp at e1 e2 e3
        subst e1 e2 e3
        obtain ⟨xs2, n2', _, _, _, hxl2, hfl2⟩ := DataW.trod_struct u0 t0
        match xs2, hxl2 with
        | [z0, z1], _ =>
          have q0 := hfl2 0 g0 rfl
          have q1 := hfl2 1 g1 rfl
          rw [p0, r0] at q0
          rw [p1, r1] at q1
          obtain ⟨n4, e4, _, w4'⟩ := DataW.trod_int w1 q1
          simp at e4
          subst e4
          obtain ⟨A, l, c, e5, k1, k2, k3, k4⟩ := open_ints_cs (v := v0) w0 hq hqc (by simpa using q0)
          subst e5
          have k := fun j (hj : j < 5) => hcell j hj
          simp only [add_addT] at k
          exact ⟨⟨A, c, l, n4, n1, n2, n3⟩, ⟨k3, by show (c : Int) ≤ _; omega, k2, i64_of_wf w4', i64_of_wf w1', i64_of_wf w2', i64_of_wf w3'⟩, ⟨k 0 (by omega), k 1 (by omega), k 2 (by omega), k 3 (by omega), k 4 (by omega)⟩, k1⟩
    have : Inhabited TN := ⟨tn0⟩
    obtain ⟨X, hX⟩ := choose_lt each
    have hgd : ∀ j, j < len' → ((List.range len').map X).getD j tn0 = X j := fun j hj => by simp [List.getD, hj]
    unfold maxLen at hm
    refine ⟨some a, (List.range len').map X, m, by simp, ⟨fun h0 => ⟨a, rfl, ?_, fun j hj => ?_⟩, fun x hx => ?_⟩, fun x hx => ?_, by simp; omega, by omega⟩
    · have h0' : 0 < len' := by simpa using h0
      have h1 := (hX 0 (by omega)).2.1.1
      have h2 := World.block_lt_of_cell? W (a.add (0 * 5)) h1
      rw [add_block] at h2
      exact h2
    · have hj' : j < len' := by simpa using hj
      rw [hgd j hj']
      exact (hX j (by omega)).2.1
    · obtain ⟨j, hj, rfl⟩ := List.mem_map.1 hx
      exact (hX j (by have := List.mem_range.1 hj; omega)).2.2
    · obtain ⟨j, hj, rfl⟩ := List.mem_map.1 hx
      exact (hX j (by have := List.mem_range.1 hj; omega)).1
end
/-- more than is waited for -/
def muchT (N : List TN) : Bool := decide (200 < N.length ∨ ∃ n ∈ N, 20 < n.co.length)
theorem muchT_no {N : List TN} (h1 : N.length ≤ 200) (h2 : ∀ j, j < N.length → ¬ 20 < (N.getD j tn0).co.length) : muchT N = false := by
  refine decide_eq_false ?_
  rintro (h | ⟨n, hn, h⟩)
  · omega
  · obtain ⟨j, hj, rfl⟩ := List.mem_iff_getElem.1 hn
    have := h2 j hj
    rw [List.getD_eq_getElem?_getD, List.getElem?_eq_getElem hj] at this
    exact this h
theorem muchT_yes {N : List TN} {j : Nat} (hj : j < N.length) (h : 20 < (N.getD j tn0).co.length) : muchT N = true := decide_eq_true (.inr ⟨_, mem_tn hj, h⟩)
theorem muchT_len {N : List TN} (h : muchT N = false) : N.length ≤ 200 ∧ ∀ n ∈ N, n.co.length ≤ 20 := by
  have h' := of_decide_eq_false h
  refine ⟨?_, fun n hn => ?_⟩
  · rcases Nat.lt_or_ge 200 N.length with g | g
    · exact absurd (.inl g) h'
    · exact g
  · rcases Nat.lt_or_ge 20 n.co.length with g | g
    · exact absurd (.inr ⟨n, hn, g⟩) h'
    · exact g
end Go.Proofs.Ytdcemcpcjdkpjaa
