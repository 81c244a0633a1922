/- How an argument []Act is opened; Has and Of of nil; what codes say of Has and Of. -/
import Derived.Deep.Slices
import Derived.Test.YtndofhcnjmbfeaaDoorPlyE
namespace Go.Proofs.YtndofhcnjmbfeaaDoor
open Go.RowKit Go.WideShapes Go.ChangeShapes Go.Joins Go.Deep
set_option linter.unusedVariables false
set_option linter.unusedSimpArgs false

section
variable {H : Type} {enc : TypeId × Value → H}
theorem add_add4 (a : Addr) (n m : Nat) : (a.add n).add m = a.add (n + m) := by
  unfold Addr.add
  by_cases hn : n = 0
  · subst hn; simp
  · by_cases hm : m = 0
    · subst hm; simp
    · simp [hn, hm, Nat.add_assoc]
theorem open_acts {P : Program} {W : World} {base : Nat} {t e : TypeId} {v : Value} {d : DataW H} {p : List MemPlace} {f0 f1 f2 f3 f4 f5 : Field} (ht : P.underlying t = some (.slice e)) (he : P.underlying e = some (.struct #[f0, f1, f2, f3, f4, f5])) (hc : P.cellsOf e = 6)
    (ho : (f0.offset, f1.offset, f2.offset, f3.offset, f4.offset, f5.offset) = (0, 1, 2, 3, 4, 5)) (hs : (P.cellsOf f0.type, P.cellsOf f1.type, P.cellsOf f2.type, P.cellsOf f3.type, P.cellsOf f4.type, P.cellsOf f5.type) = (1, 1, 1, 1, 1, 1))
    (hu : (P.underlying f0.type, P.underlying f1.type, P.underlying f2.type, P.underlying f3.type, P.underlying f4.type, P.underlying f5.type) = (some (.int .i64), some .string, some (.int .i64), some (.int .i64), some (.int .i64), some (.int .i64)))
    (hv : Value.okWide P W .any base t v) (h : DataW.Trod enc P W 0 (fun _ => true) true t v d p) :
    ∃ A l c, v = .slice A l.length c ∧ LiesA W W.heap.size A l ∧ (∀ x ∈ l, okAc x) ∧ l.length ≤ 9223372036854775807 := by
  simp only [Prod.mk.injEq] at ho hs hu
  obtain ⟨o0, o1, o2, o3, o4, o5⟩ := ho
  obtain ⟨s0, s1, s2, s3, s4, s5⟩ := hs
  obtain ⟨u0, u1, u2, u3, u4, u5⟩ := hu
  obtain ⟨a0, len, cap, rfl⟩ := okWide_slice ht hv
  obtain ⟨fuel, hf⟩ := h
  rcases open_slice ht hf with ⟨hcs, _⟩ | ⟨a, len', cap', m, n, D, Pl, hcs, _, hle, hm, hmm, _, hx⟩
  · simp [Value.cells] at hcs
    obtain ⟨rfl, rfl, rfl⟩ := hcs
    exact ⟨none, [], 0, rfl, fun h0 => absurd h0 (by simp), (fun x hx => by cases hx), by simp⟩
  · simp [Value.cells] at hcs
    obtain ⟨rfl, rfl, rfl⟩ := hcs
    simp only [if_true] at hmm
    subst hmm
    rw [hc] at hx
    have each : ∀ i, i < m → ∃ x : Ac, okAc x ∧ W.cell? (a.add (i * 6)) = some (.int .i64 x.doo) ∧ W.cell? (a.add (i * 6 + 1)) = some (.string x.op) ∧ W.cell? (a.add (i * 6 + 2)) = some (.int .i64 x.at_) ∧
        W.cell? (a.add (i * 6 + 3)) = some (.int .i64 x.code) ∧ W.cell? (a.add (i * 6 + 4)) = some (.int .i64 x.a) ∧ W.cell? (a.add (i * 6 + 5)) = some (.int .i64 x.b) := fun i hi => by
      obtain ⟨cs', h1, h2⟩ := hx i hi
      obtain ⟨_, hlen, hcell⟩ := World.cells?_some h1
      obtain ⟨xs, n', _, _, _, hxl, hfl⟩ := DataW.trod_struct he h2
      match cs', hlen, xs, hxl with
      | [v0, v1, v2, v3, v4, v5], _, [y0, y1, y2, y3, y4, y5], _ =>
        have t0 := hfl 0 f0 rfl
        have t1 := hfl 1 f1 rfl
        have t2 := hfl 2 f2 rfl
        have t3 := hfl 3 f3 rfl
        have t4 := hfl 4 f4 rfl
        have t5 := hfl 5 f5 rfl
        rw [o0, s0] at t0
        rw [o1, s1] at t1
        rw [o2, s2] at t2
        rw [o3, s3] at t3
        rw [o4, s4] at t4
        rw [o5, s5] at t5
        obtain ⟨n0, e0, _, w0⟩ := DataW.trod_int u0 t0
        obtain ⟨n1, e1, _, w1⟩ := DataW.trod_string u1 t1
        obtain ⟨n2, e2, _, w2⟩ := DataW.trod_int u2 t2
        obtain ⟨n3, e3, _, w3⟩ := DataW.trod_int u3 t3
        obtain ⟨n4, e4, _, w4⟩ := DataW.trod_int u4 t4
        obtain ⟨n5, e5, _, w5⟩ := DataW.trod_int u5 t5
        simp at e0 e1 e2 e3 e4 e5
        subst e0 e1 e2 e3 e4 e5
        have k := fun j (hj : j < 6) => hcell j hj
        simp only [add_add4] at k
        unfold maxLen at w1
        exact ⟨⟨n0, n1, n2, n3, n4, n5⟩, ⟨i64_of_wf w0, i64_of_wf w2, i64_of_wf w3, i64_of_wf w4, i64_of_wf w5, w1⟩, k 0 (by omega), k 1 (by omega), k 2 (by omega), k 3 (by omega), k 4 (by omega), k 5 (by omega)⟩
    have : Inhabited Ac := ⟨ac0⟩
    obtain ⟨X, hX⟩ := choose_lt each
    have hg : ∀ j, j < len → ((List.range len).map X).getD j ac0 = X j := fun j hj => by simp [List.getD, hj]
    refine ⟨some a, (List.range len).map X, m, by simp, fun h0 => ⟨a, rfl, ?_, fun j hj => ?_⟩, fun x hx => ?_, by unfold maxLen at hm; simp; omega⟩
    · have h0' : 0 < len := by simpa using h0
      have h1 := (hX 0 (by omega)).2.1
      have h2 := World.block_lt_of_cell? W (a.add (0 * 6)) h1
      rw [add_block] at h2
      exact h2
    · have hj' : j < len := by simpa using hj
      rw [hg j hj']
      exact (hX j (by omega)).2
    · obtain ⟨j, hj, rfl⟩ := List.mem_map.1 hx
      have hj' := List.mem_range.1 hj
      exact (hX j (by omega)).1
end

theorem fau_Has_nil (k : Int) (w : World) : Calls Tryd.prog 17 #[.pointer none, .int .i64 k] w fun e w' => e = .returned (.bool false) ∧ Below w.heap.size w w' := by
  go_enter Tryd.func17, Tryd.ntmps17
  go_wp2_with (go_at_call 29; refine (fau_has_nil _ _).mono ?_; rintro e w1 ⟨rfl, rfl⟩)
  go_ret
  exact ⟨rfl, Below.refl _ _⟩
theorem fau_Of_nil (k : Int) (w : World) : Calls Tryd.prog 18 #[.pointer none, .int .i64 k] w fun e w' => e = .returned (.bool false) ∧ Below w.heap.size w w' := by
  go_enter Tryd.func18, Tryd.ntmps18
  go_wp2_with (go_at_call 29; refine (fau_has_nil _ _).mono ?_; rintro e w1 ⟨rfl, rfl⟩)
  go_ret
  exact ⟨rfl, Below.refl _ _⟩
theorem hasF_codes (W : Want) : ∀ t : FT, hasF W t = (codesF t).any (fits W)
  | .code _ _ c => by simp [hasF, codesF]
  | .wrap _ _ t => by simp only [hasF, codesF]; exact hasF_codes W t
  | .both x y => by simp only [hasF, codesF, List.any_append]; rw [hasF_codes W x, hasF_codes W y]
theorem any_snoc {α : Type} (p : α → Bool) (l : List α) (d : α) {k : Nat} (h : k < l.length) : (l.take (k + 1)).any p = ((l.take k).any p || p (l.getD k d)) := by
  rw [List.take_succ_eq_append_getElem h, List.any_append]
  simp [List.getD, List.getElem?_eq_getElem h]
end Go.Proofs.YtndofhcnjmbfeaaDoor
