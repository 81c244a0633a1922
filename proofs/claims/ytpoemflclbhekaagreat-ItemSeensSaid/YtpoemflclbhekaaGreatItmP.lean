/- Layer 22 (item): the request that a caller passes. -/
import Derived.Test.YtpoemflclbhekaaGreatCutH
import Derived.Test.YtpoemflclbhekaaGreatCnfA
import Derived.OpenShut
namespace Go.Proofs.YtpoemflclbhekaaGreat
open Go.RowKit Go.WideShapes Go.ChangeShapes Go.Joins Go.Deep
set_option linter.unusedVariables false
set_option linter.unusedSimpArgs false

theorem array5 {α : Type} {cs : Array α} (h : cs.size = 5) : ∃ c0 c1 c2 c3 c4, cs = #[c0, c1, c2, c3, c4] := by
  obtain ⟨l⟩ := cs
  match l, h with
  | [c0, c1, c2, c3, c4], _ => exact ⟨c0, c1, c2, c3, c4, rfl⟩
theorem five_of {α : Type} {l : List α} (h : l.length = 5) : ∃ c0 c1 c2 c3 c4, l = [c0, c1, c2, c3, c4] := by
  match l, h with
  | [c0, c1, c2, c3, c4], _ => exact ⟨c0, c1, c2, c3, c4, rfl⟩
section
variable {H : Type} {enc : TypeId × Value → H}
theorem open_ask5 {P : Program} {W : World} {base : Nat} {t e : TypeId} {f0 f1 f2 f3 f4 : Field} {v : Value} {d : DataW H} {p : List MemPlace} (hs : P.underlying t = some (.struct #[f0, f1, f2, f3, f4]))
    (h0 : P.underlying f0.type = some (.int .i64)) (h1 : P.underlying f1.type = some (.int .i64)) (h2 : P.underlying f2.type = some (.slice e)) (he : P.underlying e = some (.int .i64)) (hc : P.cellsOf e = 1)
    (h3 : P.underlying f3.type = some (.int .i64)) (h4 : P.underlying f4.type = some (.int .i64)) (hone : oneCellFields P #[f0, f1, f2, f3, f4] = true) (hC : P.cellsOf t = 5)
    (hv : Value.okWide P W .any base t v) (h : DataW.Trod enc P W 0 (fun _ => true) true t v d p) :
    ∃ k id A X c n m, v = .agg #[.int .i64 k, .int .i64 id, .slice A (List.length X) c, .int .i64 n, .int .i64 m] ∧ Lies W W.heap.size A X ∧ (∀ x ∈ X, I64 x) ∧ X.length ≤ c ∧ c ≤ 9223372036854775807 ∧ I64 k ∧ I64 id ∧ I64 n ∧ I64 m := by
  obtain ⟨cs, rfl, hsz⟩ := okWide_struct hs hv
  obtain ⟨c0, c1, c2, c3, c4, rfl⟩ := array5 (hsz.trans hC)
  obtain ⟨fuel, hf⟩ := h
  obtain ⟨xs, n, _, _, hl, hlen, hfl⟩ := DataW.trod_struct hs hf
  obtain ⟨y0, y1, y2, y3, y4, rfl⟩ := five_of hlen
  obtain ⟨o0, k0⟩ := hone_of hone 0 f0 rfl
  obtain ⟨o1, k1⟩ := hone_of hone 1 f1 rfl
  obtain ⟨o2, k2⟩ := hone_of hone 2 f2 rfl
  obtain ⟨o3, k3⟩ := hone_of hone 3 f3 rfl
  obtain ⟨o4, k4⟩ := hone_of hone 4 f4 rfl
  have t0 := hfl 0 f0 rfl
  have t1 := hfl 1 f1 rfl
  have t2 := hfl 2 f2 rfl
  have t3 := hfl 3 f3 rfl
  have t4 := hfl 4 f4 rfl
  simp [Value.cells, o0, k0] at t0
  simp [Value.cells, o1, k1] at t1
  simp [Value.cells, o2, k2] at t2
  simp [Value.cells, o3, k3] at t3
  simp [Value.cells, o4, k4] at t4
  obtain ⟨A, X, c, rfl, g1, g2, g3, g4⟩ := open_ints_cs h2 he hc t2
  obtain ⟨b0, e0, _, w0⟩ := DataW.trod_int h0 t0
  obtain ⟨b1, e1, _, w1⟩ := DataW.trod_int h1 t1
  obtain ⟨b3, e3, _, w3⟩ := DataW.trod_int h3 t3
  obtain ⟨b4, e4, _, w4⟩ := DataW.trod_int h4 t4
  simp at e0 e1 e3 e4
  subst e0 e1 e3 e4
  exact ⟨b0, b1, A, X, c, b3, b4, rfl, g1, g2, g3, g4, i64_of_wf w0, i64_of_wf w1, i64_of_wf w3, i64_of_wf w4⟩
set_option maxRecDepth 100000 in
theorem open_ask {W : World} {base : Nat} {v : Value} {d : DataW H} {p : List MemPlace} (hv : Value.okWide Tryz.prog W .any base 51 v) (h : DataW.Trod enc Tryz.prog W 0 (fun _ => true) true 51 v d p) :
    ∃ k id A X c n m, v = .agg #[.int .i64 k, .int .i64 id, .slice A (List.length X) c, .int .i64 n, .int .i64 m] ∧ Lies W W.heap.size A X ∧ (∀ x ∈ X, I64 x) ∧ X.length ≤ c ∧ c ≤ 9223372036854775807 ∧ I64 k ∧ I64 id ∧ I64 n ∧ I64 m :=
  open_ask5 Tryz.underlying51 Tryz.underlying3 Tryz.underlying3 Tryz.underlying39 Tryz.underlying3 cells_i8 Tryz.underlying3 Tryz.underlying3 (by kernel_rfl) (by kernel_rfl) hv h
end
end Go.Proofs.YtpoemflclbhekaaGreat
