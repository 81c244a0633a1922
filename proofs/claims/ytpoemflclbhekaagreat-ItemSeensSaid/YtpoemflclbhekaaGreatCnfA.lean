import Derived.Test.YtpoemflclbhekaaGreatBase
import Derived.Lib.SmallJoins

/-! A way to work (a struct of eleven ints) among the arguments of a law: how it is opened. -/
namespace Go.Proofs.YtpoemflclbhekaaGreat
open Go.RowKit Go.WideShapes Go.ChangeShapes Go.Joins Go.Deep
set_option linter.unusedVariables false
set_option linter.unusedSimpArgs false
section
variable {H : Type} {enc : TypeId × Value → H}
theorem ints_of : ∀ (L : List Value), (∀ i, i < L.length → ∃ n, L[i]? = some (.int .i64 n) ∧ I64 n) → ∃ l : List Int, L = l.map (Value.int .i64) ∧ ∀ x ∈ l, I64 x
  | [], _ => ⟨[], rfl, fun x hx => by cases hx⟩
  | v :: L, h => by
    obtain ⟨n, e, hn⟩ := h 0 (by simp)
    obtain ⟨l, rfl, hl⟩ := ints_of L fun i hi => by
      have := h (i + 1) (by simp; omega)
      simpa using this
    simp only [List.getElem?_cons_zero, Option.some.injEq] at e
    exact ⟨n :: l, by simp [e], fun x hx => by
      rcases List.mem_cons.1 hx with rfl | hx
      · exact hn
      · exact hl x hx⟩
theorem open_ints_of {P : Program} {W : World} {base : Nat} {t : TypeId} {fs : Array Field} {v : Value} {d : DataW H} {p : List MemPlace} (hs : P.underlying t = some (.struct fs))
    (hall : ∀ (i : Nat) (f : Field), fs[i]? = some f → P.underlying f.type = some (.int .i64)) (hone : oneCellFields P fs = true) (hC : P.cellsOf t = fs.size)
    (hv : Value.okWide P W .any base t v) (h : DataW.Trod enc P W 0 (fun _ => true) true t v d p) :
    ∃ l : List Int, v = .agg (l.map (Value.int .i64)).toArray ∧ l.length = fs.size ∧ ∀ x ∈ l, I64 x := by
  obtain ⟨cs, rfl, hsz⟩ := okWide_struct hs hv
  obtain ⟨fuel, hf⟩ := h
  obtain ⟨xs, n, _, _, hl, hlen, hfl⟩ := DataW.trod_struct hs hf
  obtain ⟨cl⟩ := cs
  simp only [Value.cells] at hfl hl
  have hsz' : cl.length = fs.size := by simpa using hsz.trans hC
  obtain ⟨l, hL, hI⟩ := ints_of cl fun i hi => by
    have hfi : fs[i]? = some (fs[i]'(by omega)) := Array.getElem?_eq_getElem (by omega)
    obtain ⟨o, k⟩ := hone_of hone i _ hfi
    have t0 := hfl i _ hfi
    rw [o, k] at t0
    have e1 : (cl.toArray.toList.drop i).take 1 = [cl[i]] := by
      rw [List.drop_eq_getElem_cons (by simpa using hi)]; rfl
    rw [e1] at t0
    rw [List.getElem?_eq_getElem (show i < xs.length by omega)] at t0
    obtain ⟨m, e, _, hw⟩ := DataW.trod_int (hall i _ hfi) t0
    have e' : cl[i] = .int .i64 m := by simpa using e
    exact ⟨m, by rw [List.getElem?_eq_getElem hi, e'], i64_of_wf hw⟩
  exact ⟨l, by rw [hL], by rw [← hsz', hL]; simp, hI⟩
end
end Go.Proofs.YtpoemflclbhekaaGreat
