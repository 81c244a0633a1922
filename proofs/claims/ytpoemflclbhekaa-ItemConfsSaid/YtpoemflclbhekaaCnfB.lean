/- A way to work (a struct of eleven ints) among the arguments of a law. -/
import Derived.Test.YtpoemflclbhekaaCnfA
import Derived.Test.YtpoemflclbhekaaSchA
import Derived.OpenShut
namespace Go.Proofs.Ytpoemflclbhekaa
open Go.RowKit Go.WideShapes Go.ChangeShapes Go.Joins Go.Deep
set_option linter.unusedVariables false
set_option linter.unusedSimpArgs false
section
open Go.WideShapes Go.ChangeShapes Go.Joins
variable {H : Type} {enc : TypeId × Value → H}
set_option maxRecDepth 100000 in
theorem open_conf {W : World} {base : Nat} {v : Value} {d : DataW H} {p : List MemPlace} (hv : Value.okWide Try.prog W .any base 23 v) (h : DataW.Trod enc Try.prog W 0 (fun _ => true) true 23 v d p) :
    ∃ dim win tr sam ev kind part whole tries keep notes : Int, v = cfV dim win tr sam ev kind part whole tries keep notes ∧ I64 whole := by
  obtain ⟨l, rfl, hl, hI⟩ := open_ints_of Try.underlying23 (by
    intro i f hf
    match i, hf with
    | 0, hf | 1, hf | 2, hf | 3, hf | 4, hf | 5, hf | 6, hf | 7, hf | 8, hf | 9, hf | 10, hf => obtain rfl := Option.some.inj hf; exact Try.underlying3
    | i + 11, hf => simp at hf) (by kernel_rfl) (by kernel_rfl) hv h
  match l, hl with
  | [dim, win, tr, sam, ev, kind, part, whole, tries, keep, notes], _ => exact ⟨dim, win, tr, sam, ev, kind, part, whole, tries, keep, notes, rfl, hI whole (by simp)⟩
end
end Go.Proofs.Ytpoemflclbhekaa
