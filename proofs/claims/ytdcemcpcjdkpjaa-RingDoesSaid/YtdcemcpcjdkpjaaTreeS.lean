import Derived.Test.YtdcemcpcjdkpjaaTreeA

/-! Layer 10: Same. -/
namespace Go.Proofs.Ytdcemcpcjdkpjaa
open Go.RowKit
set_option linter.unusedVariables false
set_option linter.unusedSimpArgs false

def nodeS (x y : TN) : Prop := samC x.co x.lv y.co y.lv = true ∧ x.lf = y.lf ∧ x.rt = y.rt ∧ x.sz = y.sz
instance (x y : TN) : Decidable (nodeS x y) := by unfold nodeS; exact inferInstance
def samT (d : Int) (N : List TN) (e : Int) (M : List TN) : Bool := decide (d = e ∧ N.length = M.length ∧ ∀ j, j < N.length → nodeS (N.getD j tn0) (M.getD j tn0))
theorem box5' {w : World} {g : Nat} {a b c d e : Value} {t : TypeId} (h : Box w g #[a, b, c, d, e] t) : w.cell? ⟨g, 0, none⟩ = some a ∧ w.cell? ⟨g, 1, none⟩ = some b ∧ w.cell? ⟨g, 2, none⟩ = some c ∧ w.cell? ⟨g, 3, none⟩ = some d ∧ w.cell? ⟨g, 4, none⟩ = some e :=
  ⟨h.cell 0, h.cell 1, h.cell 2, h.cell 3, h.cell 4⟩
end Go.Proofs.Ytdcemcpcjdkpjaa
