import Derived.Test.YtdcemcpcjdkpjaaTreeI

/-! Layer 10: tree.Is. -/
namespace Go.Proofs.Ytdcemcpcjdkpjaa
open Go.RowKit
set_option linter.unusedVariables false
set_option linter.unusedSimpArgs false

theorem Kpc.setOff {w W : World} {g B : Nat} {l : List (Nat × Array Value × TypeId)} (hK : Kpc B W l w) (hl : ∀ x ∈ l, x.1 ≠ g) (hg : B ≤ g) (k : Nat) (u : Value) : Kpc B W l (w.setCell ⟨g, k, none⟩ u) :=
  ⟨fun x hx => (hK.1 x hx).off (show (⟨g, k, none⟩ : Addr).block ≠ x.1 from fun e => hl x hx e.symm) u, hK.2.1.setCell (p := ⟨g, k, none⟩) hg _, by simpa [World.setCell] using hK.2.2⟩
end Go.Proofs.Ytdcemcpcjdkpjaa
