import Derived.Test.YtdcemcpcjdkpjaaTreeE

/-! Layer 10: an inner node. -/
namespace Go.Proofs.Ytdcemcpcjdkpjaa
open Go.RowKit
set_option linter.unusedVariables false
set_option linter.unusedSimpArgs false
theorem Kpc.swap {B : Nat} {W w : World} {x y : Nat × Array Value × TypeId} {l : List (Nat × Array Value × TypeId)} (h : Kpc B W (x :: y :: l) w) : Kpc B W (y :: x :: l) w := by
  refine ⟨fun z hz => h.1 z ?_, h.2⟩
  rcases List.mem_cons.1 hz with rfl | hz
  · exact List.mem_cons_of_mem _ List.mem_cons_self
  · rcases List.mem_cons.1 hz with rfl | hz
    · exact List.mem_cons_self
    · exact List.mem_cons_of_mem _ (List.mem_cons_of_mem _ hz)


end Go.Proofs.Ytdcemcpcjdkpjaa
