/- Layer 18 (bag): Len; beyond; what beyond's closure tells. -/
import Derived.Test.YtaeodkpkgbjaeaaBagE
namespace Go.Proofs.Ytaeodkpkgbjaeaa
open Go.RowKit
set_option linter.unusedVariables false
set_option linter.unusedSimpArgs false

set_option maxRecDepth 100000 in
theorem bag_len (g : Nat) (v : Value) (n : Int) (w : World) (hb : Box w g #[v, .int .i64 n] 126) :
    Calls Try.prog 19 #[.pointer (some ⟨g, 0, none⟩)] w fun e w' => e = .returned (.int .i64 n) ∧ w = w' := by
  obtain ⟨x0, x1, _, _⟩ := hb.two
  go_enter Try.func19, Try.ntmps19
  go_wp2
  go_ret
  exact ⟨rfl, rfl⟩
set_option maxRecDepth 100000 in
theorem bag_len0 (w : World) :
    Calls Try.prog 19 #[.pointer none] w fun e w' => e = .returned (.int .i64 0) ∧ w = w' := by
  go_enter Try.func19, Try.ntmps19
  go_wp2
  go_ret
  exact ⟨rfl, rfl⟩
set_option maxRecDepth 100000 in
theorem bag_beyond (a b : Int) (w : World) :
    Calls Try.prog 85 #[.agg #[.int .i64 a, .int .i64 b]] w fun e w' => e = .returned (.func (.func 145) #[] #[.pointer (some ⟨w.heap.size, 0, none⟩)]) ∧ w' = w.alloc (.cells #[.int .i64 a, .int .i64 b] 24) := by
  go_enter Try.func85, Try.ntmps85
  go_wp2
  go_ret
  exact ⟨rfl, rfl⟩
/-- beyond's closure tells of any score whether it is odder than the one in block gl -/
theorem bag_tells (c d : Int) (hc : I64 c) (hd : I64 d) (gl B : Nat) (w : World) (hl : Box w gl #[.int .i64 c, .int .i64 d] 24) (hB : gl < B) :
    Tells 145 #[.pointer (some ⟨gl, 0, none⟩)] (fun x => byB x.1 x.2 c d) B w := fun p q hp hq wr hb =>
  bag_more p q c d hp hq hc hd gl wr (hl.below hb hB)
end Go.Proofs.Ytaeodkpkgbjaeaa
