/- Layer 18 (bag): the closure of beyond, check, first. -/
import Derived.Test.YtaeodkpkgbjaeaaScoC
namespace Go.Proofs.Ytaeodkpkgbjaeaa
open Go.RowKit
set_option linter.unusedVariables false
set_option linter.unusedSimpArgs false

/-- whether the first of two scores is odder -/
def byB (a b c d : Int) : Bool := decide (0 < cpN a b c d)
set_option maxRecDepth 100000 in
set_option maxHeartbeats 4000000 in
theorem bag_more (a b c d : Int) (ha : I64 a) (hb : I64 b) (hc : I64 c) (hd : I64 d) (gl : Nat) (w : World) (hl : Box w gl #[.int .i64 c, .int .i64 d] 24) :
    Calls Try.prog 145 #[.agg #[.int .i64 a, .int .i64 b], .pointer (some ⟨gl, 0, none⟩)] w fun e w' => e = .returned (.bool (byB a b c d)) ∧ Below w.heap.size w w' := by
  have J0 := Lib.hid ((Keeps.start w).alloc #[.int .i64 a, .int .i64 b] 24)
  obtain ⟨x0, x1, _, _⟩ := J0.out.head.two
  have HL := Lib.hid (hl.below J0.out.2.1 hl.lt)
  obtain ⟨l0, l1, _, _⟩ := HL.out.two
  have K := Lib.hid (fun W => sco_cmp a b c d ha hb hc hd W)
  unfold byB
  unfold cpV at K
  generalize cpE a b c d = e0 at *
  generalize cpN a b c d = n at *
  clear hl
  go_enter Try.func145, Try.ntmps145
  go_wp2_with fail
  refine (K.out _).mono ?_
  rintro e w1 ⟨rfl, b1⟩
  have J1 := Lib.hid (J0.out.below b1)
  clear b1 x0 x1 l0 l1
  go_wp2
  go_ret
  exact ⟨by trivial, J1.out.2.1⟩
def bcE (p q : Int) : Int := if scoB p q = true then 0 else 130
set_option maxRecDepth 100000 in
set_option maxHeartbeats 4000000 in
theorem bag_check (o : Option Addr) (p q : Int) (hp : I64 p) (hq : I64 q) (w : World) :
    Calls Try.prog 84 #[.pointer o, .agg #[.int .i64 p, .int .i64 q]] w fun e w' => e = .returned (.int .i64 (if o = none then 7 else bcE p q)) ∧ Below w.heap.size w w' := by
  have J0 := Lib.hid ((Keeps.start w).alloc #[.int .i64 p, .int .i64 q] 24)
  have K := Lib.hid (fun W => sco_is p q hp hq W)
  unfold bcE
  generalize scoB p q = B at *
  cases o with
  | none =>
    go_enter Try.func84, Try.ntmps84
    go_wp2
    go_ret
    exact ⟨by trivial, J0.out.2.1⟩
  | some A =>
    cases B
    all_goals
      obtain ⟨x0, x1, _, _⟩ := J0.out.head.two
      go_enter Try.func84, Try.ntmps84
      go_wp2_with fail
      refine (K.out _).mono ?_
      rintro e w1 ⟨rfl, b1⟩
      have J1 := Lib.hid (J0.out.below b1)
      clear b1 x0 x1
      go_wp2
      go_ret
      exact ⟨by trivial, J1.out.2.1⟩
end Go.Proofs.Ytaeodkpkgbjaeaa
