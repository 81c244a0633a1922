import Derived.Test.YtdcemcpcjdkpjaaTreeS

/-! Layer 10: spans in the memory; an inner node. -/
namespace Go.Proofs.Ytdcemcpcjdkpjaa
open Go.RowKit
set_option linter.unusedVariables false
set_option linter.unusedSimpArgs false

def spC (S : List (Int × Int)) : List Value := S.flatMap fun p => [.int .i64 p.1, .int .i64 p.2]
theorem spC_len (S : List (Int × Int)) : (spC S).length = S.length * 2 := by
  induction S with
  | nil => rfl
  | cons p S ih => show (spC S).length + 2 = _; rw [ih, List.length_cons]; omega
theorem spC_get (S : List (Int × Int)) : ∀ k, k < S.length → (spC S)[k * 2]? = some (.int .i64 (S.getD k (0, 0)).1) ∧ (spC S)[k * 2 + 1]? = some (.int .i64 (S.getD k (0, 0)).2) := by
  induction S with
  | nil => intro k hk; simp at hk
  | cons p S ih =>
    intro k hk
    cases k with
    | zero => exact ⟨rfl, rfl⟩
    | succ k =>
      have h := ih k (by simpa using hk)
      have e1 : (k + 1) * 2 = k * 2 + 1 + 1 := by omega
      show ((Value.int .i64 p.1) :: (Value.int .i64 p.2) :: spC S)[(k + 1) * 2]? = _ ∧ ((Value.int .i64 p.1) :: (Value.int .i64 p.2) :: spC S)[(k + 1) * 2 + 1]? = _
      rw [e1]
      simpa using h
/-- what 'inner' tells of node i -/
def innBad (N : List TN) (S : List (Int × Int)) (i : Nat) : Prop := (i : Int) = N.length - 1 ∨ ¬ (N.getD i tn0).lf = (i : Int) + 1 ∨ ¬ (N.getD i tn0).rt = (S.getD (i + 1) (0, 0)).1 ∨ (N.length : Int) - 1 < (N.getD i tn0).rt
/-! ### the cases -/
theorem i64wT {i : Nat} (h : i ≤ 100000) : IntKind.i64.wrap ((i : Int) + 1) = (i : Int) + 1 := by
  simp [IntKind.wrap, IntKind.bits, IntKind.signed]
  try omega
theorem Kpc.drewN {B : Nat} {W w : World} {l : List (Nat × Array Value × TypeId)} (h : Kpc B W l w) (n : Nat) : Kpc B W l (w.drewN n) := ⟨fun x hx => h.1 x hx, below_drewN2 h.2.1 n, h.2.2⟩

end Go.Proofs.Ytdcemcpcjdkpjaa
