import Derived.Test.YtehekdahlnpldaaVecH

/-! Near: the reference's and package vec's. -/
namespace Go.Proofs.Ytehekdahlnpldaa
open Go.RowKit
set_option linter.unusedVariables false
set_option linter.unusedSimpArgs false

def nearE (R : List Row) (x : List Int) : Bool := isV x x.length && (allV R x.length && decide (0 < R.length))
def gapR (R : List Row) (x : List Int) (k : Nat) : Int := gapNN (R.getD k row0).l x
def nearAt (R : List Row) (x : List Int) : Int := if nearE R x then (nearG (gapR R x) R.length).1 else 0
def nearFar (R : List Row) (x : List Int) : Int := if nearE R x then (nearG (gapR R x) R.length).2 else 0
def nearC (R : List Row) (x : List Int) : Int := if nearE R x then 0 else 80
theorem gapE_iff2 {a b : List Int} : gapE a b = true ↔ isV b b.length = true ∧ isV a b.length = true := by
  unfold gapE; rw [Bool.and_eq_true]; exact And.comm
theorem nearE_iff {R : List Row} {x : List Int} : nearE R x = true ↔ 0 < R.length ∧ ∀ j, j < R.length → gapE (R.getD j row0).l x = true := by
  unfold nearE
  simp only [Bool.and_eq_true, decide_eq_true_eq, allV_iff, gapE_iff2]
  constructor
  · rintro ⟨h1, h2, h3⟩; exact ⟨h3, fun j hj => ⟨h1, h2 j hj⟩⟩
  · rintro ⟨h1, h2⟩; exact ⟨(h2 0 h1).1, fun j hj => (h2 j hj).2, h1⟩
theorem nearE_no {R : List Row} {x : List Int} {k : Nat} (hk : k < R.length) (h : gapE (R.getD k row0).l x = false) : nearE R x = false := by
  rw [Bool.eq_false_iff]; intro g
  rw [(nearE_iff.1 g).2 k hk] at h; cases h
/-- which is nearest so far, as the reference goes; -1 ahead of all -/
def nrS (g : Nat → Int) : Nat → Int × Int
  | 0 => (-1, 0)
  | k + 1 => if k = 0 ∨ g k < (nrS g k).2 then ((k : Int), g k) else nrS g k
theorem nrS_eq (g : Nat → Int) : ∀ k, nrS g (k + 1) = (((nearG g (k + 1)).1 : Int), (nearG g (k + 1)).2)
  | 0 => by
    rw [nearG_one]
    simp [nrS]
  | k + 1 => by
    have ih := nrS_eq g k
    rw [show nrS g (k + 1 + 1) = if k + 1 = 0 ∨ g (k + 1) < (nrS g (k + 1)).2 then (((k + 1 : Nat) : Int), g (k + 1)) else nrS g (k + 1) from rfl,
      show nearG g (k + 1 + 1) = if g (k + 1) < (nearG g (k + 1)).2 then (k + 1, g (k + 1)) else nearG g (k + 1) from rfl, ih]
    by_cases h : g (k + 1) < (nearG g (k + 1)).2
    · rw [if_pos (.inr h), if_pos h]
    · rw [if_neg (fun hh => hh.elim (by omega) h), if_neg h]
theorem nrS_neg (g : Nat → Int) {k : Nat} (h : 0 < k) : 0 ≤ (nrS g k).1 := by
  obtain ⟨j, rfl⟩ : ∃ j, k = j + 1 := ⟨k - 1, by omega⟩
  rw [nrS_eq]; simp
theorem if_or0p {k : Nat} (h : ¬ k = 0) (p : Prop) [Decidable p] (x y : Int × Int) : (if k = 0 ∨ p then x else y) = if p then x else y := by
  by_cases g : p
  · rw [if_pos (.inr g), if_pos g]
  · rw [if_neg (fun hh => hh.elim h g), if_neg g]
end Go.Proofs.Ytehekdahlnpldaa
