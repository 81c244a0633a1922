/- Contracts of num.Div, Gcd and Log: what each returns for any numbers, in any world. -/
import Derived.Test.YtbnpbflndnjmcaaNumW
namespace Go.Proofs.Ytbnpbflndnjmcaa
open Go.RowKit

/-- k is the least number from 0 on such that 2^k is not below n (or 63) -/
def IsLog (n : Int) (k : Nat) : Prop := k ≤ 63 ∧ (∀ j, j < k → (2 : Int) ^ j < n) ∧ (k < 63 → n ≤ 2 ^ k)
def LogPost (n : Int) (w : World) (e : Ending) (w' : World) : Prop := ∃ k : Nat, IsLog n k ∧ e = .returned (.int .i64 k) ∧ w = w'
theorem pow_wrap {k : Nat} (h : k < 63) : wrap64 (2 ^ k) = 2 ^ k ∧ (2 : Int) ^ k ≤ 4611686018427387904 ∧ 0 < (2 : Int) ^ k := by
  have h1 : (2 : Nat) ^ k ≤ 2 ^ 62 := Nat.pow_le_pow_right (by omega) (by omega)
  have h2 : (0 : Nat) < 2 ^ k := Nat.pow_pos (by omega)
  have h3 : ((2 ^ k : Nat) : Int) = (2 : Int) ^ k := by simp
  have h4 : (2 : Nat) ^ 62 = 4611686018427387904 := by decide
  rw [h4] at h1
  refine ⟨?_, by omega, by omega⟩
  rw [← h3]; unfold wrap64; omega
def gcdN (a b : Int) : Int := if Int.gcd a b ≤ 9223372036854775807 then Int.gcd a b else 0
def gcdE (a b : Int) : Int := if Int.gcd a b ≤ 9223372036854775807 then 0 else 10
abbrev gcdV (a b : Int) : Value := .tuple #[.int .i64 (gcdN a b), .int .i64 (gcdE a b)]
theorem gcdV_in {a b : Int} {X : Nat} (e : X = Int.gcd a b) (h : X ≤ 9223372036854775807) : Ending.returned (.tuple #[.int .i64 X, .int .i64 0]) = .returned (gcdV a b) := by
  unfold gcdV gcdN gcdE; rw [← e, if_pos h, if_pos h]
theorem gcdV_out {a b : Int} {X : Nat} (e : X = Int.gcd a b) (h : ¬ X ≤ 9223372036854775807) : Ending.returned (.tuple #[.int .i64 0, .int .i64 10]) = .returned (gcdV a b) := by
  unfold gcdV gcdN gcdE; rw [← e, if_neg h, if_neg h]
end Go.Proofs.Ytbnpbflndnjmcaa
