/- The contract of word.Div: two words divided by one. -/
import Derived.Test.YtndofhcnjmbfeaaDoorWideA
namespace Go.Proofs.YtndofhcnjmbfeaaDoor
open Go.RowKit

def p2 (k : Nat) : Int := 2 ^ k
theorem p2_s (k : Nat) : p2 (k + 1) = p2 k * 2 := by unfold p2; exact Int.pow_succ 2 k
theorem p2_pos (k : Nat) : 0 < p2 k := by
  induction k with
  | zero => decide
  | succ k ih => rw [p2_s]; omega
theorem p2_bd {k : Nat} (h : k ≤ 63) : p2 k ≤ 9223372036854775808 := by
  have h1 : (2 : Nat) ^ k ≤ 2 ^ 63 := Nat.pow_le_pow_right (by omega) h
  have h3 : ((2 ^ k : Nat) : Int) = p2 k := by unfold p2; simp
  have h4 : (2 : Nat) ^ 63 = 9223372036854775808 := by decide
  omega
theorem or_bit (Q : Int) (b : Nat) (h0 : 0 ≤ Q) (h1 : Q * p2 (b + 1) + p2 b < 18446744073709551616) : bits .or .u64 (Q * p2 (b + 1)) (p2 b) = Q * p2 (b + 1) + p2 b := by
  have hp := p2_pos b
  have hq := p2_pos (b + 1)
  have h2 : 0 ≤ Q * p2 (b + 1) := Int.mul_nonneg h0 (by omega)
  rw [u64_or _ _ h2 (by omega) (by omega) (by omega)]
  obtain ⟨Q, rfl⟩ := Int.eq_ofNat_of_zero_le h0
  have e : ((Q : Int) * p2 (b + 1)).toNat = 2 ^ (b + 1) * Q := by
    have : ((Q : Int) * p2 (b + 1)) = ((2 ^ (b + 1) * Q : Nat) : Int) := by unfold p2; simp [Int.mul_comm]
    rw [this]; rfl
  have e2 : (p2 b).toNat = 2 ^ b := by
    have : p2 b = ((2 ^ b : Nat) : Int) := by unfold p2; simp
    rw [this]; rfl
  rw [e, e2, ← Nat.two_pow_add_eq_or_of_lt (by exact Nat.pow_lt_pow_right (by omega) (by omega) : 2 ^ b < 2 ^ (b + 1))]
  unfold p2
  simp [Int.mul_comm]
theorem or_low1 (x y : Int) (h0 : 0 ≤ x) (h1 : x * 2 < 18446744073709551616) (y0 : 0 ≤ y) (y1 : y ≤ 1) : bits .or .u64 (x * 2) y = x * 2 + y := by
  rw [u64_or _ _ (by omega) (by omega) (by omega) (by omega)]
  obtain ⟨x, rfl⟩ := Int.eq_ofNat_of_zero_le h0
  obtain ⟨y, rfl⟩ := Int.eq_ofNat_of_zero_le y0
  have e : ((x : Int) * 2).toNat = 2 ^ 1 * x := by omega
  have e2 : ((y : Int)).toNat = y := by omega
  rw [e, e2, ← Nat.two_pow_add_eq_or_of_lt (by omega : y < 2 ^ 1)]
  omega
theorem and_1 (x : Int) (h0 : 0 ≤ x) (h1 : x < 18446744073709551616) : bits .and .u64 x 1 = x % 2 := by
  rw [u64_and _ _ h0 h1 (by omega) (by omega)]
  obtain ⟨x, rfl⟩ := Int.eq_ofNat_of_zero_le h0
  have e2 : ((x : Int)).toNat = x := by omega
  have e3 : (1 : Int).toNat = 1 := rfl
  rw [e2, e3, Nat.and_one_is_mod]
  omega
def DivPost (h l d : Int) (w : World) (e : Ending) (w' : World) : Prop :=
  e = .returned (.tuple #[.int .u64 (wv h l / d), .int .u64 (wv h l % d)]) ∧ ∃ n, w' = w.drewN n
theorem div_step (N r d Q : Int) (k : Nat) (h : N / p2 (k + 1) = Q * d + r) : N / p2 k = 2 * Q * d + (2 * r + N / p2 k % 2) := by
  have e : N / p2 (k + 1) = N / p2 k / 2 := by rw [p2_s, Int.ediv_ediv_of_nonneg (by have := p2_pos k; omega)]
  rw [e] at h
  have : N / p2 k = N / p2 k / 2 * 2 + N / p2 k % 2 := by omega
  rw [h] at this
  rw [this]
  grind
theorem bit_eq (h l : Int) (b : Nat) (hb : b ≤ 63) : wv h l / p2 b % 2 = l / p2 b % 2 := by
  have e : (18446744073709551616 : Int) = p2 b * (p2 (63 - b) * 2) := by
    have h1 : p2 b * (p2 (63 - b) * 2) = p2 64 := by
      rw [← p2_s]; unfold p2; rw [← Int.pow_add]; congr 1; omega
    rw [h1]; rfl
  unfold wv
  rw [e, ← Int.mul_assoc, Int.mul_comm h, Int.mul_assoc, Int.add_comm, Int.add_mul_ediv_left _ _ (by have := p2_pos b; omega)]
  have : h * (p2 (63 - b) * 2) = h * p2 (63 - b) * 2 := by rw [Int.mul_assoc]
  rw [this]
  omega
theorem and_t (l : Int) (b : Nat) (l0 : 0 ≤ l) (l1 : l < 18446744073709551616) : bits .and .u64 (l / 2 ^ b) 1 = l / p2 b % 2 := by
  have h1 : 0 ≤ l / p2 b := Int.ediv_nonneg l0 (by have := p2_pos b; omega)
  have h2 : l / p2 b ≤ l := Int.ediv_le_self _ l0
  exact and_1 (l / p2 b) h1 (by omega)
theorem q_bd (N d Q R : Int) (b : Nat) (hd : 0 < d) (hN : N < 18446744073709551616 * d) (hR : 0 ≤ R) (h : N / p2 b = Q * d + R) : Q * p2 b < 18446744073709551616 := by
  have hp := p2_pos b
  have h1 : N / p2 b * p2 b ≤ N := Int.ediv_mul_le N (by omega)
  have h2 : Q * d * p2 b ≤ N / p2 b * p2 b := Int.mul_le_mul_of_nonneg_right (by omega) (by omega)
  have h3 : Q * p2 b * d < 18446744073709551616 * d := by
    have : Q * p2 b * d = Q * d * p2 b := by rw [Int.mul_assoc, Int.mul_comm (p2 b) d, ← Int.mul_assoc]
    omega
  exact Int.lt_of_mul_lt_mul_right h3 (by omega)
theorem wrap_p2 (b : Nat) (hb : b ≤ 63) : IntKind.u64.wrap (2 ^ b) = p2 b := by
  have h1 := p2_bd hb
  have h2 := p2_pos b
  show IntKind.u64.wrap (p2 b) = p2 b
  rw [u64w]; omega
theorem div_sub {h l d Q q r X : Int} {b : Nat} (hb : b ≤ 63) (hd : 0 < d) (hN : wv h l < 18446744073709551616 * d) (hr : r < d) (HI : 0 ≤ Q ∧ q = Q * p2 (b + 1) ∧ wv h l / p2 (b + 1) = Q * d + r) (hR : d ≤ 2 * r + l / p2 b % 2) (hX : X = 2 * r + l / p2 b % 2 - d) :
    0 ≤ X ∧ X < d ∧ (0 ≤ 2 * Q + 1 ∧ bits .or .u64 q (IntKind.u64.wrap (2 ^ b)) = (2 * Q + 1) * p2 b ∧ wv h l / p2 b = (2 * Q + 1) * d + X) := by
  obtain ⟨i1, i2, i3⟩ := HI
  have hs := div_step (wv h l) r d Q b i3
  rw [bit_eq h l b hb] at hs
  have hX0 : 0 ≤ X := by omega
  have e : wv h l / p2 b = (2 * Q + 1) * d + X := by rw [hs, hX]; grind
  have hq := q_bd _ d (2 * Q + 1) X b hd hN hX0 e
  have e2 : (2 * Q + 1) * p2 b = Q * p2 (b + 1) + p2 b := by rw [p2_s]; grind
  rw [e2] at hq
  refine ⟨hX0, by omega, by omega, ?_, e⟩
  rw [wrap_p2 b hb, i2, e2]
  exact or_bit Q b i1 hq
theorem div_keep {h l d Q q r X : Int} {b : Nat} (hb : b ≤ 63) (hr0 : 0 ≤ r) (HI : 0 ≤ Q ∧ q = Q * p2 (b + 1) ∧ wv h l / p2 (b + 1) = Q * d + r) (hR : 2 * r + l / p2 b % 2 < d) (hX : X = 2 * r + l / p2 b % 2) :
    0 ≤ X ∧ X < d ∧ (0 ≤ 2 * Q ∧ q = 2 * Q * p2 b ∧ wv h l / p2 b = 2 * Q * d + X) := by
  obtain ⟨i1, i2, i3⟩ := HI
  have hs := div_step (wv h l) r d Q b i3
  rw [bit_eq h l b hb] at hs
  refine ⟨by omega, by omega, by omega, ?_, by rw [hs, hX]⟩
  rw [i2, p2_s]; grind
theorem x_big {l d r : Int} {b : Nat} (l0 : 0 ≤ l) (l1 : l < 18446744073709551616) (hr : 9223372036854775808 ≤ r) (hrd : r < d) (hd : d < 18446744073709551616) :
    IntKind.u64.wrap (bits .or .u64 (IntKind.u64.wrap (r * 2)) (bits .and .u64 (l / 2 ^ b) 1) - d) = 2 * r + l / p2 b % 2 - d := by
  rw [and_t l b l0 l1, u64w, u64w]
  have e : r * 2 % 18446744073709551616 = (r - 9223372036854775808) * 2 := by omega
  rw [e, or_low1 _ _ (by omega) (by omega) (by omega) (by omega)]
  omega
theorem x_keep {l r : Int} {b : Nat} (l0 : 0 ≤ l) (l1 : l < 18446744073709551616) (hr0 : 0 ≤ r) (hr : r < 9223372036854775808) :
    bits .or .u64 (r * 2) (bits .and .u64 (l / 2 ^ b) 1) = 2 * r + l / p2 b % 2 := by
  rw [and_t l b l0 l1, or_low1 _ _ hr0 (by omega) (by omega) (by omega)]
  omega
theorem x_sub {l d r : Int} {b : Nat} (l0 : 0 ≤ l) (l1 : l < 18446744073709551616) (hr0 : 0 ≤ r) (hr : r < 9223372036854775808) (hrd : r < d) (hd : d < 18446744073709551616) (hR : d ≤ 2 * r + l / p2 b % 2) :
    IntKind.u64.wrap (bits .or .u64 (r * 2) (bits .and .u64 (l / 2 ^ b) 1) - d) = 2 * r + l / p2 b % 2 - d := by
  rw [x_keep l0 l1 hr0 hr, u64w]
  omega
end Go.Proofs.YtndofhcnjmbfeaaDoor
