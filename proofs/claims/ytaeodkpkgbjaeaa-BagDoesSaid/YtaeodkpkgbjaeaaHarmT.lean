/- HarmM HarmA HarmB HarmC -/
import Derived.Test.YtaeodkpkgbjaeaaBase
import Derived.Test.YtaeodkpkgbjaeaaBigC
/-! The numbers of layer 5: harmonic sums rounded down and up, the bounds of the average, what lies between, and the exact sums. -/
namespace Go.Proofs.Ytaeodkpkgbjaeaa
set_option linter.unusedVariables false
set_option linter.unusedSimpArgs false

def lowN : Nat → Int
  | 0 => 0
  | k + 1 => lowN k + 1073741824 / ((k : Int) + 1)
def highN : Nat → Int
  | 0 => 0
  | k + 1 => highN k + -(-1073741824 / ((k : Int) + 1))
/-- a number of points, as calls take it -/
def heldN (n : Int) : Nat := if n < 0 then 0 else if 256 < n then 256 else n.toNat
theorem heldN_le (n : Int) : heldN n ≤ 256 := by unfold heldN; split <;> (try split) <;> omega
def endLo (n : Nat) : Int := if n < 2 then 0 else 2 * lowN (n - 1) - -(-(2147483648 * ((n : Int) - 1)) / n)
def endHi (n : Nat) : Int := if n < 2 then 0 else 2 * highN (n - 1) - 2147483648 * ((n : Int) - 1) / n
def normN (n : Nat) : Int := (endLo n + endHi n) / 2
/-- the harmonic number, exactly: what is divided by what -/
def lowF : Nat → Int
  | 0 => 1
  | k + 1 => lowF k * ((k : Int) + 1)
def topF : Nat → Int
  | 0 => 0
  | k + 1 => topF k * ((k : Int) + 1) + lowF k

theorem lowN_bd : ∀ k : Nat, 0 ≤ lowN k ∧ lowN k ≤ 1073741824 * k
  | 0 => by simp [lowN]
  | k + 1 => by
    have ih := lowN_bd k
    have h0 : 0 ≤ 1073741824 / ((k : Int) + 1) := Int.ediv_nonneg (by omega) (by omega)
    have h1 : 1073741824 / ((k : Int) + 1) ≤ 1073741824 := Int.ediv_le_self _ (by omega)
    rw [lowN]; omega
theorem ceil_facts (a : Int) {b : Int} (hb : 0 < b) : a ≤ -(-a / b) * b ∧ -(-a / b) * b < a + b := by
  have h := Int.mul_ediv_add_emod (-a) b
  have h0 := Int.emod_nonneg (-a) (show b ≠ 0 by omega)
  have h1 := Int.emod_lt_of_pos (-a) hb
  rw [Int.neg_mul, Int.mul_comm]
  omega
theorem ceil_step {k : Nat} : 0 ≤ -(-1073741824 / ((k : Int) + 1)) - 1073741824 / ((k : Int) + 1) ∧ -(-1073741824 / ((k : Int) + 1)) - 1073741824 / ((k : Int) + 1) ≤ 1 := by
  have h : -(-1073741824 / ((k : Int) + 1)) = 1073741824 / ((k : Int) + 1) + (if 1073741824 % ((k : Int) + 1) = 0 then 0 else 1) := neg_ediv_of (a := 1073741824) (b := (k : Int) + 1) (by omega)
  rw [h]; split <;> omega
theorem high_low : ∀ k : Nat, 0 ≤ highN k - lowN k ∧ highN k - lowN k ≤ k
  | 0 => by simp [lowN, highN]
  | k + 1 => by
    have ih := high_low k
    have h := ceil_step (k := k)
    rw [lowN, highN]; omega
theorem highN_bd (k : Nat) : 0 ≤ highN k ∧ highN k ≤ 1073741825 * k := by
  have := lowN_bd k
  have := high_low k
  omega
theorem lowF_pos : ∀ k : Nat, 0 < lowF k
  | 0 => by simp [lowF]
  | k + 1 => by rw [lowF]; exact Int.mul_pos (lowF_pos k) (by omega)
theorem topF_nonneg : ∀ k : Nat, 0 ≤ topF k
  | 0 => by simp [topF]
  | k + 1 => by
    rw [topF]
    have := lowF_pos k
    have := Int.mul_nonneg (topF_nonneg k) (show (0 : Int) ≤ (k : Int) + 1 by omega)
    omega
theorem topF_le : ∀ k : Nat, topF k ≤ k * lowF k
  | 0 => by simp [topF]
  | k + 1 => by
    rw [topF, lowF]
    have ih := Int.mul_le_mul_of_nonneg_right (topF_le k) (show (0 : Int) ≤ (k : Int) + 1 by omega)
    have hp := lowF_pos k
    have h2 : (k : Int) * lowF k * ((k : Int) + 1) + lowF k ≤ ((k : Int) + 1) * (lowF k * ((k : Int) + 1)) := by
      have h3 : ((k : Int) + 1) * (lowF k * ((k : Int) + 1)) = (k : Int) * lowF k * ((k : Int) + 1) + lowF k * ((k : Int) + 1) := by grind
      have h4 : lowF k * 1 ≤ lowF k * ((k : Int) + 1) := Int.mul_le_mul_of_nonneg_left (by omega) (by omega)
      omega
    push_cast
    omega
theorem topF_ge : ∀ k : Nat, lowF (k + 1) ≤ topF (k + 1)
  | 0 => by simp [topF, lowF]
  | k + 1 => by
    have ih := Int.mul_le_mul_of_nonneg_right (topF_ge k) (show (0 : Int) ≤ ((k + 1 : Nat) : Int) + 1 by omega)
    have hp := lowF_pos (k + 1)
    rw [topF, lowF]; omega
theorem enclose_lo : ∀ k : Nat, lowN k * lowF k ≤ topF k * 1073741824
  | 0 => by simp [lowN, topF]
  | k + 1 => by
    rw [lowN, lowF, topF]
    have ih := Int.mul_le_mul_of_nonneg_right (enclose_lo k) (show (0 : Int) ≤ (k : Int) + 1 by omega)
    have hp := lowF_pos k
    have h := Int.mul_le_mul_of_nonneg_right (Int.ediv_mul_le 1073741824 (show (k : Int) + 1 ≠ 0 by omega)) (show 0 ≤ lowF k by omega)
    generalize 1073741824 / ((k : Int) + 1) = q at *
    generalize lowF k = f at *
    generalize topF k = t at *
    generalize lowN k = l at *
    have e1 : (l + q) * (f * ((k : Int) + 1)) = l * f * ((k : Int) + 1) + q * ((k : Int) + 1) * f := by grind
    have e2 : (t * ((k : Int) + 1) + f) * 1073741824 = t * 1073741824 * ((k : Int) + 1) + 1073741824 * f := by grind
    rw [e1, e2]; omega
theorem enclose_hi : ∀ k : Nat, topF k * 1073741824 ≤ highN k * lowF k
  | 0 => by simp [highN, topF]
  | k + 1 => by
    rw [highN, lowF, topF]
    have ih := Int.mul_le_mul_of_nonneg_right (enclose_hi k) (show (0 : Int) ≤ (k : Int) + 1 by omega)
    have hp := lowF_pos k
    have h := Int.mul_le_mul_of_nonneg_right (ceil_facts 1073741824 (show 0 < (k : Int) + 1 by omega)).1 (show 0 ≤ lowF k by omega)
    generalize -(-1073741824 / ((k : Int) + 1)) = q at *
    generalize lowF k = f at *
    generalize topF k = t at *
    generalize highN k = l at *
    have e1 : (l + q) * (f * ((k : Int) + 1)) = l * f * ((k : Int) + 1) + q * ((k : Int) + 1) * f := by grind
    have e2 : (t * ((k : Int) + 1) + f) * 1073741824 = t * 1073741824 * ((k : Int) + 1) + 1073741824 * f := by grind
    rw [e1, e2]; omega
theorem means_lo {k : Nat} (h2 : 2 ≤ k) : endLo k * (lowF (k - 1) * k) ≤ (topF (k - 1) * k - lowF (k - 1) * ((k : Int) - 1)) * 2 * 1073741824 := by
  obtain ⟨j, rfl⟩ : ∃ j, k = j + 1 := ⟨k - 1, by omega⟩
  unfold endLo
  rw [if_neg (by omega), show j + 1 - 1 = j from rfl]
  have ih := Int.mul_le_mul_of_nonneg_right (enclose_lo j) (show (0 : Int) ≤ ((j + 1 : Nat) : Int) by omega)
  have hp := lowF_pos j
  have h := Int.mul_le_mul_of_nonneg_right (ceil_facts (2147483648 * (((j + 1 : Nat) : Int) - 1)) (show 0 < ((j + 1 : Nat) : Int) by omega)).1 (show 0 ≤ lowF j by omega)
  generalize -(-(2147483648 * (((j + 1 : Nat) : Int) - 1)) / ((j + 1 : Nat) : Int)) = q at *
  generalize lowF j = f at *
  generalize topF j = t at *
  generalize lowN j = l at *
  generalize ((j + 1 : Nat) : Int) = m at *
  have e1 : (2 * l - q) * (f * m) = 2 * (l * f * m) - q * m * f := by grind
  have e2 : (t * m - f * (m - 1)) * 2 * 1073741824 = 2 * (t * 1073741824 * m) - 2147483648 * (m - 1) * f := by grind
  rw [e1, e2]; omega
theorem means_hi {k : Nat} (h2 : 2 ≤ k) : (topF (k - 1) * k - lowF (k - 1) * ((k : Int) - 1)) * 2 * 1073741824 ≤ endHi k * (lowF (k - 1) * k) := by
  obtain ⟨j, rfl⟩ : ∃ j, k = j + 1 := ⟨k - 1, by omega⟩
  unfold endHi
  rw [if_neg (by omega), show j + 1 - 1 = j from rfl]
  have ih := Int.mul_le_mul_of_nonneg_right (enclose_hi j) (show (0 : Int) ≤ ((j + 1 : Nat) : Int) by omega)
  have hp := lowF_pos j
  have h := Int.mul_le_mul_of_nonneg_right (Int.ediv_mul_le (2147483648 * (((j + 1 : Nat) : Int) - 1)) (show ((j + 1 : Nat) : Int) ≠ 0 by omega)) (show 0 ≤ lowF j by omega)
  generalize 2147483648 * (((j + 1 : Nat) : Int) - 1) / ((j + 1 : Nat) : Int) = q at *
  generalize lowF j = f at *
  generalize topF j = t at *
  generalize highN j = l at *
  generalize ((j + 1 : Nat) : Int) = m at *
  have e1 : (2 * l - q) * (f * m) = 2 * (l * f * m) - q * m * f := by grind
  have e2 : (t * m - f * (m - 1)) * 2 * 1073741824 = 2 * (t * 1073741824 * m) - 2147483648 * (m - 1) * f := by grind
  rw [e1, e2]; omega
theorem means_sub {k : Nat} (h2 : 2 ≤ k) : lowF (k - 1) * ((k : Int) - 1) ≤ topF (k - 1) * k := by
  obtain ⟨j, rfl⟩ : ∃ j, k = j + 1 + 1 := ⟨k - 2, by omega⟩
  rw [show j + 1 + 1 - 1 = j + 1 from rfl]
  have h := Int.mul_le_mul_of_nonneg_right (topF_ge j) (show (0 : Int) ≤ ((j + 1 + 1 : Nat) : Int) by omega)
  have hp := lowF_pos (j + 1)
  have e : lowF (j + 1) * (((j + 1 + 1 : Nat) : Int) - 1) = lowF (j + 1) * ((j + 1 + 1 : Nat) : Int) - lowF (j + 1) := by grind
  rw [e]; omega
/-- all the bounds that are told, tried one by one -/
def okEnds (n : Nat) : Bool := decide (0 ≤ endLo n) && decide (endLo n ≤ endHi n) && decide (endHi n ≤ 1000000000000)
theorem ends_ok : ∀ n, n < 257 → okEnds n = true := by decide +kernel
theorem grows_ok : ∀ n, n < 256 → 1 ≤ n → normN n < normN (n + 1) := by decide +kernel
theorem ends_bd {n : Nat} (h : n ≤ 256) : 0 ≤ endLo n ∧ endLo n ≤ endHi n ∧ endHi n ≤ 1000000000000 := by
  have := ends_ok n (by omega)
  unfold okEnds at this
  simp at this
  omega
end Go.Proofs.Ytaeodkpkgbjaeaa
/-! Package harm: held, with, upTo, Low, High, ends, Ends, middle, Norm. -/
namespace Go.Proofs.Ytaeodkpkgbjaeaa
open Go.RowKit
set_option linter.unusedVariables false
set_option linter.unusedSimpArgs false
set_option maxRecDepth 100000

theorem i64w (x : Int) : IntKind.i64.wrap x = (x + 9223372036854775808) % 18446744073709551616 - 9223372036854775808 := by
  simp [IntKind.wrap, IntKind.bits, IntKind.signed]
  split <;> omega
abbrev sumsV (a b : Int) : Value := .agg #[.int .i64 a, .int .i64 b]
theorem Keeps.put2 {B : Nat} {W w : World} {g : Nat} {a b : Value} {t : TypeId} {l : List (Nat × Array Value × TypeId)} (h : Keeps B W ((g, #[a, b], t) :: l) w) (hg : B ≤ g) (hne : ∀ x ∈ l, x.1 ≠ g) (u v : Value) :
    Keeps B W ((g, #[u, v], t) :: l) ((w.setCell ⟨g, 0, none⟩ u).setCell ⟨g, 1, none⟩ v) := by
  refine ⟨fun x hx => ?_, (h.2.1.setCell (p := ⟨g, 0, none⟩) hg _).setCell (p := ⟨g, 1, none⟩) hg _, by simp; exact h.2.2⟩
  rcases List.mem_cons.1 hx with rfl | hx
  · exact h.head.set2 u v
  · exact (h.1 x (List.mem_cons_of_mem _ hx)).off2 (fun e => hne x hx e.symm) u v
theorem sum_bds {k : Nat} (h : k ≤ 256) : (0 ≤ lowN k ∧ lowN k ≤ 1000000000000) ∧ (0 ≤ highN k ∧ highN k ≤ 1000000000000) := by
  have := lowN_bd k
  have := highN_bd k
  omega
end Go.Proofs.Ytaeodkpkgbjaeaa
/-! Package harm: Low, High, ends, Ends, middle, Norm. -/
namespace Go.Proofs.Ytaeodkpkgbjaeaa
open Go.RowKit
set_option linter.unusedVariables false
set_option linter.unusedSimpArgs false
set_option maxRecDepth 100000

theorem below_drewH {B : Nat} {a w : World} (h : Below B a w) (n : Nat) : Below B a (w.drewN n) := ⟨h.os, h.tape, h.output, h.size, h.block⟩
theorem heldN_sub (n : Nat) (h : n ≤ 256) : heldN ((n : Int) - 1) = n - 1 := by unfold heldN; split <;> (try split) <;> omega
end Go.Proofs.Ytaeodkpkgbjaeaa
/-! The reference of layer 5: Held, Low, High, Ends, Norm. -/
namespace Go.Proofs.Ytaeodkpkgbjaeaa
open Go.RowKit
set_option linter.unusedVariables false
set_option linter.unusedSimpArgs false
set_option maxRecDepth 100000

theorem up_div (a : Int) {b : Int} (hb : 0 < b) : (a + b - 1) / b = -(-a / b) := by
  have h := ceil_facts a hb
  generalize -(-a / b) = q at *
  rw [show a + b - 1 = (a + b - 1 - q * b) + q * b from by omega, Int.add_mul_ediv_right _ _ (by omega), Int.ediv_eq_zero_of_lt (by omega) (by omega)]
  omega
theorem dreH2 (w : World) (a b : Nat) : ∃ n, (w.drewN a).drewN b = w.drewN n := ⟨_, World.drewN_drewN _ _ _⟩
end Go.Proofs.Ytaeodkpkgbjaeaa
