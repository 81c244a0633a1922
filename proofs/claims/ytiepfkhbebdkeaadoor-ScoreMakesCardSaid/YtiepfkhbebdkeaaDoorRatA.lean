/- RatN RatO RatI RatD RatE -/
import Derived.Test.YtiepfkhbebdkeaaDoorBase
import Derived.Test.YtiepfkhbebdkeaaDoorBigs
import Derived.Outline
import Derived.Test.YtiepfkhbebdkeaaDoorBigC
import Derived.Test.YtiepfkhbebdkeaaDoorWideA

/-! Plain arithmetic of ratios. -/
namespace Go.Proofs.YtiepfkhbebdkeaaDoor
open Go.RowKit

/-- the greatest divisor, with the sign of q -/
def dv (p q : Int) : Int := if q < 0 then -(Int.gcd p q : Int) else Int.gcd p q
def rX (p q : Int) : Int := p / dv p q
def rY (p q : Int) : Int := q / dv p q
def Part (n : Int) : Prop := -1073741824 ≤ n ∧ n ≤ 1073741824
instance (n : Int) : Decidable (Part n) := by unfold Part; infer_instance
def ofP (p q : Int) : Int := if q = 0 then 0 else if Part (rX p q) ∧ Part (rY p q) then rX p q else 0
def ofQ (p q : Int) : Int := if q = 0 then 0 else if Part (rX p q) ∧ Part (rY p q) then rY p q else 0
def ofE (p q : Int) : Int := if q = 0 then 11 else if Part (rX p q) ∧ Part (rY p q) then 0 else 10
abbrev ofV (p q : Int) : Value := .tuple #[.agg #[.int .i64 (ofP p q), .int .i64 (ofQ p q)], .int .i64 (ofE p q)]
theorem ofV_z {p : Int} : Ending.returned (.tuple #[.agg #[.int .i64 0, .int .i64 0], .int .i64 11]) = .returned (ofV p 0) := by
  unfold ofV ofP ofQ ofE; rw [if_pos rfl, if_pos rfl, if_pos rfl]
theorem ofV_in {p q : Int} (h : q ≠ 0) (hf : Part (rX p q) ∧ Part (rY p q)) : Ending.returned (.tuple #[.agg #[.int .i64 (rX p q), .int .i64 (rY p q)], .int .i64 0]) = .returned (ofV p q) := by
  unfold ofV ofP ofQ ofE; rw [if_neg h, if_neg h, if_neg h, if_pos hf, if_pos hf, if_pos hf]
theorem ofV_out {p q : Int} (h : q ≠ 0) (hf : ¬ (Part (rX p q) ∧ Part (rY p q))) : Ending.returned (.tuple #[.agg #[.int .i64 0, .int .i64 0], .int .i64 10]) = .returned (ofV p q) := by
  unfold ofV ofP ofQ ofE; rw [if_neg h, if_neg h, if_neg h, if_neg hf, if_neg hf, if_neg hf]

theorem gcd_pos {p q : Int} (h : q ≠ 0) : 0 < (Int.gcd p q : Int) := by
  have := Int.gcd_pos_of_ne_zero_right p h
  omega
theorem dv_ne {p q : Int} (h : q ≠ 0) : dv p q ≠ 0 := by
  have := gcd_pos (p := p) h
  unfold dv; split <;> omega
theorem dv_p (p q : Int) : dv p q ∣ p := by
  unfold dv
  split
  · exact Int.neg_dvd.2 (Int.gcd_dvd_left p q)
  · exact Int.gcd_dvd_left p q
theorem dv_q (p q : Int) : dv p q ∣ q := by
  unfold dv
  split
  · exact Int.neg_dvd.2 (Int.gcd_dvd_right p q)
  · exact Int.gcd_dvd_right p q
theorem rX_mul (p q : Int) : rX p q * dv p q = p := Int.ediv_mul_cancel (dv_p p q)
theorem rY_mul (p q : Int) : rY p q * dv p q = q := Int.ediv_mul_cancel (dv_q p q)
theorem rY_pos {p q : Int} (h : q ≠ 0) : 0 < rY p q := by
  have hm := rY_mul p q
  have hg := gcd_pos (p := p) h
  rcases Int.lt_trichotomy (rY p q) 0 with hc | hc | hc
  · exfalso
    unfold dv at hm
    split at hm
    · have := Int.mul_pos_of_neg_of_neg hc (show -(Int.gcd p q : Int) < 0 by omega); omega
    · have := Int.mul_neg_of_neg_of_pos hc hg; omega
  · rw [hc] at hm; omega
  · exact hc
theorem dv_i64 {p q : Int} (hq : I64 q) (h : q ≠ 0) : I64 (dv p q) := by
  have h1 := Int.le_of_dvd (by have := gcd_pos (p := p) h; omega : (0 : Int) < (q.natAbs : Int)) (show (Int.gcd p q : Int) ∣ (q.natAbs : Int) by rw [Int.dvd_natAbs]; exact Int.gcd_dvd_right p q)
  have h2 := gcd_pos (p := p) h
  unfold I64 dv at *
  split
  · omega
  · omega
/-- the answer of divisor where gcd does not fit -/
theorem dv_big {p q : Int} (hq : I64 q) (h : q ≠ 0) (hg : ¬ Int.gcd p q ≤ 9223372036854775807) : dv p q = q := by
  have h1 := Int.le_of_dvd (by have := gcd_pos (p := p) h; omega : (0 : Int) < (q.natAbs : Int)) (show (Int.gcd p q : Int) ∣ (q.natAbs : Int) by rw [Int.dvd_natAbs]; exact Int.gcd_dvd_right p q)
  unfold I64 dv at *
  split <;> omega
end Go.Proofs.YtiepfkhbebdkeaaDoor

/-! Contracts of package ratio: divisor, Of, Is. -/
namespace Go.Proofs.YtiepfkhbebdkeaaDoor
open Go.RowKit

theorem clamp_ne {x : Int} (h : ¬ Part x) : (if x < -1073741824 then -1073741824 else if x > 1073741824 then 1073741824 else x) ≠ x := by
  unfold Part at h
  split
  · omega
  · split <;> omega
end Go.Proofs.YtiepfkhbebdkeaaDoor

/-! Contracts of package ratio: Is, check. -/
namespace Go.Proofs.YtiepfkhbebdkeaaDoor
open Go.RowKit

theorem ret_b {a b : Bool} (h : a = b) : Ending.returned (.bool a) = .returned (.bool b) := by rw [h]
def Valid (p q : Int) : Prop := (1 ≤ q ∧ q ≤ 1073741824) ∧ (-1073741824 ≤ p ∧ p ≤ 1073741824) ∧ Int.gcd p q = 1
instance (p q : Int) : Decidable (Valid p q) := by unfold Valid; infer_instance
def isB (p q : Int) : Bool := decide (Valid p q)
theorem isB_true {p q : Int} (h : isB p q = true) : Valid p q := of_decide_eq_true h
theorem isB_of {p q : Int} (h : Valid p q) : isB p q = true := decide_eq_true h
theorem isB_false {p q : Int} (h : isB p q = false) : ¬ Valid p q := of_decide_eq_false h
theorem dv_valid {p q : Int} (h : Valid p q) : dv p q = 1 := by
  unfold dv
  rw [if_neg (by have := h.1; omega), h.2.2]; rfl
theorem of_valid {p q : Int} (h : Valid p q) : ofV p q = .tuple #[.agg #[.int .i64 p, .int .i64 q], .int .i64 0] := by
  have e1 : rX p q = p := by unfold rX; rw [dv_valid h, Int.ediv_one]
  have e2 : rY p q = q := by unfold rY; rw [dv_valid h, Int.ediv_one]
  have h1 := h.1
  have := ofV_in (p := p) (q := q) (by omega) (by rw [e1, e2]; exact ⟨h.2.1, by unfold Part; omega⟩)
  rw [e1, e2] at this
  exact (Ending.returned.inj this).symm
theorem valid_of {p q : Int} (h : ofE p q = 0 ∧ ofP p q = p ∧ ofQ p q = q) : Valid p q := by
  obtain ⟨h1, h2, h3⟩ := h
  by_cases h0 : q = 0
  · unfold ofE at h1; rw [if_pos h0] at h1; omega
  by_cases hf : Part (rX p q) ∧ Part (rY p q)
  · unfold ofP at h2; unfold ofQ at h3
    rw [if_neg h0, if_pos hf] at h2 h3
    have hy := rY_pos (p := p) h0
    have hm := rY_mul p q
    have hd : dv p q = 1 := by
      have : rY p q * dv p q = rY p q * 1 := by rw [hm, Int.mul_one, h3]
      exact Int.eq_of_mul_eq_mul_left (by omega) this
    rw [h2, h3] at hf
    unfold Part at hf
    rw [h3] at hy
    refine ⟨by omega, by omega, ?_⟩
    unfold dv at hd
    rw [if_neg (by omega)] at hd
    omega
  · unfold ofE at h1; rw [if_neg h0, if_neg hf] at h1; omega
theorem valid_bd {p q : Int} (h : Valid p q) : I64 p ∧ I64 q := by
  have h1 := h.1; have h2 := h.2.1
  unfold I64; omega

theorem Box.four {w : World} {g : Nat} {a b c d : Value} {t : TypeId} (h : Box w g #[a, b, c, d] t) :
    w.cell? ⟨g, 0, none⟩ = some a ∧ w.cell? ⟨g, 1, none⟩ = some b ∧ w.cell? ⟨g, 2, none⟩ = some c ∧ w.cell? ⟨g, 3, none⟩ = some d :=
  ⟨h.cell 0, h.cell 1, h.cell 2, h.cell 3⟩
def chk1 (p q : Int) : Int := if isB p q then 0 else 30
def chk2 (p q p2 q2 : Int) : Int := if isB p q && isB p2 q2 then 0 else 30

theorem chk1_cases (p q : Int) : (Valid p q ∧ chk1 p q = 0) ∨ (¬ Valid p q ∧ chk1 p q = 30) := by
  unfold chk1
  cases h : isB p q with
  | true => exact .inl ⟨isB_true h, rfl⟩
  | false => exact .inr ⟨isB_false h, rfl⟩
theorem chk2_cases (p q p2 q2 : Int) : ((Valid p q ∧ Valid p2 q2) ∧ chk2 p q p2 q2 = 0) ∨ (¬ (Valid p q ∧ Valid p2 q2) ∧ chk2 p q p2 q2 = 30) := by
  unfold chk2
  cases h : isB p q with
  | true =>
    cases h2 : isB p2 q2 with
    | true => exact .inl ⟨⟨isB_true h, isB_true h2⟩, rfl⟩
    | false => exact .inr ⟨fun hc => isB_false h2 hc.2, rfl⟩
  | false => exact .inr ⟨fun hc => isB_false h hc.1, rfl⟩
end Go.Proofs.YtiepfkhbebdkeaaDoor

/-! Contracts of package ratio: Add, Sub, Mul, Div, Cmp, Order. -/
namespace Go.Proofs.YtiepfkhbebdkeaaDoor
open Go.RowKit

theorem prod_bd {a b : Int} (ha : -1073741824 ≤ a ∧ a ≤ 1073741824) (hb : -1073741824 ≤ b ∧ b ≤ 1073741824) : -1152921504606846976 ≤ a * b ∧ a * b ≤ 1152921504606846976 := by
  have h := Nat.mul_le_mul (show a.natAbs ≤ 1073741824 by omega) (show b.natAbs ≤ 1073741824 by omega)
  rw [← Int.natAbs_mul] at h
  omega
def doP (p q p2 q2 n d : Int) : Int := if Valid p q ∧ Valid p2 q2 then ofP n d else 0
def doQ (p q p2 q2 n d : Int) : Int := if Valid p q ∧ Valid p2 q2 then ofQ n d else 0
def doE (p q p2 q2 n d : Int) : Int := if Valid p q ∧ Valid p2 q2 then ofE n d else 30
abbrev doV (p q p2 q2 n d : Int) : Value := .tuple #[.agg #[.int .i64 (doP p q p2 q2 n d), .int .i64 (doQ p q p2 q2 n d)], .int .i64 (doE p q p2 q2 n d)]
theorem doV_in {p q p2 q2 n d : Int} (h : Valid p q ∧ Valid p2 q2) : ofV n d = doV p q p2 q2 n d := by
  unfold doV doP doQ doE; rw [if_pos h, if_pos h, if_pos h]
theorem doV_out {p q p2 q2 n d : Int} (h : ¬ (Valid p q ∧ Valid p2 q2)) : .tuple #[.agg #[.int .i64 0, .int .i64 0], .int .i64 30] = doV p q p2 q2 n d := by
  unfold doV doP doQ doE; rw [if_neg h, if_neg h, if_neg h]

end Go.Proofs.YtiepfkhbebdkeaaDoor

/-! Contracts of package ratio: Cmp, Order, Ceil, Part, Floor. -/
namespace Go.Proofs.YtiepfkhbebdkeaaDoor
open Go.RowKit

def cmN (p q p2 q2 : Int) : Int := if Valid p q ∧ Valid p2 q2 then cmpI (p * q2) (p2 * q) else 0
def cmE (p q p2 q2 : Int) : Int := if Valid p q ∧ Valid p2 q2 then 0 else 30
abbrev cmV (p q p2 q2 : Int) : Value := .tuple #[.int .i64 (cmN p q p2 q2), .int .i64 (cmE p q p2 q2)]
theorem ret2 {a b c d : Int} (h : a = c) (g : b = d) : Ending.returned (.tuple #[.int .i64 a, .int .i64 b]) = .returned (.tuple #[.int .i64 c, .int .i64 d]) := by rw [h, g]

def orN (p q r s : Int) : Int := if q < 1 ∨ s < 1 then 0 else cmpI (p * s) (r * q)
def orE (q s : Int) : Int := if q < 1 ∨ s < 1 then 1 else 0
abbrev orV (p q r s : Int) : Value := .tuple #[.int .i64 (orN p q r s), .int .i64 (orE q s)]
def ceN (p q : Int) : Int := if Valid p q then -(-p / q) else 0
def wholeE (p q : Int) : Int := if Valid p q then 0 else 30
abbrev ceV (p q : Int) : Value := .tuple #[.int .i64 (ceN p q), .int .i64 (wholeE p q)]
/-- the greatest number that is not above n times p divided by q -/
def paN (n p q : Int) : Int := if Valid p q then fitN (n * p / q) else 0
def paE (n p q : Int) : Int := if Valid p q then fitE (n * p / q) else 30
abbrev paV (n p q : Int) : Value := .tuple #[.int .i64 (paN n p q), .int .i64 (paE n p q)]
theorem drew_below {W w' : World} (h : ∃ k, w' = W.drewN k) : Below W.heap.size W w' := by
  obtain ⟨k, rfl⟩ := h
  exact ⟨rfl, rfl, rfl, Nat.le_refl _, fun _ _ => rfl⟩
theorem part_split (n p q : Int) (hq : 0 < q) : n * p / q = n / q * p + n % q * p / q := by
  have h := Int.mul_ediv_add_emod n q
  have e : n * p = q * (n / q * p) + n % q * p := by
    conv => lhs; rw [← h]
    rw [Int.add_mul, Int.mul_assoc]
  rw [e, Int.add_comm, Int.add_mul_ediv_left _ _ (Int.ne_of_gt hq), Int.add_comm]
end Go.Proofs.YtiepfkhbebdkeaaDoor
