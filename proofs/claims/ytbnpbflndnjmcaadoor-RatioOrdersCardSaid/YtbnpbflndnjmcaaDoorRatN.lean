/- Plain arithmetic of ratios. -/
import Derived.Test.YtbnpbflndnjmcaaDoorNumX
namespace Go.Proofs.YtbnpbflndnjmcaaDoor
open Go.RowKit

/-- the greatest divisor, with the sign of q -/
def dv (p q : Int) : Int := if q < 0 then -(Int.gcd p q : Int) else Int.gcd p q
def rX (p q : Int) : Int := p / dv p q
def rY (p q : Int) : Int := q / dv p q
def Part (n : Int) : Prop := -1073741824 ≤ n ∧ n ≤ 1073741824
instance (n : Int) : Decidable (Part n) := by unfold Part; infer_instance
def ofP (p q : Int) : Int := if q = 0 then 0 else if Part (rX p q) ∧ Part (rY p q) then rX p q else 0
def ofQ (p q : Int) : Int := if q = 0 then 0 else if Part (rX p q) ∧ Part (rY p q) then rY p q else 0
def ofE (p q : Int) : Int := if q = 0 then 11 else if Part (rX p q) ∧ Part (rY p q) then 0 else 10
abbrev ofV (p q : Int) : Value := .tuple #[.agg #[.int .i64 (ofP p q), .int .i64 (ofQ p q)], .int .i64 (ofE p q)]
theorem ofV_z {p : Int} : Ending.returned (.tuple #[.agg #[.int .i64 0, .int .i64 0], .int .i64 11]) = .returned (ofV p 0) := by
  unfold ofV ofP ofQ ofE; rw [if_pos rfl, if_pos rfl, if_pos rfl]
theorem ofV_in {p q : Int} (h : q ≠ 0) (hf : Part (rX p q) ∧ Part (rY p q)) : Ending.returned (.tuple #[.agg #[.int .i64 (rX p q), .int .i64 (rY p q)], .int .i64 0]) = .returned (ofV p q) := by
  unfold ofV ofP ofQ ofE; rw [if_neg h, if_neg h, if_neg h, if_pos hf, if_pos hf, if_pos hf]
theorem ofV_out {p q : Int} (h : q ≠ 0) (hf : ¬ (Part (rX p q) ∧ Part (rY p q))) : Ending.returned (.tuple #[.agg #[.int .i64 0, .int .i64 0], .int .i64 10]) = .returned (ofV p q) := by
  unfold ofV ofP ofQ ofE; rw [if_neg h, if_neg h, if_neg h, if_neg hf, if_neg hf, if_neg hf]

theorem gcd_pos {p q : Int} (h : q ≠ 0) : 0 < (Int.gcd p q : Int) := by
  have := Int.gcd_pos_of_ne_zero_right p h
  omega
theorem dv_ne {p q : Int} (h : q ≠ 0) : dv p q ≠ 0 := by
  have := gcd_pos (p := p) h
  unfold dv; split <;> omega
theorem dv_p (p q : Int) : dv p q ∣ p := by
  unfold dv
  split
  · exact Int.neg_dvd.2 (Int.gcd_dvd_left p q)
  · exact Int.gcd_dvd_left p q
theorem dv_q (p q : Int) : dv p q ∣ q := by
  unfold dv
  split
  · exact Int.neg_dvd.2 (Int.gcd_dvd_right p q)
  · exact Int.gcd_dvd_right p q
theorem rX_mul (p q : Int) : rX p q * dv p q = p := Int.ediv_mul_cancel (dv_p p q)
theorem rY_mul (p q : Int) : rY p q * dv p q = q := Int.ediv_mul_cancel (dv_q p q)
theorem rY_pos {p q : Int} (h : q ≠ 0) : 0 < rY p q := by
  have hm := rY_mul p q
  have hg := gcd_pos (p := p) h
  rcases Int.lt_trichotomy (rY p q) 0 with hc | hc | hc
  · exfalso
    unfold dv at hm
    split at hm
    · have := Int.mul_pos_of_neg_of_neg hc (show -(Int.gcd p q : Int) < 0 by omega); omega
    · have := Int.mul_neg_of_neg_of_pos hc hg; omega
  · rw [hc] at hm; omega
  · exact hc
theorem dv_i64 {p q : Int} (hq : I64 q) (h : q ≠ 0) : I64 (dv p q) := by
  have h1 := Int.le_of_dvd (by have := gcd_pos (p := p) h; omega : (0 : Int) < (q.natAbs : Int)) (show (Int.gcd p q : Int) ∣ (q.natAbs : Int) by rw [Int.dvd_natAbs]; exact Int.gcd_dvd_right p q)
  have h2 := gcd_pos (p := p) h
  unfold I64 dv at *
  split
  · omega
  · omega
/-- the answer of divisor where gcd does not fit -/
theorem dv_big {p q : Int} (hq : I64 q) (h : q ≠ 0) (hg : ¬ Int.gcd p q ≤ 9223372036854775807) : dv p q = q := by
  have h1 := Int.le_of_dvd (by have := gcd_pos (p := p) h; omega : (0 : Int) < (q.natAbs : Int)) (show (Int.gcd p q : Int) ∣ (q.natAbs : Int) by rw [Int.dvd_natAbs]; exact Int.gcd_dvd_right p q)
  unfold I64 dv at *
  split <;> omega
end Go.Proofs.YtbnpbflndnjmcaaDoor
