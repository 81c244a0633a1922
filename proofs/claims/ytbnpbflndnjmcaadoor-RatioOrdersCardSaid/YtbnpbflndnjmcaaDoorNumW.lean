/- Contracts of package word and of the functions of package num that compute with integers alone: what each returns for any arguments, in any world. No condition but that the arguments are integers of their kinds. -/
import Derived.Test.YtbnpbflndnjmcaaDoorProg
import Derived.WalkKit
import Derived.BigQuiet
import Derived.Deep.QuietTactic
import Derived.LoopN
import Derived.Lib.Hide
namespace Go.Proofs.YtbnpbflndnjmcaaDoor
open Go.RowKit

theorem u64w (x : Int) : IntKind.u64.wrap x = x % 18446744073709551616 := by
  simp [IntKind.wrap, IntKind.bits, IntKind.signed]
theorem ret1i {k : IntKind} {a a' : Int} (h : a = a') : Ending.returned (.int k a) = .returned (.int k a') := by rw [h]
theorem ret2i {k l : IntKind} {a a' b b' : Int} (h : a = a') (g : b = b') :
    Ending.returned (.tuple #[.int k a, .int l b]) = .returned (.tuple #[.int k a', .int l b']) := by rw [h, g]
theorem ret3i {k l m : IntKind} {a a' b b' c c' : Int} (h : a = a') (g : b = b') (f : c = c') :
    Ending.returned (.tuple #[.int k a, .int l b, .int m c]) = .returned (.tuple #[.int k a', .int l b', .int m c']) := by rw [h, g, f]

theorem still_of {P : Program} {f : FuncId} {args : Array Value} {w : World} {v : Value} (h : Calls P f args w fun e w' => e = .returned v ∧ w = w') :
    Calls P f args w fun e w' => e = .returned v ∧ w' = w := h.mono fun _ _ ⟨a, b⟩ => ⟨a, b.symm⟩
/-- an int -/
def I64 (a : Int) : Prop := -9223372036854775808 ≤ a ∧ a ≤ 9223372036854775807
/-- a word -/
def U64 (a : Int) : Prop := 0 ≤ a ∧ a < 18446744073709551616

theorem word_add (a b c : Int) (ha : U64 a) (hb : U64 b) (hc : 0 ≤ c) (hc' : c ≤ 1) (w : World) :
    Calls Tryd.prog 78 #[.int .u64 a, .int .u64 b, .int .u64 c] w fun e w' => e = .returned (.tuple #[.int .u64 ((a + b + c) % 18446744073709551616), .int .u64 ((a + b + c) / 18446744073709551616)]) ∧ w = w' := by
  obtain ⟨ha, ha'⟩ := ha
  obtain ⟨hb, hb'⟩ := hb
  go_enter Tryd.func78, Tryd.ntmps78
  go_wp2
  all_goals
    go_ret2
    refine ⟨ret2i ?_ ?_, rfl⟩ <;> (simp only [u64w] at *; omega)

/-- the absolute value -/
theorem word_size (a : Int) (ha : I64 a) (w : World) :
    Calls Tryd.prog 71 #[.int .i64 a] w fun e w' => e = .returned (.int .u64 a.natAbs) ∧ w = w' := by
  obtain ⟨ha, ha'⟩ := ha
  go_enter Tryd.func71, Tryd.ntmps71
  go_wp2
  all_goals
    go_ret
    refine ⟨ret1i ?_, rfl⟩
    first | omega | (simp only [u64w] at *; omega)

theorem num_signs (a : Int) (ha : I64 a) (w : World) :
    Calls Tryd.prog 80 #[.int .i64 a] w fun e w' => e = .returned (.int .u64 (if a < 0 then 18446744073709551615 else 0)) ∧ w = w' := by
  obtain ⟨ha, ha'⟩ := ha
  go_enter Tryd.func80, Tryd.ntmps80
  go_wp2
  all_goals
    go_ret
    refine ⟨ret1i ?_, rfl⟩
    try simp only [u64w] at *
    first | omega | (split <;> omega)


/-- a number, or 0 if it does not fit -/
def fitN (n : Int) : Int := if -9223372036854775808 ≤ n ∧ n ≤ 9223372036854775807 then n else 0
/-- OK, or ErrOver if it does not fit -/
def fitE (n : Int) : Int := if -9223372036854775808 ≤ n ∧ n ≤ 9223372036854775807 then 0 else 10
abbrev fitV (n : Int) : Value := .tuple #[.int .i64 (fitN n), .int .i64 (fitE n)]
theorem fitV_in {n m : Int} (h : I64 n) (e : m = n) : Ending.returned (.tuple #[.int .i64 m, .int .i64 0]) = .returned (fitV n) := by
  subst e; unfold I64 at h; unfold fitV fitN fitE; rw [if_pos h, if_pos h]
theorem fitV_out {n : Int} (h : ¬ I64 n) : Ending.returned (.tuple #[.int .i64 0, .int .i64 10]) = .returned (fitV n) := by
  unfold I64 at h; unfold fitV fitN fitE; rw [if_neg h, if_neg h]

theorem num_clamp (v lo hi : Int) (w : World) :
    Calls Tryd.prog 36 #[.int .i64 v, .int .i64 lo, .int .i64 hi] w fun e w' => e = .returned (.int .i64 (if v < lo then lo else if v > hi then hi else v)) ∧ w = w' := by
  go_enter Tryd.func36, Tryd.ntmps36
  go_wp2
  all_goals
    go_ret
    refine ⟨ret1i ?_, rfl⟩
    first | omega | (split <;> first | omega | (split <;> omega))

/-- what Ceil returns -/
def ceilN (a b : Int) : Int := if b < 1 then 0 else -(-a / b)
def ceilE (b : Int) : Int := if b < 1 then 1 else 0
abbrev ceilV (a b : Int) : Value := .tuple #[.int .i64 (ceilN a b), .int .i64 (ceilE b)]
theorem ceilV_0 {a b : Int} (h : b < 1) : Ending.returned (.tuple #[.int .i64 0, .int .i64 1]) = .returned (ceilV a b) := by unfold ceilV ceilN ceilE; rw [if_pos h, if_pos h]
theorem ceilV_1 {a b q : Int} (h : ¬ b < 1) (e : q = -(-a / b)) : Ending.returned (.tuple #[.int .i64 q, .int .i64 0]) = .returned (ceilV a b) := by unfold ceilV ceilN ceilE; rw [if_neg h, if_neg h, e]
theorem neg_ediv_of {a b : Int} (hb : 0 < b) : -(-a / b) = a / b + (if a % b = 0 then 0 else 1) := by
  have e := Int.emod_add_mul_ediv a b
  have l := Int.emod_lt_of_pos a hb
  have g := Int.emod_nonneg a (Int.ne_of_gt hb)
  split
  · rename_i h
    have := ((Int.ediv_emod_unique (a := -a) (b := b) (r := 0) (q := -(a / b)) hb).2 ⟨by rw [Int.mul_neg]; omega, by omega, by omega⟩).1
    omega
  · rename_i h
    have := ((Int.ediv_emod_unique (a := -a) (b := b) (r := b - a % b) (q := -(a / b) - 1) hb).2 ⟨by rw [Int.mul_sub, Int.mul_neg]; omega, by omega, by omega⟩).1
    omega
theorem tdiv_pos_eq {a b : Int} (hb : 0 < b) : a.tdiv b = a / b + (if 0 ≤ a ∨ a % b = 0 then 0 else 1) := by
  rw [Int.tdiv_eq_ediv, Int.sign_eq_one_of_pos hb]
  simp only [Int.dvd_iff_emod_eq_zero]
theorem tmod_pos_eq {a b : Int} (hb : 0 < b) : a.tmod b = a % b - (if 0 ≤ a ∨ a % b = 0 then 0 else b) := by
  rw [Int.tmod_eq_emod]
  simp only [Int.dvd_iff_emod_eq_zero]
  split <;> omega
theorem ceil_up {a b : Int} (hb : 0 < b) (h : 0 < a.tmod b) : a.tdiv b + 1 = -(-a / b) := by
  have l := Int.emod_lt_of_pos a hb
  have g := Int.emod_nonneg a (Int.ne_of_gt hb)
  rw [neg_ediv_of hb, tdiv_pos_eq hb]
  rw [tmod_pos_eq hb] at h
  split at h <;> split <;> omega
theorem ceil_same {a b : Int} (hb : 0 < b) (h : ¬ 0 < a.tmod b) : a.tdiv b = -(-a / b) := by
  have l := Int.emod_lt_of_pos a hb
  have g := Int.emod_nonneg a (Int.ne_of_gt hb)
  rw [neg_ediv_of hb, tdiv_pos_eq hb]
  rw [tmod_pos_eq hb] at h
  split at h <;> split <;> omega
theorem tdiv_bd {a b : Int} (hb : 0 < b) (ha : I64 a) : -9223372036854775808 ≤ a.tdiv b ∧ a.tdiv b ≤ 9223372036854775807 := by
  unfold I64 at ha
  have := Int.natAbs_tdiv_le_natAbs a b
  have : a < 0 → a.tdiv b ≤ 0 := by
    intro h
    rw [tdiv_pos_eq hb]
    have := Int.ediv_neg_of_neg_of_pos h hb
    split <;> omega
  omega
theorem natAbs_tmod_lt (a : Int) {b : Int} (hb : b ≠ 0) : (a.tmod b).natAbs < b.natAbs := by
  rw [Int.natAbs_tmod]; exact Nat.mod_lt _ (by omega)
theorem tdiv_bd1 {a b : Int} (hb : 0 < b) (ha : I64 a) (h : 0 < a.tmod b) : a.tdiv b + 1 ≤ 9223372036854775807 := by
  have := tdiv_bd hb ha
  unfold I64 at ha
  have l := Int.emod_lt_of_pos a hb
  have g := Int.emod_nonneg a (Int.ne_of_gt hb)
  have e := Int.emod_add_mul_ediv a b
  rw [tmod_pos_eq hb] at h
  rw [tdiv_pos_eq hb]
  split at h
  · split
    · have : 1 < b := by omega
      have : 0 ≤ a := by omega
      have : 0 ≤ a / b := Int.ediv_nonneg (by omega) (by omega)
      have : 2 * (a / b) ≤ b * (a / b) := Int.mul_le_mul_of_nonneg_right (by omega) (by omega)
      omega
    · omega
  · omega

theorem num_ceil (a b : Int) (ha : I64 a) (w : World) :
    Calls Tryd.prog 45 #[.int .i64 a, .int .i64 b] w fun e w' => e = .returned (ceilV a b) ∧ w = w' := by
  by_cases h : b < 1
  · go_enter Tryd.func45, Tryd.ntmps45
    go_wp2
    go_ret2
    exact ⟨ceilV_0 h, rfl⟩
  · have hb0 : 0 < b := by omega
    have hd := tdiv_bd hb0 ha
    have hb0' : b ≠ 0 := by omega
    by_cases h0 : 0 < a.tmod b
    · have h1 := tdiv_bd1 hb0 ha h0
      have hu := Lib.hid (ceil_up hb0 h0)
      go_enter Tryd.func45, Tryd.ntmps45
      go_wp2
      go_ret2
      exact ⟨ceilV_1 (by omega) hu.out, rfl⟩
    · have hu := Lib.hid (ceil_same hb0 h0)
      go_enter Tryd.func45, Tryd.ntmps45
      go_wp2
      go_ret2
      exact ⟨ceilV_1 (by omega) hu.out, rfl⟩

/-- what Div returns -/
def divQ (a b : Int) : Int := if b = 0 ∨ (a = -9223372036854775808 ∧ b = -1) then 0 else a / b
def divR (a b : Int) : Int := if b = 0 ∨ (a = -9223372036854775808 ∧ b = -1) then 0 else a % b
def divE (a b : Int) : Int := if b = 0 then 11 else if a = -9223372036854775808 ∧ b = -1 then 10 else 0
abbrev divV (a b : Int) : Value := .tuple #[.int .i64 (divQ a b), .int .i64 (divR a b), .int .i64 (divE a b)]
theorem divV_z {a : Int} : Ending.returned (.tuple #[.int .i64 0, .int .i64 0, .int .i64 11]) = .returned (divV a 0) := by unfold divV divQ divR divE; rw [if_pos (.inl rfl), if_pos (.inl rfl), if_pos rfl]
theorem divV_o : Ending.returned (.tuple #[.int .i64 0, .int .i64 0, .int .i64 10]) = .returned (divV (-9223372036854775808) (-1)) := by unfold divV divQ divR divE; rw [if_pos (.inr ⟨rfl, rfl⟩), if_pos (.inr ⟨rfl, rfl⟩), if_neg (by omega), if_pos ⟨rfl, rfl⟩]
theorem divV_ok {a b q r : Int} (h : b ≠ 0) (g : ¬ (a = -9223372036854775808 ∧ b = -1)) (e : q = a / b) (f : r = a % b) : Ending.returned (.tuple #[.int .i64 q, .int .i64 r, .int .i64 0]) = .returned (divV a b) := by
  have k : ¬ (b = 0 ∨ (a = -9223372036854775808 ∧ b = -1)) := fun x => x.elim h g
  unfold divV divQ divR divE; rw [if_neg k, if_neg k, if_neg h, if_neg g, e, f]
theorem tdiv_bd' {a b : Int} (hb : b ≠ 0) (ha : I64 a) (g : ¬ (a = -9223372036854775808 ∧ b = -1)) : -9223372036854775808 ≤ a.tdiv b ∧ a.tdiv b ≤ 9223372036854775807 := by
  rcases Int.lt_or_gt_of_ne hb with h | h
  · have e : a.tdiv b = -(a.tdiv (-b)) := by rw [Int.tdiv_neg, Int.neg_neg]
    by_cases h1 : b = -1
    · subst h1; unfold I64 at ha; rw [e]; simp only [Int.neg_neg, Int.tdiv_one]; omega
    · have := Int.natAbs_tdiv_le_natAbs a b
      unfold I64 at ha
      have h2 : (a.tdiv (-b)).natAbs < 9223372036854775808 := by
        rw [Int.natAbs_tdiv]
        refine Nat.div_lt_of_lt_mul ?_
        have : 2 * 9223372036854775808 ≤ (-b).natAbs * 9223372036854775808 := Nat.mul_le_mul_right _ (by omega)
        omega
      omega
  · exact tdiv_bd h ha
/-- quotient and remainder by Euclid from those cut towards nought -/
theorem euclid_0 {a b : Int} (_ : b ≠ 0) (h : 0 ≤ a.tmod b) : a.tdiv b = a / b ∧ a.tmod b = a % b := by
  have e := Int.mul_tdiv_add_tmod a b
  rcases Int.lt_or_gt_of_ne ‹b ≠ 0› with hb | hb
  · have l := natAbs_tmod_lt a (b := b) (by omega)
    have := (Int.ediv_emod_unique' (a := a) (b := b) (r := a.tmod b) (q := a.tdiv b) hb).2 ⟨by omega, h, by omega⟩
    omega
  · have l := natAbs_tmod_lt a (b := b) (by omega)
    have := (Int.ediv_emod_unique (a := a) (b := b) (r := a.tmod b) (q := a.tdiv b) hb).2 ⟨by omega, h, by omega⟩
    omega
theorem euclid_p {a b : Int} (hb : 0 < b) (h : a.tmod b < 0) : a.tdiv b - 1 = a / b ∧ a.tmod b + b = a % b := by
  have e := Int.mul_tdiv_add_tmod a b
  have l := natAbs_tmod_lt a (b := b) (by omega)
  have := (Int.ediv_emod_unique (a := a) (b := b) (r := a.tmod b + b) (q := a.tdiv b - 1) hb).2 ⟨by rw [Int.mul_sub]; omega, by omega, by omega⟩
  omega
theorem euclid_n {a b : Int} (hb : b < 0) (h : a.tmod b < 0) : a.tdiv b + 1 = a / b ∧ a.tmod b - b = a % b := by
  have e := Int.mul_tdiv_add_tmod a b
  have l := natAbs_tmod_lt a (b := b) (by omega)
  have := (Int.ediv_emod_unique' (a := a) (b := b) (r := a.tmod b - b) (q := a.tdiv b + 1) hb).2 ⟨by rw [Int.mul_add]; omega, by omega, by omega⟩
  omega
theorem tmod_bd {a b : Int} (hb : b ≠ 0) (h : I64 b) : -9223372036854775807 ≤ a.tmod b ∧ a.tmod b ≤ 9223372036854775807 ∧ (0 < b → a.tmod b + b ≤ 9223372036854775807 ∨ 0 ≤ a.tmod b) ∧ (b < 0 → a.tmod b - b ≤ 9223372036854775807 ∨ 0 ≤ a.tmod b) := by
  have l := natAbs_tmod_lt a hb
  unfold I64 at h
  omega
theorem tdiv_step {a b : Int} (hb : b ≠ 0) (ha : I64 a) (h : a.tmod b < 0) : -9223372036854775807 ≤ a.tdiv b ∧ a.tdiv b ≤ 9223372036854775806 := by
  have e := Int.mul_tdiv_add_tmod a b
  have h1 : b ≠ 1 := by rintro rfl; simp at h
  have h2 : b ≠ -1 := by rintro rfl; simp at h
  have h3 : (a.tdiv b).natAbs * 2 ≤ a.natAbs := by
    have e3 : (a.tdiv b).natAbs = a.natAbs / b.natAbs := Int.natAbs_tdiv a b
    rw [e3]
    have := Nat.div_mul_le_self a.natAbs b.natAbs
    have : (a.natAbs / b.natAbs) * 2 ≤ (a.natAbs / b.natAbs) * b.natAbs := Nat.mul_le_mul_left _ (by omega)
    omega
  unfold I64 at ha
  omega
end Go.Proofs.YtbnpbflndnjmcaaDoor
