/- NumW NumX Mem NumM NumL NumP NumS NumD NumV Post Frame Open Reg -/
import Derived.Test.YtaeodkpkgbjaeaaProg
import Derived.WalkKit
import Derived.BigQuiet
import Derived.Deep.QuietTactic
import Derived.LoopN
import Derived.Lib.Hide
import Derived.Laws.Rows
import Derived.OneCell
import Derived.StillTailTactics
import Derived.Deep.RegionHeld3
import Derived.Deep.RegionWith
import Derived.BigRegion
import Derived.Deep.DeepCutAuto
import Derived.Deep.CutRange
import Derived.Deep.CutBlock
import Derived.ChangeSame
import Derived.OpenShut
import Derived.ProofKit
import Derived.Carry
import Derived.ChangeSlices
import Derived.Lib.SmallJoins
import Derived.ChangeMaps5
import Derived.RegionTactic
import Derived.Deep.Heap

/-! Contracts of package word and of the functions of package num that compute with integers alone: what each returns for any arguments, in any world. No condition but that the arguments are integers of their kinds. -/
namespace Go.Proofs.Ytaeodkpkgbjaeaa
open Go.RowKit

theorem u64w (x : Int) : IntKind.u64.wrap x = x % 18446744073709551616 := by
  simp [IntKind.wrap, IntKind.bits, IntKind.signed]
theorem ret1i {k : IntKind} {a a' : Int} (h : a = a') : Ending.returned (.int k a) = .returned (.int k a') := by rw [h]
theorem ret2i {k l : IntKind} {a a' b b' : Int} (h : a = a') (g : b = b') :
    Ending.returned (.tuple #[.int k a, .int l b]) = .returned (.tuple #[.int k a', .int l b']) := by rw [h, g]
theorem ret3i {k l m : IntKind} {a a' b b' c c' : Int} (h : a = a') (g : b = b') (f : c = c') :
    Ending.returned (.tuple #[.int k a, .int l b, .int m c]) = .returned (.tuple #[.int k a', .int l b', .int m c']) := by rw [h, g, f]

theorem still_of {P : Program} {f : FuncId} {args : Array Value} {w : World} {v : Value} (h : Calls P f args w fun e w' => e = .returned v ∧ w = w') :
    Calls P f args w fun e w' => e = .returned v ∧ w' = w := h.mono fun _ _ ⟨a, b⟩ => ⟨a, b.symm⟩
/-- an int -/
def I64 (a : Int) : Prop := -9223372036854775808 ≤ a ∧ a ≤ 9223372036854775807
/-- a word -/
def U64 (a : Int) : Prop := 0 ≤ a ∧ a < 18446744073709551616

/-- the absolute value -/
theorem word_size (a : Int) (ha : I64 a) (w : World) :
    Calls Try.prog 248 #[.int .i64 a] w fun e w' => e = .returned (.int .u64 a.natAbs) ∧ w = w' := by
  obtain ⟨ha, ha'⟩ := ha
  go_enter Try.func248, Try.ntmps248
  go_wp2
  all_goals
    go_ret
    refine ⟨ret1i ?_, rfl⟩
    first | omega | (simp only [u64w] at *; omega)

/-- a number, or 0 if it does not fit -/
def fitN (n : Int) : Int := if -9223372036854775808 ≤ n ∧ n ≤ 9223372036854775807 then n else 0
/-- OK, or ErrOver if it does not fit -/
def fitE (n : Int) : Int := if -9223372036854775808 ≤ n ∧ n ≤ 9223372036854775807 then 0 else 10
abbrev fitV (n : Int) : Value := .tuple #[.int .i64 (fitN n), .int .i64 (fitE n)]
theorem fitV_in {n m : Int} (h : I64 n) (e : m = n) : Ending.returned (.tuple #[.int .i64 m, .int .i64 0]) = .returned (fitV n) := by
  subst e; unfold I64 at h; unfold fitV fitN fitE; rw [if_pos h, if_pos h]
theorem fitV_out {n : Int} (h : ¬ I64 n) : Ending.returned (.tuple #[.int .i64 0, .int .i64 10]) = .returned (fitV n) := by
  unfold I64 at h; unfold fitV fitN fitE; rw [if_neg h, if_neg h]

theorem num_clamp (v lo hi : Int) (w : World) :
    Calls Try.prog 199 #[.int .i64 v, .int .i64 lo, .int .i64 hi] w fun e w' => e = .returned (.int .i64 (if v < lo then lo else if v > hi then hi else v)) ∧ w = w' := by
  go_enter Try.func199, Try.ntmps199
  go_wp2
  all_goals
    go_ret
    refine ⟨ret1i ?_, rfl⟩
    first | omega | (split <;> first | omega | (split <;> omega))

/-- what Ceil returns -/
def ceilN (a b : Int) : Int := if b < 1 then 0 else -(-a / b)
def ceilE (b : Int) : Int := if b < 1 then 1 else 0
abbrev ceilV (a b : Int) : Value := .tuple #[.int .i64 (ceilN a b), .int .i64 (ceilE b)]
theorem ceilV_0 {a b : Int} (h : b < 1) : Ending.returned (.tuple #[.int .i64 0, .int .i64 1]) = .returned (ceilV a b) := by unfold ceilV ceilN ceilE; rw [if_pos h, if_pos h]
theorem ceilV_1 {a b q : Int} (h : ¬ b < 1) (e : q = -(-a / b)) : Ending.returned (.tuple #[.int .i64 q, .int .i64 0]) = .returned (ceilV a b) := by unfold ceilV ceilN ceilE; rw [if_neg h, if_neg h, e]
theorem neg_ediv_of {a b : Int} (hb : 0 < b) : -(-a / b) = a / b + (if a % b = 0 then 0 else 1) := by
  have e := Int.emod_add_mul_ediv a b
  have l := Int.emod_lt_of_pos a hb
  have g := Int.emod_nonneg a (Int.ne_of_gt hb)
  split
  · rename_i h
    have := ((Int.ediv_emod_unique (a := -a) (b := b) (r := 0) (q := -(a / b)) hb).2 ⟨by rw [Int.mul_neg]; omega, by omega, by omega⟩).1
    omega
  · rename_i h
    have := ((Int.ediv_emod_unique (a := -a) (b := b) (r := b - a % b) (q := -(a / b) - 1) hb).2 ⟨by rw [Int.mul_sub, Int.mul_neg]; omega, by omega, by omega⟩).1
    omega
theorem tdiv_pos_eq {a b : Int} (hb : 0 < b) : a.tdiv b = a / b + (if 0 ≤ a ∨ a % b = 0 then 0 else 1) := by
  rw [Int.tdiv_eq_ediv, Int.sign_eq_one_of_pos hb]
  simp only [Int.dvd_iff_emod_eq_zero]
theorem tmod_pos_eq {a b : Int} (hb : 0 < b) : a.tmod b = a % b - (if 0 ≤ a ∨ a % b = 0 then 0 else b) := by
  rw [Int.tmod_eq_emod]
  simp only [Int.dvd_iff_emod_eq_zero]
  split <;> omega
theorem ceil_up {a b : Int} (hb : 0 < b) (h : 0 < a.tmod b) : a.tdiv b + 1 = -(-a / b) := by
  have l := Int.emod_lt_of_pos a hb
  have g := Int.emod_nonneg a (Int.ne_of_gt hb)
  rw [neg_ediv_of hb, tdiv_pos_eq hb]
  rw [tmod_pos_eq hb] at h
  split at h <;> split <;> omega
theorem ceil_same {a b : Int} (hb : 0 < b) (h : ¬ 0 < a.tmod b) : a.tdiv b = -(-a / b) := by
  have l := Int.emod_lt_of_pos a hb
  have g := Int.emod_nonneg a (Int.ne_of_gt hb)
  rw [neg_ediv_of hb, tdiv_pos_eq hb]
  rw [tmod_pos_eq hb] at h
  split at h <;> split <;> omega
theorem tdiv_bd {a b : Int} (hb : 0 < b) (ha : I64 a) : -9223372036854775808 ≤ a.tdiv b ∧ a.tdiv b ≤ 9223372036854775807 := by
  unfold I64 at ha
  have := Int.natAbs_tdiv_le_natAbs a b
  have : a < 0 → a.tdiv b ≤ 0 := by
    intro h
    rw [tdiv_pos_eq hb]
    have := Int.ediv_neg_of_neg_of_pos h hb
    split <;> omega
  omega
theorem natAbs_tmod_lt (a : Int) {b : Int} (hb : b ≠ 0) : (a.tmod b).natAbs < b.natAbs := by
  rw [Int.natAbs_tmod]; exact Nat.mod_lt _ (by omega)
theorem tdiv_bd1 {a b : Int} (hb : 0 < b) (ha : I64 a) (h : 0 < a.tmod b) : a.tdiv b + 1 ≤ 9223372036854775807 := by
  have := tdiv_bd hb ha
  unfold I64 at ha
  have l := Int.emod_lt_of_pos a hb
  have g := Int.emod_nonneg a (Int.ne_of_gt hb)
  have e := Int.emod_add_mul_ediv a b
  rw [tmod_pos_eq hb] at h
  rw [tdiv_pos_eq hb]
  split at h
  · split
    · have : 1 < b := by omega
      have : 0 ≤ a := by omega
      have : 0 ≤ a / b := Int.ediv_nonneg (by omega) (by omega)
      have : 2 * (a / b) ≤ b * (a / b) := Int.mul_le_mul_of_nonneg_right (by omega) (by omega)
      omega
    · omega
  · omega

theorem num_ceil (a b : Int) (ha : I64 a) (w : World) :
    Calls Try.prog 154 #[.int .i64 a, .int .i64 b] w fun e w' => e = .returned (ceilV a b) ∧ w = w' := by
  by_cases h : b < 1
  · go_enter Try.func154, Try.ntmps154
    go_wp2
    go_ret2
    exact ⟨ceilV_0 h, rfl⟩
  · have hb0 : 0 < b := by omega
    have hd := tdiv_bd hb0 ha
    have hb0' : b ≠ 0 := by omega
    by_cases h0 : 0 < a.tmod b
    · have h1 := tdiv_bd1 hb0 ha h0
      have hu := Lib.hid (ceil_up hb0 h0)
      go_enter Try.func154, Try.ntmps154
      go_wp2
      go_ret2
      exact ⟨ceilV_1 (by omega) hu.out, rfl⟩
    · have hu := Lib.hid (ceil_same hb0 h0)
      go_enter Try.func154, Try.ntmps154
      go_wp2
      go_ret2
      exact ⟨ceilV_1 (by omega) hu.out, rfl⟩

/-- what Div returns -/
def divQ (a b : Int) : Int := if b = 0 ∨ (a = -9223372036854775808 ∧ b = -1) then 0 else a / b
def divR (a b : Int) : Int := if b = 0 ∨ (a = -9223372036854775808 ∧ b = -1) then 0 else a % b
def divE (a b : Int) : Int := if b = 0 then 11 else if a = -9223372036854775808 ∧ b = -1 then 10 else 0
abbrev divV (a b : Int) : Value := .tuple #[.int .i64 (divQ a b), .int .i64 (divR a b), .int .i64 (divE a b)]
theorem divV_z {a : Int} : Ending.returned (.tuple #[.int .i64 0, .int .i64 0, .int .i64 11]) = .returned (divV a 0) := by unfold divV divQ divR divE; rw [if_pos (.inl rfl), if_pos (.inl rfl), if_pos rfl]
theorem divV_o : Ending.returned (.tuple #[.int .i64 0, .int .i64 0, .int .i64 10]) = .returned (divV (-9223372036854775808) (-1)) := by unfold divV divQ divR divE; rw [if_pos (.inr ⟨rfl, rfl⟩), if_pos (.inr ⟨rfl, rfl⟩), if_neg (by omega), if_pos ⟨rfl, rfl⟩]
theorem divV_ok {a b q r : Int} (h : b ≠ 0) (g : ¬ (a = -9223372036854775808 ∧ b = -1)) (e : q = a / b) (f : r = a % b) : Ending.returned (.tuple #[.int .i64 q, .int .i64 r, .int .i64 0]) = .returned (divV a b) := by
  have k : ¬ (b = 0 ∨ (a = -9223372036854775808 ∧ b = -1)) := fun x => x.elim h g
  unfold divV divQ divR divE; rw [if_neg k, if_neg k, if_neg h, if_neg g, e, f]
theorem tdiv_bd' {a b : Int} (hb : b ≠ 0) (ha : I64 a) (g : ¬ (a = -9223372036854775808 ∧ b = -1)) : -9223372036854775808 ≤ a.tdiv b ∧ a.tdiv b ≤ 9223372036854775807 := by
  rcases Int.lt_or_gt_of_ne hb with h | h
  · have e : a.tdiv b = -(a.tdiv (-b)) := by rw [Int.tdiv_neg, Int.neg_neg]
    by_cases h1 : b = -1
    · subst h1; unfold I64 at ha; rw [e]; simp only [Int.neg_neg, Int.tdiv_one]; omega
    · have := Int.natAbs_tdiv_le_natAbs a b
      unfold I64 at ha
      have h2 : (a.tdiv (-b)).natAbs < 9223372036854775808 := by
        rw [Int.natAbs_tdiv]
        refine Nat.div_lt_of_lt_mul ?_
        have : 2 * 9223372036854775808 ≤ (-b).natAbs * 9223372036854775808 := Nat.mul_le_mul_right _ (by omega)
        omega
      omega
  · exact tdiv_bd h ha
/-- quotient and remainder by Euclid from those cut towards nought -/
theorem euclid_0 {a b : Int} (_ : b ≠ 0) (h : 0 ≤ a.tmod b) : a.tdiv b = a / b ∧ a.tmod b = a % b := by
  have e := Int.mul_tdiv_add_tmod a b
  rcases Int.lt_or_gt_of_ne ‹b ≠ 0› with hb | hb
  · have l := natAbs_tmod_lt a (b := b) (by omega)
    have := (Int.ediv_emod_unique' (a := a) (b := b) (r := a.tmod b) (q := a.tdiv b) hb).2 ⟨by omega, h, by omega⟩
    omega
  · have l := natAbs_tmod_lt a (b := b) (by omega)
    have := (Int.ediv_emod_unique (a := a) (b := b) (r := a.tmod b) (q := a.tdiv b) hb).2 ⟨by omega, h, by omega⟩
    omega
theorem euclid_p {a b : Int} (hb : 0 < b) (h : a.tmod b < 0) : a.tdiv b - 1 = a / b ∧ a.tmod b + b = a % b := by
  have e := Int.mul_tdiv_add_tmod a b
  have l := natAbs_tmod_lt a (b := b) (by omega)
  have := (Int.ediv_emod_unique (a := a) (b := b) (r := a.tmod b + b) (q := a.tdiv b - 1) hb).2 ⟨by rw [Int.mul_sub]; omega, by omega, by omega⟩
  omega
theorem euclid_n {a b : Int} (hb : b < 0) (h : a.tmod b < 0) : a.tdiv b + 1 = a / b ∧ a.tmod b - b = a % b := by
  have e := Int.mul_tdiv_add_tmod a b
  have l := natAbs_tmod_lt a (b := b) (by omega)
  have := (Int.ediv_emod_unique' (a := a) (b := b) (r := a.tmod b - b) (q := a.tdiv b + 1) hb).2 ⟨by rw [Int.mul_add]; omega, by omega, by omega⟩
  omega
theorem tmod_bd {a b : Int} (hb : b ≠ 0) (h : I64 b) : -9223372036854775807 ≤ a.tmod b ∧ a.tmod b ≤ 9223372036854775807 ∧ (0 < b → a.tmod b + b ≤ 9223372036854775807 ∨ 0 ≤ a.tmod b) ∧ (b < 0 → a.tmod b - b ≤ 9223372036854775807 ∨ 0 ≤ a.tmod b) := by
  have l := natAbs_tmod_lt a hb
  unfold I64 at h
  omega
theorem tdiv_step {a b : Int} (hb : b ≠ 0) (ha : I64 a) (h : a.tmod b < 0) : -9223372036854775807 ≤ a.tdiv b ∧ a.tdiv b ≤ 9223372036854775806 := by
  have e := Int.mul_tdiv_add_tmod a b
  have h1 : b ≠ 1 := by rintro rfl; simp at h
  have h2 : b ≠ -1 := by rintro rfl; simp at h
  have h3 : (a.tdiv b).natAbs * 2 ≤ a.natAbs := by
    have e3 : (a.tdiv b).natAbs = a.natAbs / b.natAbs := Int.natAbs_tdiv a b
    rw [e3]
    have := Nat.div_mul_le_self a.natAbs b.natAbs
    have : (a.natAbs / b.natAbs) * 2 ≤ (a.natAbs / b.natAbs) * b.natAbs := Nat.mul_le_mul_left _ (by omega)
    omega
  unfold I64 at ha
  omega
end Go.Proofs.Ytaeodkpkgbjaeaa

/-! Contracts of num.Div, Gcd and Log: what each returns for any numbers, in any world. -/
namespace Go.Proofs.Ytaeodkpkgbjaeaa
open Go.RowKit

theorem num_div (a b : Int) (ha : I64 a) (hb : I64 b) (w : World) :
    Calls Try.prog 198 #[.int .i64 a, .int .i64 b] w fun e w' => e = .returned (divV a b) ∧ ∃ n, w' = w.drewN n := by
  by_cases hz : b = 0
  · subst hz
    go_enter Try.func198, Try.ntmps198
    go_wp2
    go_ret3
    exact ⟨divV_z, 0, rfl⟩
  by_cases ho : a = -9223372036854775808 ∧ b = -1
  · obtain ⟨rfl, rfl⟩ := ho
    go_enter Try.func198, Try.ntmps198
    go_wp2
    go_ret3
    exact ⟨divV_o, 0, rfl⟩
  have hzb : (b == 0) = false := by simpa using hz
  have hd := tdiv_bd' hz ha ho
  have hm := tmod_bd (a := a) hz hb
  obtain ⟨hb1, hb2⟩ := id hb
  by_cases hl : a = -9223372036854775808
  · have hl1 : (a == -9223372036854775808) = true := by simpa using hl
    have hl2 : (b == -1) = false := by simpa using fun h => ho ⟨hl, h⟩
    have HO := Lib.hid ho
    clear ho hl
    by_cases hr : 0 ≤ a.tmod b
    · have he := Lib.hid (euclid_0 hz hr)
      go_enter Try.func198, Try.ntmps198
      go_wp2
      go_quiet (fail)
      go_wp2
      go_ret3
      exact ⟨divV_ok hz HO.out he.out.1 he.out.2, _, rfl⟩
    · have hs := tdiv_step hz ha (by omega)
      by_cases hb0 : 0 < b
      · have he := Lib.hid (euclid_p hb0 (by omega : a.tmod b < 0))
        have hm2 : a.tmod b + b ≤ 9223372036854775807 := by omega
        go_enter Try.func198, Try.ntmps198
        go_wp2
        go_quiet (fail)
        go_wp2
        go_ret3
        exact ⟨divV_ok hz HO.out he.out.1 he.out.2, _, rfl⟩
      · have he := Lib.hid (euclid_n (by omega) (by omega : a.tmod b < 0))
        have hm2 : a.tmod b - b ≤ 9223372036854775807 := by omega
        go_enter Try.func198, Try.ntmps198
        go_wp2
        go_quiet (fail)
        go_wp2
        go_ret3
        exact ⟨divV_ok hz HO.out he.out.1 he.out.2, _, rfl⟩
  · have hl1 : (a == -9223372036854775808) = false := by simpa using hl
    have HO := Lib.hid ho
    clear ho hl
    by_cases hr : 0 ≤ a.tmod b
    · have he := Lib.hid (euclid_0 hz hr)
      go_enter Try.func198, Try.ntmps198
      go_wp2
      go_quiet (fail)
      go_wp2
      go_ret3
      exact ⟨divV_ok hz HO.out he.out.1 he.out.2, _, rfl⟩
    · have hs := tdiv_step hz ha (by omega)
      by_cases hb0 : 0 < b
      · have he := Lib.hid (euclid_p hb0 (by omega : a.tmod b < 0))
        have hm2 : a.tmod b + b ≤ 9223372036854775807 := by omega
        go_enter Try.func198, Try.ntmps198
        go_wp2
        go_quiet (fail)
        go_wp2
        go_ret3
        exact ⟨divV_ok hz HO.out he.out.1 he.out.2, _, rfl⟩
      · have he := Lib.hid (euclid_n (by omega) (by omega : a.tmod b < 0))
        have hm2 : a.tmod b - b ≤ 9223372036854775807 := by omega
        go_enter Try.func198, Try.ntmps198
        go_wp2
        go_quiet (fail)
        go_wp2
        go_ret3
        exact ⟨divV_ok hz HO.out he.out.1 he.out.2, _, rfl⟩

/-- k is the least number from 0 on such that 2^k is not below n (or 63) -/
def IsLog (n : Int) (k : Nat) : Prop := k ≤ 63 ∧ (∀ j, j < k → (2 : Int) ^ j < n) ∧ (k < 63 → n ≤ 2 ^ k)
def LogPost (n : Int) (w : World) (e : Ending) (w' : World) : Prop := ∃ k : Nat, IsLog n k ∧ e = .returned (.int .i64 k) ∧ w = w'
theorem pow_wrap {k : Nat} (h : k < 63) : wrap64 (2 ^ k) = 2 ^ k ∧ (2 : Int) ^ k ≤ 4611686018427387904 ∧ 0 < (2 : Int) ^ k := by
  have h1 : (2 : Nat) ^ k ≤ 2 ^ 62 := Nat.pow_le_pow_right (by omega) (by omega)
  have h2 : (0 : Nat) < 2 ^ k := Nat.pow_pos (by omega)
  have h3 : ((2 ^ k : Nat) : Int) = (2 : Int) ^ k := by simp
  have h4 : (2 : Nat) ^ 62 = 4611686018427387904 := by decide
  rw [h4] at h1
  refine ⟨?_, by omega, by omega⟩
  rw [← h3]; unfold wrap64; omega
theorem num_log (n : Int) (hn : I64 n) (w : World) :
    Calls Try.prog 163 #[.int .i64 n] w (LogPost n w) := by
  obtain ⟨hn, hn'⟩ := hn
  go_enter Try.func163, Try.ntmps163
  go_wp2
  go_loop [3] (fun i => ∃ k : Nat, k ≤ 63 ∧ (∀ j, j < k → (2 : Int) ^ j < n) ∧ i = .int .i64 k) (fun i => 63 - (intOf i).toNat)
  case atStart => exact ⟨0, by omega, fun j h => absurd h (by omega), rfl⟩
  case round =>
    obtain ⟨k, hk, hj, rfl⟩ := hrel
    have HJ := Lib.hid hj
    clear hj
    by_cases h63 : k < 63
    · have HP := Lib.hid (pow_wrap h63)
      go_wp2
      · refine ⟨⟨k + 1, by omega, fun j hj => ?_, rfl⟩, by simp [intOf]; omega⟩
        rcases Nat.lt_succ_iff_lt_or_eq.1 hj with h | rfl
        · exact HJ.out j h
        · rename_i h
          rw [HP.out.1] at h; exact h
      · rename_i h _
        rw [HP.out.1] at h
        go_ret
        exact ⟨k, ⟨hk, HJ.out, fun _ => h⟩, rfl, rfl⟩
    · go_wp2
      go_ret
      exact ⟨k, ⟨hk, HJ.out, fun h => absurd h h63⟩, rfl, rfl⟩

def gcdN (a b : Int) : Int := if Int.gcd a b ≤ 9223372036854775807 then Int.gcd a b else 0
def gcdE (a b : Int) : Int := if Int.gcd a b ≤ 9223372036854775807 then 0 else 10
abbrev gcdV (a b : Int) : Value := .tuple #[.int .i64 (gcdN a b), .int .i64 (gcdE a b)]
theorem gcdV_in {a b : Int} {X : Nat} (e : X = Int.gcd a b) (h : X ≤ 9223372036854775807) : Ending.returned (.tuple #[.int .i64 X, .int .i64 0]) = .returned (gcdV a b) := by
  unfold gcdV gcdN gcdE; rw [← e, if_pos h, if_pos h]
theorem gcdV_out {a b : Int} {X : Nat} (e : X = Int.gcd a b) (h : ¬ X ≤ 9223372036854775807) : Ending.returned (.tuple #[.int .i64 0, .int .i64 10]) = .returned (gcdV a b) := by
  unfold gcdV gcdN gcdE; rw [← e, if_neg h, if_neg h]
theorem num_gcd (a b : Int) (ha : I64 a) (hb : I64 b) (w : World) :
    Calls Try.prog 219 #[.int .i64 a, .int .i64 b] w fun e w' => e = .returned (gcdV a b) ∧ ∃ n, w' = w.drewN n := by
  go_enter Try.func219, Try.ntmps219
  go_wp2_with (go_at_call 248; refine (word_size _ (by assumption) _).mono ?_; rintro e w' ⟨rfl, rfl⟩)
  go_loopw [6, 7] (fun x y wr => ∃ X Y : Nat, x = .int .u64 X ∧ y = .int .u64 Y ∧ Hid (Nat.gcd X Y = Int.gcd a b) ∧ X ≤ 9223372036854775808 ∧ Y ≤ 9223372036854775808 ∧ ∃ n, wr = w.drewN n) (fun _ y _ => (intOf y).toNat)
  case atStart => 
    unfold I64 at ha hb
    exact ⟨a.natAbs, b.natAbs, rfl, rfl, rfl, by omega, by omega, 0, rfl⟩
  case round =>
    obtain ⟨X, Y, rfl, rfl, HG, hX, hY, m, rfl⟩ := hrel
    by_cases hY0 : Y = 0
    · subst hY0
      have HE : Hid (X = Int.gcd a b) := by have := HG.out; rw [Nat.gcd_zero_right] at this; exact this
      by_cases hX : X ≤ 9223372036854775807
      · go_wp2
        go_ret2
        exact ⟨gcdV_in HE.out hX, m, rfl⟩
      · go_wp2
        go_ret2
        exact ⟨gcdV_out HE.out hX, m, rfl⟩
    · have hz : (((Y : Int) != 0)) = true := by simpa using hY0
      have hz' : (((Y : Int) == 0)) = false := by simpa using hY0
      have hlt := Nat.mod_lt X (y := Y) (by omega)
      have HG' : Hid (Nat.gcd Y (X % Y) = Int.gcd a b) := by have := HG.out; rw [Nat.gcd_comm, Nat.gcd_rec, Nat.gcd_comm] at this; exact this
      go_wp2
      go_quiet (fail)
      go_wp2
      refine ⟨⟨Y, X % Y, rfl, rfl, HG', hY, by omega, m + nq, World.drewN_drewN _ _ _⟩, ?_⟩
      simp only [intOf]
      omega
end Go.Proofs.Ytaeodkpkgbjaeaa

/-! How a list of numbers lies in memory; own rows. -/
namespace Go.Proofs.Ytaeodkpkgbjaeaa
open Go.RowKit
/-- the numbers of l lie from A on, in a block below B -/
def Lies (w : World) (B : Nat) (A : Option Addr) (l : List Int) : Prop :=
  0 < l.length → ∃ ad : Addr, A = some ad ∧ ad.block < B ∧ ∀ j, j < l.length → w.cell? (ad.add j) = some (.int .i64 (l.getD j 0))
theorem add_block (a : Addr) (n : Nat) : (a.add n).block = a.block := by unfold Addr.add; split <;> rfl
theorem Lies.below {w w' : World} {B : Nat} {A : Option Addr} {l : List Int} (h : Lies w B A l) (hb : Below B w w') : Lies w' B A l := fun h0 => by
  obtain ⟨ad, e, hB, hc⟩ := h h0
  exact ⟨ad, e, hB, fun j hj => (hb.cell (by rw [add_block]; exact hB)).trans (hc j hj)⟩
theorem Lies.mono {w : World} {B B' : Nat} {A : Option Addr} {l : List Int} (h : Lies w B A l) (hB : B ≤ B') : Lies w B' A l := fun h0 => by
  obtain ⟨ad, e, hb, hc⟩ := h h0
  exact ⟨ad, e, by omega, hc⟩
theorem Lies.nil {w : World} {B : Nat} {A : Option Addr} : Lies w B A [] := fun h => absurd h (by simp)

theorem Lies.setCell {w : World} {B : Nat} {A : Option Addr} {l : List Int} (h : Lies w B A l) {p : Addr} (hp : ∀ n, w.cell? p ≠ some (.int .i64 n)) (u : Value) : Lies (w.setCell p u) B A l := fun h0 => by
  obtain ⟨ad, e, hb, hc⟩ := h h0
  refine ⟨ad, e, hb, fun j hj => ?_⟩
  rw [World.cell?_setCell_other w p (ad.add j) u (fun e2 => hp _ (by rw [e2]; exact hc j hj))]
  exact hc j hj

theorem alloc_size' (w : World) (o : Obj) : (w.alloc o).heap.size = w.heap.size + 1 := by simp
/-- block g holds just these cells -/
def Box (w : World) (g : Nat) (cs : Array Value) (t : TypeId) : Prop := w.heap[g]? = some (.cells cs t (0, 0))
theorem Box.new (w : World) (cs : Array Value) (t : TypeId) : Box (w.alloc (.cells cs t)) w.heap.size cs t := heap_alloc_new w _
theorem Box.lt {w : World} {g : Nat} {cs : Array Value} {t : TypeId} (h : Box w g cs t) : g < w.heap.size := by
  rcases Nat.lt_or_ge g w.heap.size with hlt | hge
  · exact hlt
  · unfold Box at h; rw [Array.getElem?_eq_none hge] at h; cases h
theorem Box.alloc {w : World} {g : Nat} {cs : Array Value} {t : TypeId} (h : Box w g cs t) (o : Obj) : Box (w.alloc o) g cs t := (Below.heap_alloc w o g h.lt).trans h
theorem Box.below {w w' : World} {g B : Nat} {cs : Array Value} {t : TypeId} (h : Box w g cs t) (hb : Below B w w') (hg : g < B) : Box w' g cs t := (hb.block g hg).trans h
theorem Box.drewN {w : World} {g : Nat} {cs : Array Value} {t : TypeId} (h : Box w g cs t) (n : Nat) : Box (w.drewN n) g cs t := h
theorem Box.cell {w : World} {g : Nat} {cs : Array Value} {t : TypeId} (h : Box w g cs t) (i : Nat) : w.cell? ⟨g, i, none⟩ = cs[i]? := cell_of_row w g i cs t (0, 0) h
theorem Box.free {w : World} {g : Nat} {cs : Array Value} {t : TypeId} (h : Box w g cs t) (i : Nat) : w.frozen? ⟨g, i, none⟩ = false := by
  unfold Box at h; simp [World.frozen?, h]
/-- the two cells of a box of two, and that they may be written -/
theorem Box.two {w : World} {g : Nat} {a b : Value} {t : TypeId} (h : Box w g #[a, b] t) :
    w.cell? ⟨g, 0, none⟩ = some a ∧ w.cell? ⟨g, 1, none⟩ = some b ∧ w.frozen? ⟨g, 0, none⟩ = false ∧ w.frozen? ⟨g, 1, none⟩ = false :=
  ⟨h.cell 0, h.cell 1, h.free 0, h.free 1⟩
/-- what lies elsewhere lies still, behind a store into a box of a bool and a list -/
theorem Lies.stored {w : World} {B g : Nat} {A : Option Addr} {l : List Int} {b : Bool} {A2 : Option Addr} {n c : Nat} {t : TypeId} (h : Lies w B A l) (hx : Box w g #[.bool b, .slice A2 n c] t) (u v : Value) :
    Lies ((w.setCell ⟨g, 0, none⟩ u).setCell ⟨g, 1, none⟩ v) B A l := by
  refine (h.setCell (p := ⟨g, 0, none⟩) (fun n he => ?_) u).setCell (p := ⟨g, 1, none⟩) (fun n he => ?_) v
  · rw [hx.two.1] at he; cases he
  · rw [World.cell?_setCell_other w ⟨g, 0, none⟩ ⟨g, 1, none⟩ u (by simp), hx.two.2.1] at he; cases he
end Go.Proofs.Ytaeodkpkgbjaeaa

/-! The contract of word.Mul. -/
namespace Go.Proofs.Ytaeodkpkgbjaeaa
open Go.RowKit
theorem or_low (h l : Int) (h0 : 0 ≤ h) (h1 : h < 4294967296) (l0 : 0 ≤ l) (l1 : l < 4294967296) : bits .or .u64 (h * 4294967296) l = h * 4294967296 + l := by
  rw [u64_or _ _ (by omega) (by omega) (by omega) (by omega)]
  obtain ⟨h, rfl⟩ := Int.eq_ofNat_of_zero_le h0
  obtain ⟨l, rfl⟩ := Int.eq_ofNat_of_zero_le l0
  have e : ((h : Int) * 4294967296).toNat = 2 ^ 32 * h := by omega
  have e2 : ((l : Int)).toNat = l := by omega
  rw [e, e2, ← Nat.two_pow_add_eq_or_of_lt (by omega : l < 2 ^ 32)]
  omega
/-- both words of a product, by halves -/
theorem halves (a b : Int) (ha : U64 a) (hb : U64 b) (x1 x0 y1 y0 lo mid oth : Int)
    (hx1 : x1 = a / 4294967296) (hx0 : x0 = a % 4294967296) (hy1 : y1 = b / 4294967296) (hy0 : y0 = b % 4294967296)
    (hlo : lo = x0 * y0) (hmid : mid = x1 * y0 + lo / 4294967296) (hoth : oth = x0 * y1 + mid % 4294967296) :
    (0 ≤ lo ∧ lo < 18446744073709551616) ∧ (0 ≤ x1 * y0 ∧ x1 * y0 < 18446744073709551616) ∧ (0 ≤ mid ∧ mid < 18446744073709551616) ∧ (0 ≤ x0 * y1 ∧ x0 * y1 < 18446744073709551616) ∧ (0 ≤ oth ∧ oth < 18446744073709551616) ∧
    (0 ≤ x1 * y1 ∧ x1 * y1 + mid / 4294967296 + oth / 4294967296 < 18446744073709551616) ∧ x1 * y1 + mid / 4294967296 + oth / 4294967296 = a * b / 18446744073709551616 ∧ oth % 4294967296 * 4294967296 + lo % 4294967296 = a * b % 18446744073709551616 := by
  unfold U64 at ha hb
  have b1 : 0 ≤ x1 ∧ x1 ≤ 4294967295 := by omega
  have b2 : 0 ≤ x0 ∧ x0 ≤ 4294967295 := by omega
  have b3 : 0 ≤ y1 ∧ y1 ≤ 4294967295 := by omega
  have b4 : 0 ≤ y0 ∧ y0 ≤ 4294967295 := by omega
  have pA := prod_bound x1 y1 b1.1 b1.2 b3.1 b3.2
  have pB := prod_bound x1 y0 b1.1 b1.2 b4.1 b4.2
  have pC := prod_bound x0 y0 b2.1 b2.2 b4.1 b4.2
  have pD := prod_bound x0 y1 b2.1 b2.2 b3.1 b3.2
  have ea : a = x1 * 4294967296 + x0 := by omega
  have eb : b = y1 * 4294967296 + y0 := by omega
  have hxy : a * b = x1 * y1 * 18446744073709551616 + (x1 * y0 + x0 * y1) * 4294967296 + x0 * y0 := by rw [ea, eb]; exact split_mul x1 x0 y1 y0
  rw [hxy]
  clear hxy ea eb hx1 hx0 hy1 hy0
  generalize x1 * y1 = A at *
  generalize x1 * y0 = B at *
  generalize x0 * y0 = C at *
  generalize x0 * y1 = D at *
  omega
theorem word_mul (a b : Int) (ha : U64 a) (hb : U64 b) (w : World) :
    Calls Try.prog 264 #[.int .u64 a, .int .u64 b] w fun e w' => e = .returned (.tuple #[.int .u64 (a * b / 18446744073709551616), .int .u64 (a * b % 18446744073709551616)]) ∧ w = w' := by
  have H := Lib.hid (halves a b ha hb _ _ _ _ _ _ _ rfl rfl rfl rfl rfl rfl rfl)
  obtain ⟨ha, ha'⟩ := ha
  obtain ⟨hb, hb'⟩ := hb
  go_enter Try.func264, Try.ntmps264
  go_wp2
  go_ret2
  obtain ⟨q1, q2, q3, q4, q5, q6, q7, q8⟩ := H.out
  have e1 := and_low32 a ha ha'
  have e2 := and_low32 b hb hb'
  have m : ∀ z : Int, 0 ≤ z ∧ z < 18446744073709551616 → z % 18446744073709551616 = z := fun z h => by omega
  have al : ∀ z : Int, 0 ≤ z ∧ z < 18446744073709551616 → bits .and .u64 z 4294967295 = z % 4294967296 := fun z h => and_low32 z h.1 h.2
  have q9 : 0 ≤ a / 4294967296 * (b / 4294967296) ∧ a / 4294967296 * (b / 4294967296) < 18446744073709551616 := by omega
  refine ⟨ret2i ?_ ?_, rfl⟩
  · simp only [e1, e2, u64w, m _ q1, m _ q2, m _ q3, m _ q4, m _ q5, m _ q9, al _ q3]
    rw [← q7]; omega
  · simp only [e1, e2, u64w, m _ q1, m _ q2, m _ q3, m _ q4, m _ q5, al _ q3, al _ q1]
    rw [← q8, ← or_low _ _ (by omega) (by omega) (by omega) (by omega)]
    congr 1
    omega
end Go.Proofs.Ytaeodkpkgbjaeaa

/-! Contracts of num.of, product, plus, number, Mul: numbers of three words. -/
namespace Go.Proofs.Ytaeodkpkgbjaeaa
open Go.RowKit

/-- three words -/
def L3 (x y z : Int) : Value := .agg #[.int .u64 x, .int .u64 y, .int .u64 z]
/-- a number in two's complement, of three words -/
def twos (n : Int) : Value := .agg #[.int .u64 (n % 18446744073709551616), .int .u64 (n / 18446744073709551616 % 18446744073709551616), .int .u64 (n / 340282366920938463463374607431768211456 % 18446744073709551616)]

/-- all ones for a number below 0, else 0 -/
def sgn (a : Int) : Int := if a < 0 then 18446744073709551615 else 0
theorem sgn_u64 (a : Int) : U64 (sgn a) := by unfold sgn U64; split <;> omega
theorem u64_mod (a : Int) : U64 (a % 18446744073709551616) := by unfold U64; omega

end Go.Proofs.Ytaeodkpkgbjaeaa

/-! Contracts of num.number, product and Mul. -/
namespace Go.Proofs.Ytaeodkpkgbjaeaa
open Go.RowKit
theorem and_sgn (a z : Int) (hz : U64 z) : bits .and .u64 (sgn a) z = if a < 0 then z else 0 := by
  unfold U64 at hz
  unfold sgn
  split
  · rw [u64_and _ _ (by omega) (by omega) hz.1 hz.2]
    obtain ⟨z, rfl⟩ := Int.eq_ofNat_of_zero_le hz.1
    have e : (18446744073709551615 : Int).toNat = 2 ^ 64 - 1 := by decide
    have e2 : ((z : Int)).toNat = z := by omega
    rw [e, e2, Nat.and_comm, Nat.and_two_pow_sub_one_eq_mod]
    omega
  · rw [u64_and _ _ (by omega) (by omega) hz.1 hz.2]
    simp
theorem mul_bd (a b : Int) (ha : I64 a) (hb : I64 b) : -85070591730234615865843651857942052864 ≤ a * b ∧ a * b ≤ 85070591730234615865843651857942052864 := by
  unfold I64 at ha hb
  have h : (a * b).natAbs ≤ 9223372036854775808 * 9223372036854775808 := by
    rw [Int.natAbs_mul]; exact Nat.mul_le_mul (by omega) (by omega)
  omega
theorem prod_hi (a b : Int) (ha : I64 a) (hb : I64 b) :
    (((a % 18446744073709551616) * (b % 18446744073709551616) / 18446744073709551616 - (if a < 0 then b % 18446744073709551616 else 0)) % 18446744073709551616 - (if b < 0 then a % 18446744073709551616 else 0)) % 18446744073709551616 = a * b / 18446744073709551616 % 18446744073709551616 := by
  unfold I64 at ha hb
  have ea : a % 18446744073709551616 = if a < 0 then a + 18446744073709551616 else a := by split <;> omega
  have eb : b % 18446744073709551616 = if b < 0 then b + 18446744073709551616 else b := by split <;> omega
  rw [ea, eb]
  by_cases h1 : a < 0 <;> by_cases h2 : b < 0 <;> simp only [h1, h2, if_true, if_false, Int.add_mul, Int.mul_add] <;> generalize a * b = P <;> omega
theorem prod_lo (a b : Int) : (a % 18446744073709551616) * (b % 18446744073709551616) % 18446744073709551616 = a * b % 18446744073709551616 := by
  rw [← Int.mul_emod]
theorem prod_top (P : Int) (h : -85070591730234615865843651857942052864 ≤ P ∧ P ≤ 85070591730234615865843651857942052864) :
    sgn (wrap64 (P / 18446744073709551616 % 18446744073709551616)) = P / 340282366920938463463374607431768211456 % 18446744073709551616 := by
  unfold sgn wrap64
  split <;> omega
theorem L3_eq {x y z x' y' z' : Int} (h : x = x') (g : y = y') (f : z = z') : L3 x y z = L3 x' y' z' := by rw [h, g, f]
theorem of_twos (a : Int) (ha : I64 a) : L3 (a % 18446744073709551616) (sgn a) (sgn a) = twos a := by
  unfold I64 at ha
  unfold L3 twos
  have e1 : sgn a = a / 18446744073709551616 % 18446744073709551616 := by unfold sgn; split <;> omega
  have e2 : sgn a = a / 340282366920938463463374607431768211456 % 18446744073709551616 := by unfold sgn; split <;> omega
  rw [← e1, ← e2]
theorem wrap64_i64 (x : Int) : I64 (wrap64 x) := by unfold wrap64 I64; omega
theorem div128 (n : Int) : n / 340282366920938463463374607431768211456 = n / 18446744073709551616 / 18446744073709551616 := by omega
theorem carry_div (n m c : Int) : (n + m + c) / 18446744073709551616 = n / 18446744073709551616 + m / 18446744073709551616 + (n % 18446744073709551616 + m % 18446744073709551616 + c) / 18446744073709551616 := by omega
theorem plus_twos (n m : Int) : L3 ((n % 18446744073709551616 + m % 18446744073709551616) % 18446744073709551616) ((n / 18446744073709551616 % 18446744073709551616 + m / 18446744073709551616 % 18446744073709551616 + (n % 18446744073709551616 + m % 18446744073709551616) / 18446744073709551616) % 18446744073709551616)
    ((n / 340282366920938463463374607431768211456 % 18446744073709551616 + m / 340282366920938463463374607431768211456 % 18446744073709551616 + (n / 18446744073709551616 % 18446744073709551616 + m / 18446744073709551616 % 18446744073709551616 + (n % 18446744073709551616 + m % 18446744073709551616) / 18446744073709551616) / 18446744073709551616) % 18446744073709551616) = twos (n + m) := by
  have h1 := carry_div n m 0
  simp only [Int.add_zero] at h1
  refine L3_eq (by omega) (by omega) ?_
  rw [div128 n, div128 m, div128 (n + m), h1]
  generalize n / 18446744073709551616 = n1
  generalize m / 18446744073709551616 = m1
  generalize (n % 18446744073709551616 + m % 18446744073709551616) / 18446744073709551616 = c
  rw [carry_div n1 m1 c]
  omega

theorem product_L3 (a b : Int) (ha : I64 a) (hb : I64 b) : L3 (a % 18446744073709551616 * (b % 18446744073709551616) % 18446744073709551616) (IntKind.u64.wrap (IntKind.u64.wrap (a % 18446744073709551616 * (b % 18446744073709551616) / 18446744073709551616 - bits BinOp.and IntKind.u64 (sgn a) (IntKind.u64.wrap b)) - bits BinOp.and IntKind.u64 (sgn b) (IntKind.u64.wrap a))) (sgn (wrap64 (IntKind.u64.wrap (IntKind.u64.wrap (a % 18446744073709551616 * (b % 18446744073709551616) / 18446744073709551616 - bits BinOp.and IntKind.u64 (sgn a) (IntKind.u64.wrap b)) - bits BinOp.and IntKind.u64 (sgn b) (IntKind.u64.wrap a))))) = twos (a * b) := by
  have h := prod_hi a b ha hb
  have e1 := and_sgn a (b % 18446744073709551616) (u64_mod b)
  have e2 := and_sgn b (a % 18446744073709551616) (u64_mod a)
  simp only [u64w, e1, e2, h]
  exact L3_eq (prod_lo a b) rfl (prod_top _ (mul_bd a b ha hb))
theorem run_part_cell (P : Program) (w : World) (e : TypeId) (cs : Array Value) (i : Nat) (v : Value) (ha : (isAgg e).run P w = .ok false w) (h : cs[i]? = some v) : (part e cs i).run P w = .ok v w := by
  simp [part, ha, h]
theorem run_equalIn_arr3 (P : Program) (w : World) (d : Nat) (t e : TypeId) (k : IntKind) (ht : P.underlying t = some (.array 3 e)) (he : P.underlying e = some (.int k)) (hs : (sizeOf e).run P w = .ok 1 w) (ha : (isAgg e).run P w = .ok false w) (x y z x' y' z' : Int) :
    (Op.equalIn (d + 2) t (.agg #[.int k x, .int k y, .int k z]) (.agg #[.int k x', .int k y', .int k z'])).run P w = .ok (x == x' && y == y' && z == z') w := by
  have hp := fun (cs : Array Value) (i : Nat) (v : Value) (h : cs[i]? = some v) => run_part_cell P w e cs i v ha h
  rw [Op.equalIn]
  simp only [Sem.run_bind, run_underlying ht, Result.andThen_ok, hs]
  rw [Std.Legacy.Range.forIn_eq_forIn_range']
  simp [List.range', hp, Op.equalIn, run_underlying he]
  by_cases h1 : x = x' <;> by_cases h2 : y = y' <;> by_cases h3 : z = z' <;> simp [h1, h2, h3]
/-- a number of at most 191 bits -/
def N191 (n : Int) : Prop := -3138550867693340381917894711603833208051177722232017256448 ≤ n ∧ n < 3138550867693340381917894711603833208051177722232017256448
end Go.Proofs.Ytaeodkpkgbjaeaa

/-! Contracts of num.Sum and Dot, over lists of numbers that lie in memory. -/
namespace Go.Proofs.Ytaeodkpkgbjaeaa
open Go.RowKit

def sumI : List Int → Int
  | [] => 0
  | a :: l => a + sumI l
theorem sumI_append (a b : List Int) : sumI (a ++ b) = sumI a + sumI b := by
  induction a with
  | nil => simp [sumI]
  | cons x a ih => simp only [List.cons_append, sumI, ih]; omega
theorem sumI_bd (l : List Int) (h : ∀ x ∈ l, I64 x) : -(9223372036854775808 * (l.length : Int)) ≤ sumI l ∧ sumI l ≤ 9223372036854775808 * (l.length : Int) := by
  induction l with
  | nil => simp [sumI]
  | cons x l ih =>
    have h1 := ih fun y hy => h y (List.mem_cons_of_mem _ hy)
    have h2 := h x List.mem_cons_self
    unfold I64 at h2
    simp only [sumI, List.length_cons]
    omega
theorem sumI_take (l : List Int) (k : Nat) (h : k < l.length) : sumI (l.take (k + 1)) = sumI (l.take k) + l.getD k 0 := by
  rw [List.take_succ_eq_append_getElem h, sumI_append]
  simp [sumI, List.getD, h]

theorem heap_setCell_same (w : World) (g i : Nat) (u : Value) (cs : Array Value) (t : TypeId) (h : w.heap[g]? = some (.cells cs t (0, 0))) : (w.setCell ⟨g, i, none⟩ u).heap[g]? = some (.cells (cs.setIfInBounds i u) t (0, 0)) := by
  simp [World.setCell, Array.getElem?_modify, h]
end Go.Proofs.Ytaeodkpkgbjaeaa

/-! The contract of num.Dot. -/
namespace Go.Proofs.Ytaeodkpkgbjaeaa
open Go.RowKit

/-- the sum of the products of the first k of both -/
def dotI (a b : List Int) : Nat → Int
  | 0 => 0
  | k + 1 => dotI a b k + a.getD k 0 * b.getD k 0
theorem getD_i64 {l : List Int} (h : ∀ x ∈ l, I64 x) (k : Nat) : I64 (l.getD k 0) := by
  by_cases hk : k < l.length
  · rw [List.getD_eq_getElem?_getD, List.getElem?_eq_getElem hk]; exact h _ (List.getElem_mem _)
  · rw [List.getD_eq_getElem?_getD, List.getElem?_eq_none (by omega)]; unfold I64; simp
theorem dotI_bd (a b : List Int) (ha : ∀ x ∈ a, I64 x) (hb : ∀ x ∈ b, I64 x) (k : Nat) : -(85070591730234615865843651857942052864 * (k : Int)) ≤ dotI a b k ∧ dotI a b k ≤ 85070591730234615865843651857942052864 * (k : Int) := by
  induction k with
  | zero => simp [dotI]
  | succ k ih =>
    have := mul_bd _ _ (getD_i64 ha k) (getD_i64 hb k)
    rw [dotI]
    generalize a.getD k 0 * b.getD k 0 = P at *
    omega
end Go.Proofs.Ytaeodkpkgbjaeaa

/-! What the statements of layer 1 ask of every program: all that 'lives' calls answers as it asks, in any world. -/
namespace Go.Proofs.Ytaeodkpkgbjaeaa
open Go.RowKit

theorem lies_new (w : World) (l : List Int) : Lies (w.alloc (.cells (l.map (Value.int .i64)).toArray 3)) (w.heap.size + 1) (some ⟨w.heap.size, 0, none⟩) l := fun _ => by
  refine ⟨⟨w.heap.size, 0, none⟩, rfl, Nat.lt_succ_self _, fun j hj => ?_⟩
  have h1 : (⟨w.heap.size, 0, none⟩ : Addr).add j = ⟨w.heap.size, j, none⟩ := by unfold Addr.add; split <;> simp_all
  rw [h1, (Box.new w _ _).cell j]
  simp [List.getD, hj]

theorem live_div (w : World) : Calls Try.prog 198 #[.int .i64 (-7), .int .i64 (-2)] w fun e w' => e = .returned (.tuple #[.int .i64 4, .int .i64 1, .int .i64 0]) ∧ ∃ n, w' = w.drewN n :=
  (num_div _ _ (by unfold I64; omega) (by unfold I64; omega) w).mono fun e w' ⟨he, hw⟩ => ⟨he.trans (divV_ok (by omega) (by omega) (by decide) (by decide)).symm, hw⟩
theorem live_ceil (w : World) : Calls Try.prog 154 #[.int .i64 7, .int .i64 2] w fun e w' => e = .returned (.tuple #[.int .i64 4, .int .i64 0]) ∧ w = w' :=
  (num_ceil _ _ (by unfold I64; omega) w).mono fun e w' ⟨he, hw⟩ => ⟨he.trans (ceilV_1 (by omega) (by decide)).symm, hw⟩
theorem live_gcd (w : World) : Calls Try.prog 219 #[.int .i64 12, .int .i64 (-18)] w fun e w' => e = .returned (.tuple #[.int .i64 6, .int .i64 0]) ∧ ∃ n, w' = w.drewN n :=
  (num_gcd _ _ (by unfold I64; omega) (by unfold I64; omega) w).mono fun e w' ⟨he, hw⟩ => ⟨he.trans (gcdV_in (X := 6) (by decide) (by omega)).symm, hw⟩
theorem live_clamp (w : World) : Calls Try.prog 199 #[.int .i64 9, .int .i64 1, .int .i64 4] w fun e w' => e = .returned (.int .i64 4) ∧ w = w' :=
  (num_clamp _ _ _ w).mono fun e w' ⟨he, hw⟩ => ⟨he.trans (ret1i (by decide)), hw⟩
theorem isLog_unique {n : Int} {j k : Nat} (hj : IsLog n j) (hk : IsLog n k) : j = k := by
  rcases Nat.lt_trichotomy j k with h | h | h
  · have h1 := hk.2.1 j h
    have h2 := hj.2.2 (by have := hk.1; omega)
    omega
  · exact h
  · have h1 := hj.2.1 k h
    have h2 := hk.2.2 (by have := hj.1; omega)
    omega
theorem isLog_5 : IsLog 5 3 := ⟨by omega, fun j hj => by
  have : j = 0 ∨ j = 1 ∨ j = 2 := by omega
  rcases this with rfl | rfl | rfl <;> decide, fun _ => by decide⟩
theorem live_log (w : World) : Calls Try.prog 163 #[.int .i64 5] w fun e w' => e = .returned (.int .i64 3) ∧ w = w' :=
  (num_log 5 (by unfold I64; omega) w).mono fun e w' ⟨k, hk, he, hw⟩ => ⟨by rw [isLog_unique hk isLog_5] at he; exact he, hw⟩
end Go.Proofs.Ytaeodkpkgbjaeaa

/-! How a law's frame is closed where the call has made memory of its own. -/
namespace Go.Proofs.Ytaeodkpkgbjaeaa
open Go.RowKit Go.WideShapes Go.ChangeShapes

theorem i64_of_wf {a : Int} (h : (Lit.int .i64 a).wf = true) : I64 a := by
  unfold I64
  simp [Lit.wf, IntKind.min, IntKind.max, IntKind.signed, IntKind.bits] at h
  omega
section
variable {H : Type} {enc : TypeId × Value → H} {P : Program}
/-- the frame of a law: the arguments read as they did, and nothing else that was there has turned, whatever was made besides -/
theorem post_below {f : Func} {s : ChangeSpec} {apart fresh handsOn : Bool} {W W' : World} {args : Array Value} {v : Value} {ds gs : List (DataW H)} {before pa pv : List MemPlace}
    (hW : DataW.Whole enc P f.params.toList s.vars apart W args.toList ds gs before)
    (hres : ∀ (b : Nat) (sp : Nat → Bool) (hd : Bool), DataW.TrodAll enc P W' b sp hd f.resultTypes.toList (v.resultList f.resultTypes.size) (s.fn H (ds ++ gs)).results [])
    (hargs : ∀ sp : Nat → Bool, (∀ p ∈ before, sp p.block = true) → DataW.TrodAll enc P W' 0 sp true f.params.toList args.toList (s.fn H (ds ++ gs)).args pa)
    (hvars : ∀ sp : Nat → Bool, (∀ p ∈ before, sp p.block = true) → DataW.TrodVars enc P W' sp s.vars (s.fn H (ds ++ gs)).vars pv)
    (hps : before = pa ++ pv) (hb : Below W.heap.size W W') :
    s.post enc P f apart fresh handsOn false W args v W' := by
  have seen : ∀ p ∈ before, decide (p.block < W.heap.size) = true := fun p hp => decide_eq_true (hW.lt p hp)
  refine ⟨ds, gs, before, [], pa, pv, hW, hres _ _ _, hargs _ seen, hvars _ seen, World.keptBut_mono (fun p hp => ⟨hp, .inr ?_⟩) (hb.frame (· ∈ before)), fun h => by cases h⟩
  rw [hps] at hp
  exact List.mem_append.1 hp
end
end Go.Proofs.Ytaeodkpkgbjaeaa

/-! The frame of a law whose arguments lie in memory: they read behind the call as they did before it. -/
namespace Go.Proofs.Ytaeodkpkgbjaeaa
open Go.RowKit Go.WideShapes Go.ChangeShapes

section
variable {H : Type} {enc : TypeId × Value → H}
theorem trodAll_stays {P : Program} (hl : laidOutB P = true) {W W' : World} (hb : Below W.heap.size W W') : ∀ (ts : List TypeId) (vs : List Value) (ds : List (DataW H)) (ps : List MemPlace),
    (∀ t ∈ ts, P.readableRec t = true ∧ t < P.types.size) → DataW.TrodAll enc P W 0 (fun _ => true) true ts vs ds ps → (∀ x ∈ ps, x.block < W.heap.size) →
    DataW.TrodAll enc P W' 0 (fun b => decide (b < W.heap.size)) true ts vs ds ps := by
  intro ts
  induction ts with
  | nil =>
    intro vs ds ps _ h _
    obtain ⟨rfl, rfl, rfl⟩ := trodAll_nil h
    exact trodAll_mk0
  | cons t ts ih =>
    intro vs ds ps ht h hlt
    obtain ⟨v, vs', d, ds', p, q, rfl, rfl, rfl, h0, h1⟩ := trodAll_cons h
    have h2 := ht t List.mem_cons_self
    exact trodAll_cons_mk (Below.trod hl h2.1 h2.2 h0 hb fun x hx => hlt x (List.mem_append_left _ hx)) (ih vs' ds' q (fun u hu => ht u (List.mem_cons_of_mem _ hu)) h1 fun x hx => hlt x (List.mem_append_right _ hx))

/-- a law that answered true, and let all that was there be -/
theorem law_post {P : Program} (hl : laidOutB P = true) {f : Func} {s : ChangeSpec} {apart fresh handsOn : Bool} {W W' : World} {args : Array Value} {ds : List (DataW H)} {before : List MemPlace} {tb : TypeId}
    (hts : ∀ t ∈ f.params.toList, P.readableRec t = true ∧ t < P.types.size) (hvars : s.vars = []) (hr : f.resultTypes = #[tb]) (hu : P.underlying tb = some .bool)
    (hs : s.fn H ds = { results := [.lit (.bool true)], args := ds })
    (hW : DataW.Whole enc P f.params.toList s.vars apart W args.toList ds [] before) (hb : Below W.heap.size W W') :
    s.post enc P f apart fresh handsOn false W args (.bool true) W' := by
  have hlt : ∀ p ∈ before, p.block < W.heap.size := fun p hp => hW.lt p hp
  have hW2 := hW
  obtain ⟨p, q, hA, hV, rfl, _, _⟩ := hW2
  have hV2 := hV
  rw [hvars] at hV2
  obtain ⟨_, rfl⟩ := trodVars_none hV2
  have hs' : s.fn H (ds ++ []) = { results := [.lit (.bool true)], args := ds } := by rw [List.append_nil]; exact hs
  refine ⟨ds, [], p ++ [], [], p, [], hW, ?_, ?_, ?_, World.keptBut_mono (fun x hx => ⟨hx, .inr (.inl (by simpa using hx))⟩) (hb.frame (· ∈ p ++ [])), fun h => by cases h⟩
  · rw [hs', hr]
    exact trodAll_cons_mk (p := []) (p' := []) (shut_bool hu true) trodAll_mk0
  · rw [hs']
    exact trodAll_stays hl hb _ _ _ _ hts hA fun x hx => hlt x (by simpa using hx)
  · rw [hs', hvars]
    rfl

/-- a list of ints that came in -/
theorem open_list {P : Program} {W : World} {base : Nat} {t e : TypeId} {v : Value} {d : DataW H} {p : List MemPlace} (ht : P.underlying t = some (.slice e)) (he : P.underlying e = some (.int .i64)) (hc : P.cellsOf e = 1)
    (hv : Value.okWide P W .any base t v) (h : DataW.Trod enc P W 0 (fun _ => true) true t v d p) :
    ∃ A l c, v = .slice A l.length c ∧ Lies W W.heap.size A l ∧ (∀ x ∈ l, I64 x) ∧ l.length ≤ 9223372036854775807 := by
  obtain ⟨a0, len, cap, rfl⟩ := okWide_slice ht hv
  obtain ⟨fuel, hf⟩ := h
  rcases open_ints ht he hc hf with ⟨hcs, _⟩ | ⟨a, len', cap', zs, hcs, _, hle, hm, hz, _, hcell, hwz⟩
  · simp [Value.cells] at hcs
    obtain ⟨rfl, rfl, rfl⟩ := hcs
    exact ⟨none, [], 0, rfl, Lies.nil, (fun x hx => by cases hx), by simp⟩
  · simp [Value.cells] at hcs
    obtain ⟨rfl, rfl, rfl⟩ := hcs
    simp only [if_true] at hz
    unfold maxLen at hm
    have hlen : (zs.take len).length = len := by rw [List.length_take]; omega
    refine ⟨some a, zs.take len, cap, by rw [hlen], fun h0 => ⟨a, rfl, ?_, fun j hj => ?_⟩, fun x hx => i64_of_wf (hwz x (List.mem_of_mem_take hx)), by omega⟩
    · have h1 := hcell 0 (by omega)
      have h2 := World.block_lt_of_cell? W (a.add 0) h1
      rw [add_block] at h2
      exact h2
    · rw [hlen] at hj
      rw [hcell j (by omega), List.getD_eq_getElem?_getD, List.getD_eq_getElem?_getD, List.getElem?_take, if_pos hj]
end
end Go.Proofs.Ytaeodkpkgbjaeaa

/-! How the arguments of a law are opened: structs of two numbers by value. -/
namespace Go.Proofs.Ytaeodkpkgbjaeaa
open Go.RowKit Go.WideShapes Go.ChangeShapes Go.Joins Go.Deep
section
variable {H : Type} {enc : TypeId × Value → H}
theorem u64_of_wf {a : Int} (h : (Lit.int .u64 a).wf = true) : U64 a := by
  unfold U64
  simp [Lit.wf, IntKind.min, IntKind.max, IntKind.signed, IntKind.bits] at h
  omega
theorem open_two {P : Program} {W : World} {b0 : Nat} {t : TypeId} {f0 f1 : Field} {k : IntKind} {v : Value} {d : DataW H} {p : List MemPlace} (hs : P.underlying t = some (.struct #[f0, f1])) (h0 : P.underlying f0.type = some (.int k)) (h1 : P.underlying f1.type = some (.int k))
    (hone : oneCellFields P #[f0, f1] = true) (hC : P.cellsOf t = 2)
    (hv : Value.okWide P W .any b0 t v) (h : DataW.Trod enc P W 0 (fun _ => true) true t v d p) :
    ∃ a b, v = .agg #[.int k a, .int k b] ∧ (Lit.int k a).wf = true ∧ (Lit.int k b).wf = true := by
  obtain ⟨v0, v1, y0, y1, n, rfl, _, _, t0, t1⟩ := Joins.open_agg2 hs hone hC hv h
  obtain ⟨a, e0, _, w0⟩ := DataW.trod_int h0 t0
  obtain ⟨b, e1, _, w1⟩ := DataW.trod_int h1 t1
  simp at e0 e1
  exact ⟨a, b, by rw [e0, e1], w0, w1⟩
end
end Go.Proofs.Ytaeodkpkgbjaeaa

/-! A region that draws its order, walked with an invariant: each operation once, whatever was carried out before it. -/
namespace Go.Proofs.Ytaeodkpkgbjaeaa
open Go.RowKit

abbrev ptr (g i : Nat) : Value := .pointer (some ⟨g, i, none⟩)
theorem Box.off {w : World} {g : Nat} {cs : Array Value} {t : TypeId} (h : Box w g cs t) {p : Addr} (hp : p.block ≠ g) (u : Value) : Box (w.setCell p u) g cs t :=
  (Go.Deep.blk_setCell_other w p u g (Ne.symm hp)).trans h
theorem Box.set {w : World} {g : Nat} {cs : Array Value} {t : TypeId} (h : Box w g cs t) (i : Nat) (u : Value) : Box (w.setCell ⟨g, i, none⟩ u) g (cs.setIfInBounds i u) t := by
  unfold Box at h ⊢
  simp [World.setCell, Array.getElem?_modify, h]
theorem Box.set2 {w : World} {g : Nat} {a b : Value} {t : TypeId} (h : Box w g #[a, b] t) (u v : Value) : Box ((w.setCell ⟨g, 0, none⟩ u).setCell ⟨g, 1, none⟩ v) g #[u, v] t := (h.set 0 u).set 1 v
theorem Box.off2 {w : World} {g k : Nat} {cs : Array Value} {t : TypeId} (h : Box w g cs t) (hk : k ≠ g) (u v : Value) : Box ((w.setCell ⟨k, 0, none⟩ u).setCell ⟨k, 1, none⟩ v) g cs t := (h.off hk u).off hk v
theorem keep_off1 {w : World} {g1 g3 : Nat} {a b x y : Value} (h1 : g1 ≠ g3) (h : w.cell? ⟨g1, 0, none⟩ = some a ∧ w.cell? ⟨g1, 1, none⟩ = some b) :
    ((w.setCell ⟨g3, 0, none⟩ x).setCell ⟨g3, 1, none⟩ y).cell? ⟨g1, 0, none⟩ = some a ∧ ((w.setCell ⟨g3, 0, none⟩ x).setCell ⟨g3, 1, none⟩ y).cell? ⟨g1, 1, none⟩ = some b := by
  have k : ∀ i : Nat, ((w.setCell ⟨g3, 0, none⟩ x).setCell ⟨g3, 1, none⟩ y).cell? ⟨g1, i, none⟩ = w.cell? ⟨g1, i, none⟩ := by
    intro i
    rw [World.cell?_setCell_other _ ⟨g3, 1, none⟩ ⟨g1, i, none⟩ y (by simp <;> omega), World.cell?_setCell_other _ ⟨g3, 0, none⟩ ⟨g1, i, none⟩ x (by simp <;> omega)]
  rw [k, k]
  exact h
theorem lenS {vs : List Value} {n : Nat} (h : vs.length = n + 1) : ∃ y r, vs = y :: r ∧ r.length = n := by
  cases vs with
  | nil => simp at h
  | cons y r => exact ⟨y, r, rfl, by simpa using h⟩
theorem len10 {vs : List Value} (h : vs.length = 10) : ∃ y0 y1 y2 y3 y4 y5 y6 y7 y8 y9, vs = [y0, y1, y2, y3, y4, y5, y6, y7, y8, y9] := by
  obtain ⟨y0, r0, e0, h0⟩ := lenS h
  obtain ⟨y1, r1, e1, h1⟩ := lenS h0
  obtain ⟨y2, r2, e2, h2⟩ := lenS h1
  obtain ⟨y3, r3, e3, h3⟩ := lenS h2
  obtain ⟨y4, r4, e4, h4⟩ := lenS h3
  obtain ⟨y5, r5, e5, h5⟩ := lenS h4
  obtain ⟨y6, r6, e6, h6⟩ := lenS h5
  obtain ⟨y7, r7, e7, h7⟩ := lenS h6
  obtain ⟨y8, r8, e8, h8⟩ := lenS h7
  obtain ⟨y9, r9, e9, h9⟩ := lenS h8
  exact ⟨y0, y1, y2, y3, y4, y5, y6, y7, y8, y9, by rw [e0, e1, e2, e3, e4, e5, e6, e7, e8, e9, List.eq_nil_of_length_eq_zero h9]⟩
def putAll : List Oper → List Value → Act → Act
  | o :: os, v :: vs, a => putAll os vs (a.put o.dst v)
  | _, _, a => a
/-- no two operations write one slot -/
def dstApart : List Oper → Bool
  | [] => true
  | o :: os => (match o.dst with | none => true | some d => os.all fun p => p.dst != some d) && dstApart os
theorem put_comm (a : Act) (d e : Option Tmp) (u v : Value) (h : ∀ x, d = some x → e ≠ some x) : (a.put d u).put e v = (a.put e v).put d u := by
  cases d with
  | none => rfl
  | some d =>
    cases e with
    | none => rfl
    | some e =>
      have hne : d ≠ e := fun hc => h d rfl (by rw [hc])
      simp only [Act.put]
      rw [Array.setIfInBounds_comm _ _ hne]
theorem put_again (a : Act) (d : Option Tmp) (u v : Value) : (a.put d u).put d v = a.put d v := by
  cases d with
  | none => rfl
  | some d => simp [Act.put]
theorem putAll_put : ∀ (os : List Oper) (vs : List Value) (a : Act) (d : Option Tmp) (u : Value), (∀ x, d = some x → ∀ o ∈ os, o.dst ≠ some x) → (putAll os vs a).put d u = putAll os vs (a.put d u) := by
  intro os
  induction os with
  | nil => intro vs a d u _; rfl
  | cons o os ih =>
    intro vs a d u h
    cases vs with
    | nil => rfl
    | cons v vs =>
      show (putAll os vs (a.put o.dst v)).put d u = putAll os vs ((a.put d u).put o.dst v)
      rw [ih _ _ _ _ fun x hx p hp => h x hx p (List.mem_cons_of_mem _ hp), put_comm _ o.dst d v u]
      intro x hx hd
      exact h x hd o List.mem_cons_self hx
theorem putAll_set : ∀ (os : List Oper) (vs : List Value) (a : Act) (i : Nat) (o : Oper) (v : Value), dstApart os = true → os[i]? = some o → i < vs.length → (putAll os vs a).put o.dst v = putAll os (vs.set i v) a := by
  intro os
  induction os with
  | nil => intro vs a i o v _ h; simp at h
  | cons p os ih =>
    intro vs a i o v ha h hi
    cases vs with
    | nil => simp at hi
    | cons u vs =>
      simp only [dstApart, Bool.and_eq_true] at ha
      cases i with
      | zero =>
        obtain rfl : p = o := by simpa using h
        show (putAll os vs (a.put p.dst u)).put p.dst v = putAll os vs (a.put p.dst v)
        rw [putAll_put os vs _ _ _ ?_, put_again]
        intro x hx q hq
        have := ha.1
        rw [hx] at this
        simp only [List.all_eq_true, bne_iff_ne] at this
        exact this q hq
      | succ i =>
        show (putAll os vs (a.put p.dst u)).put o.dst v = putAll os (vs.set i v) (a.put p.dst u)
        exact ih vs _ i o v ha.2 (by simpa using h) (by simpa using hi)
theorem putAll_start : ∀ (os : List Oper) (a : Act), ∃ vs, vs.length = os.length ∧ putAll os vs a = a := by
  intro os
  induction os with
  | nil => intro a; exact ⟨[], rfl, rfl⟩
  | cons o os ih =>
    intro a
    obtain ⟨vs, hl, hv⟩ := ih a
    cases hd : o.dst with
    | none => exact ⟨undef :: vs, by simp [hl], by simp only [putAll, hd, Act.put]; exact hv⟩
    | some d =>
      refine ⟨a.tmps.getD d undef :: vs, by simp [hl], ?_⟩
      have : a.put (some d) (a.tmps.getD d undef) = a := by
        simp only [Act.put]
        have : a.tmps.setIfInBounds d (a.tmps.getD d undef) = a.tmps := by
          apply Array.ext_getElem?
          intro i
          rw [Array.getElem?_setIfInBounds]
          split
          · rename_i h; subst h
            split
            · rename_i h2; rw [Array.getElem?_eq_getElem h2]; rfl
            · rename_i h2; rw [Array.getElem?_eq_none (by omega)]
          · rfl
        rw [this]
      simp only [putAll, hd]
      rw [this]; exact hv

/-- what operation i hangs on -/
def hangsOn (ops : Array Oper) (i : Nat) : List Nat := match ops[i]? with | some o => (o.after.toList.filter fun e => Region.binds .any e).map (·.on) | none => []
def backward (ops : Array Oper) : Bool := (List.range ops.size).all fun i => (hangsOn ops i).all fun j => decide (j < i)

section
variable {P : Program} {ops : Array Oper} {Q : Exit → Act → World → Prop}
/-- the i-th operation, whatever was carried out before it: what is to be shown of it -/
def RegStep (P : Program) (ops : Array Oper) (Q : Exit → Act → World → Prop) (J : (Nat → Bool) → List Value → World → Prop) (a0 : Act) (i : Nat) (o : Oper) : Prop :=
  ∀ (f : Nat → Bool) (vs : List Value) (w : World), vs.length = ops.size → f i = false → (∀ j ∈ hangsOn ops i, f j = true) → J f vs w →
    ∀ K : Act → World → Prop, (∀ v w', J (fun k => if k = i then true else f k) (vs.set i v) w' → K (putAll ops.toList (vs.set i v) a0) w') →
      if Region.wanted o (yielded ops (putAll ops.toList vs a0).tmps) = true then Oper.wp P o (putAll ops.toList vs a0) w K Q else K (putAll ops.toList (vs.set i undef) a0) w

theorem wpAny_inv {a0 : Act} {J : (Nat → Bool) → List Value → World → Prop} (hap : dstApart ops.toList = true) (hbk : backward ops = true)
    (hst : ∀ i o, ops[i]? = some o → RegStep P ops Q J a0 i o)
    (hQ : ∀ vs w, vs.length = ops.size → J (fun _ => true) vs w → Q .normal (putAll ops.toList vs a0) w)
    (hJ : ∀ f g vs w, (∀ k, k < ops.size → f k = g k) → J f vs w → J g vs w) :
    ∀ (fuel : Nat) (L : Array Bool) (vs : List Value) (w : World), L.size = ops.size → L.toList.countP (fun b => b == false) ≤ fuel → vs.length = ops.size → J (fun k => L.getD k false) vs w →
      wpAny P .any ops Q fuel L (putAll ops.toList vs a0) w := by
  intro fuel
  -- nothing is ready only where all is done
  have hfull : ∀ L : Array Bool, L.size = ops.size → Region.ready .any ops L = [] → ∀ k, k < ops.size → L.getD k false = true := by
    intro L hL hr k
    induction k using Nat.strongRecOn with
    | _ k ih =>
      intro hk
      cases hb : L.getD k false with
      | true => rfl
      | false =>
        exfalso
        have hmem : k ∈ Region.ready .any ops L := by
          unfold Region.ready
          simp only [List.mem_filter, List.mem_range]
          refine ⟨hk, ?_⟩
          have h1 : L.getD k true = false := by
            rw [Array.getD_eq_getD_getElem?, Array.getElem?_eq_getElem (by omega)] at hb ⊢
            exact hb
          rw [h1, Array.getElem?_eq_getElem hk]
          simp only [Bool.not_false, Bool.true_and, Option.map_some, Option.getD_some]
          rw [Array.all_eq_true']
          intro e he
          cases hbi : Region.binds .any e with
          | false => rfl
          | true =>
            have hin : e.on ∈ hangsOn ops k := by
              unfold hangsOn
              rw [Array.getElem?_eq_getElem hk]
              exact List.mem_map.2 ⟨e, List.mem_filter.2 ⟨by simpa using he, hbi⟩, rfl⟩
            have hlt : e.on < k := by
              unfold backward at hbk
              rw [List.all_eq_true] at hbk
              have := hbk k (List.mem_range.2 hk)
              rw [List.all_eq_true] at this
              exact of_decide_eq_true (this _ hin)
            simp [ih e.on hlt (by omega)]
        rw [hr] at hmem
        cases hmem
  have hend : ∀ (L : Array Bool) (vs : List Value) (w : World), L.size = ops.size → vs.length = ops.size → J (fun k => L.getD k false) vs w → Region.ready .any ops L = [] → Q .normal (putAll ops.toList vs a0) w := by
    intro L vs w hL hv hj hr
    exact hQ vs w hv (hJ _ _ vs w (fun k hk => hfull L hL hr k hk) hj)
  induction fuel with
  | zero =>
    intro L vs w hL hc hv hj
    have hr : Region.ready .any ops L = [] := by
      rw [List.eq_nil_iff_forall_not_mem]
      intro i hi
      unfold Region.ready at hi
      simp only [List.mem_filter, List.mem_range, Bool.and_eq_true, Bool.not_eq_true'] at hi
      have h0 : L.toList.countP (fun b => b == false) = 0 := by omega
      rw [List.countP_eq_zero] at h0
      have h1 : L.getD i true = false := hi.2.1
      rw [Array.getD_eq_getD_getElem?, Array.getElem?_eq_getElem (by omega)] at h1
      have := h0 L[i] (by simp)
      simp at h1
      simp [h1] at this
    exact ⟨hr, hend L vs w hL hv hj hr⟩
  | succ fuel ih =>
    intro L vs w hL hc hv hj
    refine ⟨hend L vs w hL hv hj, fun i hi => ?_⟩
    unfold Region.ready at hi
    simp only [List.mem_filter, List.mem_range, Bool.and_eq_true, Bool.not_eq_true'] at hi
    obtain ⟨hlt, hnot, hpre⟩ := hi
    have ho : ops[i]? = some ops[i] := Array.getElem?_eq_getElem hlt
    rw [ho] at hpre
    simp only [Option.map_some, Option.getD_some] at hpre
    rw [Array.all_eq_true'] at hpre
    have hf : L.getD i false = false := by
      rw [Array.getD_eq_getD_getElem?, Array.getElem?_eq_getElem (by omega)] at hnot ⊢
      exact hnot
    have h := hst i ops[i] ho (fun k => L.getD k false) vs w hv hf (by
      intro j hj'
      unfold hangsOn at hj'
      rw [ho] at hj'
      obtain ⟨e, he, rfl⟩ := List.mem_map.1 hj'
      obtain ⟨he1, he2⟩ := List.mem_filter.1 he
      have := hpre e (by simpa using he1)
      rw [he2] at this
      simpa using this) hj
    have hL2 : (L.setIfInBounds i true).size = ops.size := by simp [hL]
    have hc2 : (L.setIfInBounds i true).toList.countP (fun b => b == false) ≤ fuel := by
      rw [Array.toList_setIfInBounds]
      have h1 : L.toList[i]? = some false := by
        rw [Array.getD_eq_getD_getElem?, Array.getElem?_eq_getElem (by omega)] at hf
        rw [Array.getElem?_toList, Array.getElem?_eq_getElem (by omega)]
        simpa using hf
      have : (L.toList.set i true).countP (fun b => b == false) + 1 = L.toList.countP (fun b => b == false) := by
        have hil : i < L.toList.length := by simp; omega
        rw [List.countP_set hil]
        have hli : L.toList[i] = false := by rw [List.getElem?_eq_getElem hil] at h1; simpa using h1
        have hpos : 0 < L.toList.countP (fun b => b == false) := List.countP_pos_iff.2 ⟨false, by rw [← hli]; exact List.getElem_mem hil, by simp⟩
        rw [hli]
        show L.toList.countP (fun b => b == false) - 1 + 0 + 1 = _
        omega
      omega
    have key : ∀ (v : Value) (w' : World), J (fun k => if k = i then true else L.getD k false) (vs.set i v) w' → wpAny P .any ops Q fuel (L.setIfInBounds i true) (putAll ops.toList (vs.set i v) a0) w' := by
      intro v w' hj'
      refine ih _ _ w' hL2 hc2 (by simp [hv]) (hJ _ _ _ _ (fun k hk => ?_) hj')
      simp only [Array.getD_eq_getD_getElem?]
      rw [Array.getElem?_setIfInBounds]
      by_cases hki : i = k
      · subst hki; simp [hL, hlt]
      · rw [if_neg hki, if_neg (Ne.symm hki)]
    refine wpOp_step ho fun K' hK' => ?_
    have h2 := h K' (fun v w' hj' => hK' _ _ (key v w' hj'))
    rw [putAll_set ops.toList vs a0 i ops[i] undef hap (by rw [Array.getElem?_toList]; exact ho) (by omega)]
    exact h2

theorem wp_region_inv {id : Nat} {a0 : Act} {w : World} (J : (Nat → Bool) → List Value → World → Prop) (hm : P.follows .mixedOrders = true)
    (hap : dstApart ops.toList = true) (hbk : backward ops = true)
    (hJ : ∀ f g vs w, (∀ k, k < ops.size → f k = g k) → J f vs w → J g vs w)
    (h0 : ∀ vs, vs.length = ops.size → J (fun _ => false) vs w.drew)
    (hst : ∀ i o, ops[i]? = some o → RegStep P ops Q J a0 i o)
    (hQ : ∀ vs w, vs.length = ops.size → J (fun _ => true) vs w → Q .normal (putAll ops.toList vs a0) w) :
    (Code.region id ops true).wp P Q a0 w := by
  refine wp_region_any hm ?_
  obtain ⟨vs, hv, he⟩ := putAll_start ops.toList a0
  have := wpAny_inv (P := P) hap hbk hst hQ hJ ops.size (Array.replicate ops.size false) vs w.drew (by simp) (by
    refine Nat.le_trans List.countP_le_length ?_
    simp) (by simpa using hv) (hJ _ _ _ _ (fun k hk => by rw [Array.getD_eq_getD_getElem?]; simp [hk]) (h0 vs (by simpa using hv)))
  rw [he] at this
  exact this

/-- the same, operation by operation: what each hangs on is written out -/
def StepAt (P : Program) (ops : Array Oper) (Q : Exit → Act → World → Prop) (J : (Nat → Bool) → List Value → World → Prop) (a0 : Act) (i : Nat) (o : Oper) (p : List Nat) : Prop :=
  ∀ (f : Nat → Bool) (vs : List Value) (w : World), vs.length = ops.size → f i = false → (∀ j ∈ p, f j = true) → J f vs w →
    ∀ K : Act → World → Prop, (∀ v w', J (fun k => if k = i then true else f k) (vs.set i v) w' → K (putAll ops.toList (vs.set i v) a0) w') →
      if Region.wanted o (yielded ops (putAll ops.toList vs a0).tmps) = true then Oper.wp P o (putAll ops.toList vs a0) w K Q else K (putAll ops.toList (vs.set i undef) a0) w
def Steps (P : Program) (ops : Array Oper) (Q : Exit → Act → World → Prop) (J : (Nat → Bool) → List Value → World → Prop) (a0 : Act) : Nat → List Oper → List (List Nat) → Prop
  | i, o :: os, p :: ps => StepAt P ops Q J a0 i o p ∧ Steps P ops Q J a0 (i + 1) os ps
  | _, [], [] => True
  | _, _, _ => False
theorem steps_at {J : (Nat → Bool) → List Value → World → Prop} {a0 : Act} : ∀ (os : List Oper) (ps : List (List Nat)) (n : Nat), Steps P ops Q J a0 n os ps → ∀ (k : Nat) (o : Oper), os[k]? = some o → ∃ p, ps[k]? = some p ∧ StepAt P ops Q J a0 (n + k) o p := by
  intro os
  induction os with
  | nil => intro ps n _ k o h; simp at h
  | cons x os ih =>
    intro ps n h k o hk
    cases ps with
    | nil => exact h.elim
    | cons p ps =>
      cases k with
      | zero =>
        obtain rfl : x = o := by simpa using hk
        exact ⟨p, rfl, h.1⟩
      | succ k =>
        obtain ⟨q, hq, hs⟩ := ih ps (n + 1) h.2 k o (by simpa using hk)
        exact ⟨q, by simpa using hq, by rw [show n + (k + 1) = n + 1 + k by omega]; exact hs⟩
theorem wp_region_steps {id : Nat} {a0 : Act} {w : World} (J : (Nat → Bool) → List Value → World → Prop) (pre : List (List Nat)) (hm : P.follows .mixedOrders = true)
    (hap : dstApart ops.toList = true) (hbk : backward ops = true) (hpre : (List.range ops.size).map (hangsOn ops) = pre)
    (hJ : ∀ f g vs w, (∀ k, k < ops.size → f k = g k) → J f vs w → J g vs w)
    (h0 : ∀ vs, vs.length = ops.size → J (fun _ => false) vs w.drew)
    (hst : Steps P ops Q J a0 0 ops.toList pre)
    (hQ : ∀ vs w, vs.length = ops.size → J (fun _ => true) vs w → Q .normal (putAll ops.toList vs a0) w) :
    (Code.region id ops true).wp P Q a0 w := by
  refine wp_region_inv J hm hap hbk hJ h0 (fun i o ho => ?_) hQ
  obtain ⟨p, hp, hs⟩ := steps_at ops.toList pre 0 hst i o (by rw [Array.getElem?_toList]; exact ho)
  rw [Nat.zero_add] at hs
  intro f vs w hl hf hj
  refine hs f vs w hl hf (fun j hjp => hj j ?_)
  have hi : i < ops.size := by
    rcases Nat.lt_or_ge i ops.size with h | h
    · exact h
    · rw [Array.getElem?_eq_none h] at ho; cases ho
  rw [← hpre, List.getElem?_map, List.getElem?_range hi] at hp
  obtain rfl : hangsOn ops i = p := by simpa using hp
  exact hjp
end
end Go.Proofs.Ytaeodkpkgbjaeaa
