/- Contracts of num.Div, Gcd and Log: what each returns for any numbers, in any world. -/
import Derived.Test.YtbnpbflndnjmcaaDoorNumW
namespace Go.Proofs.YtbnpbflndnjmcaaDoor
open Go.RowKit

theorem num_div (a b : Int) (ha : I64 a) (hb : I64 b) (w : World) :
    Calls Tryd.prog 35 #[.int .i64 a, .int .i64 b] w fun e w' => e = .returned (divV a b) ∧ ∃ n, w' = w.drewN n := by
  by_cases hz : b = 0
  · subst hz
    go_enter Tryd.func35, Tryd.ntmps35
    go_wp2
    go_ret3
    exact ⟨divV_z, 0, rfl⟩
  by_cases ho : a = -9223372036854775808 ∧ b = -1
  · obtain ⟨rfl, rfl⟩ := ho
    go_enter Tryd.func35, Tryd.ntmps35
    go_wp2
    go_ret3
    exact ⟨divV_o, 0, rfl⟩
  have hzb : (b == 0) = false := by simpa using hz
  have hd := tdiv_bd' hz ha ho
  have hm := tmod_bd (a := a) hz hb
  obtain ⟨hb1, hb2⟩ := id hb
  by_cases hl : a = -9223372036854775808
  · have hl1 : (a == -9223372036854775808) = true := by simpa using hl
    have hl2 : (b == -1) = false := by simpa using fun h => ho ⟨hl, h⟩
    have HO := Lib.hid ho
    clear ho hl
    by_cases hr : 0 ≤ a.tmod b
    · have he := Lib.hid (euclid_0 hz hr)
      go_enter Tryd.func35, Tryd.ntmps35
      go_wp2
      go_quiet (fail)
      go_wp2
      go_ret3
      exact ⟨divV_ok hz HO.out he.out.1 he.out.2, _, rfl⟩
    · have hs := tdiv_step hz ha (by omega)
      by_cases hb0 : 0 < b
      · have he := Lib.hid (euclid_p hb0 (by omega : a.tmod b < 0))
        have hm2 : a.tmod b + b ≤ 9223372036854775807 := by omega
        go_enter Tryd.func35, Tryd.ntmps35
        go_wp2
        go_quiet (fail)
        go_wp2
        go_ret3
        exact ⟨divV_ok hz HO.out he.out.1 he.out.2, _, rfl⟩
      · have he := Lib.hid (euclid_n (by omega) (by omega : a.tmod b < 0))
        have hm2 : a.tmod b - b ≤ 9223372036854775807 := by omega
        go_enter Tryd.func35, Tryd.ntmps35
        go_wp2
        go_quiet (fail)
        go_wp2
        go_ret3
        exact ⟨divV_ok hz HO.out he.out.1 he.out.2, _, rfl⟩
  · have hl1 : (a == -9223372036854775808) = false := by simpa using hl
    have HO := Lib.hid ho
    clear ho hl
    by_cases hr : 0 ≤ a.tmod b
    · have he := Lib.hid (euclid_0 hz hr)
      go_enter Tryd.func35, Tryd.ntmps35
      go_wp2
      go_quiet (fail)
      go_wp2
      go_ret3
      exact ⟨divV_ok hz HO.out he.out.1 he.out.2, _, rfl⟩
    · have hs := tdiv_step hz ha (by omega)
      by_cases hb0 : 0 < b
      · have he := Lib.hid (euclid_p hb0 (by omega : a.tmod b < 0))
        have hm2 : a.tmod b + b ≤ 9223372036854775807 := by omega
        go_enter Tryd.func35, Tryd.ntmps35
        go_wp2
        go_quiet (fail)
        go_wp2
        go_ret3
        exact ⟨divV_ok hz HO.out he.out.1 he.out.2, _, rfl⟩
      · have he := Lib.hid (euclid_n (by omega) (by omega : a.tmod b < 0))
        have hm2 : a.tmod b - b ≤ 9223372036854775807 := by omega
        go_enter Tryd.func35, Tryd.ntmps35
        go_wp2
        go_quiet (fail)
        go_wp2
        go_ret3
        exact ⟨divV_ok hz HO.out he.out.1 he.out.2, _, rfl⟩

/-- k is the least number from 0 on such that 2^k is not below n (or 63) -/
def IsLog (n : Int) (k : Nat) : Prop := k ≤ 63 ∧ (∀ j, j < k → (2 : Int) ^ j < n) ∧ (k < 63 → n ≤ 2 ^ k)
def LogPost (n : Int) (w : World) (e : Ending) (w' : World) : Prop := ∃ k : Nat, IsLog n k ∧ e = .returned (.int .i64 k) ∧ w = w'
theorem pow_wrap {k : Nat} (h : k < 63) : wrap64 (2 ^ k) = 2 ^ k ∧ (2 : Int) ^ k ≤ 4611686018427387904 ∧ 0 < (2 : Int) ^ k := by
  have h1 : (2 : Nat) ^ k ≤ 2 ^ 62 := Nat.pow_le_pow_right (by omega) (by omega)
  have h2 : (0 : Nat) < 2 ^ k := Nat.pow_pos (by omega)
  have h3 : ((2 ^ k : Nat) : Int) = (2 : Int) ^ k := by simp
  have h4 : (2 : Nat) ^ 62 = 4611686018427387904 := by decide
  rw [h4] at h1
  refine ⟨?_, by omega, by omega⟩
  rw [← h3]; unfold wrap64; omega
def gcdN (a b : Int) : Int := if Int.gcd a b ≤ 9223372036854775807 then Int.gcd a b else 0
def gcdE (a b : Int) : Int := if Int.gcd a b ≤ 9223372036854775807 then 0 else 10
abbrev gcdV (a b : Int) : Value := .tuple #[.int .i64 (gcdN a b), .int .i64 (gcdE a b)]
theorem gcdV_in {a b : Int} {X : Nat} (e : X = Int.gcd a b) (h : X ≤ 9223372036854775807) : Ending.returned (.tuple #[.int .i64 X, .int .i64 0]) = .returned (gcdV a b) := by
  unfold gcdV gcdN gcdE; rw [← e, if_pos h, if_pos h]
theorem gcdV_out {a b : Int} {X : Nat} (e : X = Int.gcd a b) (h : ¬ X ≤ 9223372036854775807) : Ending.returned (.tuple #[.int .i64 0, .int .i64 10]) = .returned (gcdV a b) := by
  unfold gcdV gcdN gcdE; rw [← e, if_neg h, if_neg h]
theorem num_gcd (a b : Int) (ha : I64 a) (hb : I64 b) (w : World) :
    Calls Tryd.prog 54 #[.int .i64 a, .int .i64 b] w fun e w' => e = .returned (gcdV a b) ∧ ∃ n, w' = w.drewN n := by
  go_enter Tryd.func54, Tryd.ntmps54
  go_wp2_with (go_at_call 71; refine (word_size _ (by assumption) _).mono ?_; rintro e w' ⟨rfl, rfl⟩)
  go_loopw [6, 7] (fun x y wr => ∃ X Y : Nat, x = .int .u64 X ∧ y = .int .u64 Y ∧ Hid (Nat.gcd X Y = Int.gcd a b) ∧ X ≤ 9223372036854775808 ∧ Y ≤ 9223372036854775808 ∧ ∃ n, wr = w.drewN n) (fun _ y _ => (intOf y).toNat)
  case atStart => 
    unfold I64 at ha hb
    exact ⟨a.natAbs, b.natAbs, rfl, rfl, rfl, by omega, by omega, 0, rfl⟩
  case round =>
    obtain ⟨X, Y, rfl, rfl, HG, hX, hY, m, rfl⟩ := hrel
    by_cases hY0 : Y = 0
    · subst hY0
      have HE : Hid (X = Int.gcd a b) := by have := HG.out; rw [Nat.gcd_zero_right] at this; exact this
      by_cases hX : X ≤ 9223372036854775807
      · go_wp2
        go_ret2
        exact ⟨gcdV_in HE.out hX, m, rfl⟩
      · go_wp2
        go_ret2
        exact ⟨gcdV_out HE.out hX, m, rfl⟩
    · have hz : (((Y : Int) != 0)) = true := by simpa using hY0
      have hz' : (((Y : Int) == 0)) = false := by simpa using hY0
      have hlt := Nat.mod_lt X (y := Y) (by omega)
      have HG' : Hid (Nat.gcd Y (X % Y) = Int.gcd a b) := by have := HG.out; rw [Nat.gcd_comm, Nat.gcd_rec, Nat.gcd_comm] at this; exact this
      go_wp2
      go_quiet (fail)
      go_wp2
      refine ⟨⟨Y, X % Y, rfl, rfl, HG', hY, by omega, m + nq, World.drewN_drewN _ _ _⟩, ?_⟩
      simp only [intOf]
      omega
end Go.Proofs.YtbnpbflndnjmcaaDoor
