/- Contracts of copseref01: Div, Ceil, Gcd. -/
import Derived.Test.YtbnpbflndnjmcaaDoorBigs
namespace Go.Proofs.YtbnpbflndnjmcaaDoor
open Go.RowKit

theorem sub_0 (a : Int) (ha : I64 a) (w : World) :
    Calls Tryd.prog 55 #[.int .i64 0, .int .i64 a] w fun e w' => e = .returned (fitV (-a)) ∧ Below w.heap.size w w' := by
  have h := ref_sub 0 a (by unfold I64; omega) ha w
  rw [Int.zero_sub] at h
  exact h
theorem divV_m1 {a : Int} (ha : I64 a) : Ending.returned (.tuple #[.int .i64 (fitN (-a)), .int .i64 0, .int .i64 (fitE (-a))]) = .returned (divV a (-1)) := by
  unfold I64 at ha
  by_cases h : a = -9223372036854775808
  · subst h
    refine Eq.trans ?_ divV_o
    refine ret3i ?_ rfl ?_
    · unfold fitN; rw [if_neg (by omega)]
    · unfold fitE; rw [if_neg (by omega)]
  · refine Eq.trans (ret3i ?_ rfl ?_) (divV_ok (q := -a) (r := 0) (by omega) (by omega) ?_ ?_)
    · unfold fitN; rw [if_pos (by omega)]
    · unfold fitE; rw [if_pos (by omega)]
    · have := ((Int.ediv_emod_unique' (a := a) (b := -1) (r := 0) (q := -a) (by omega)).2 ⟨by omega, by omega, by omega⟩).1
      omega
    · have := ((Int.ediv_emod_unique' (a := a) (b := -1) (r := 0) (q := -a) (by omega)).2 ⟨by omega, by omega, by omega⟩).2
      omega

theorem ref_div (a b : Int) (ha : I64 a) (hb : I64 b) (w : World) :
    Calls Tryd.prog 48 #[.int .i64 a, .int .i64 b] w fun e w' => e = .returned (divV a b) ∧ Below w.heap.size w w' := by
  by_cases hz : b = 0
  · subst hz
    go_enter Tryd.func48, Tryd.ntmps48
    go_wp2
    go_ret3
    exact ⟨divV_z, Below.refl _ _⟩
  by_cases hm : b = -1
  · subst hm
    have HM := Lib.hid (divV_m1 ha)
    go_enter Tryd.func48, Tryd.ntmps48
    go_wp2_with fail
    refine (sub_0 a ha _).mono ?_
    rintro e w1 ⟨rfl, b1⟩
    go_wp2
    go_ret3
    exact ⟨HM.out, b1⟩
  have ho : ¬ (a = -9223372036854775808 ∧ b = -1) := fun h => hm h.2
  have hzb : (b == 0) = false := by simpa using hz
  have hmb : (b == -1) = false := by simpa using hm
  have hd := tdiv_bd' hz ha ho
  have hmo := tmod_bd (a := a) hz hb
  obtain ⟨hb1, hb2⟩ := id hb
  have HO := Lib.hid ho
  clear ho hm
  by_cases hr : 0 ≤ a.tmod b
  · have he := Lib.hid (euclid_0 hz hr)
    have hr2 : decide (a.tmod b < 0) = false := by simpa using hr
    go_enter Tryd.func48, Tryd.ntmps48
    go_wp2_with fail
    go_quiet (fail)
    go_wp2
    go_ret3
    exact ⟨divV_ok hz HO.out he.out.1 he.out.2, (below_drewN (Below.refl _ _) _)⟩
  · have hs := tdiv_step hz ha (by omega)
    have hr1 : a.tmod b < 0 := by omega
    by_cases hb0 : 0 < b
    · have he := Lib.hid (euclid_p hb0 hr1)
      have hm2 : a.tmod b + b ≤ 9223372036854775807 := by omega
      go_enter Tryd.func48, Tryd.ntmps48
      go_wp2_with fail
      go_quiet (fail)
      go_wp2
      go_ret3
      exact ⟨divV_ok hz HO.out he.out.1 he.out.2, (below_drewN (Below.refl _ _) _)⟩
    · have he := Lib.hid (euclid_n (by omega) hr1)
      have hm2 : a.tmod b - b ≤ 9223372036854775807 := by omega
      go_enter Tryd.func48, Tryd.ntmps48
      go_wp2_with fail
      go_quiet (fail)
      go_wp2
      go_ret3
      exact ⟨divV_ok hz HO.out he.out.1 he.out.2, (below_drewN (Below.refl _ _) _)⟩

theorem ref_ceil (a b : Int) (ha : I64 a) (hb : I64 b) (w : World) :
    Calls Tryd.prog 46 #[.int .i64 a, .int .i64 b] w fun e w' => e = .returned (ceilV a b) ∧ Below w.heap.size w w' := by
  by_cases h : b < 1
  · go_enter Tryd.func46, Tryd.ntmps46
    go_wp2
    go_ret2
    exact ⟨ceilV_0 h, Below.refl _ _⟩
  · have hb0 : 0 < b := by omega
    have hc := neg_ediv_of (a := a) hb0
    have e1 : Hid (divQ a b = a / b) := by show _ = _; unfold divQ; rw [if_neg (by omega)]
    have e2 : Hid (divR a b = a % b) := by show _ = _; unfold divR; rw [if_neg (by omega)]
    have e3 : Hid (divE a b = 0) := by show _ = _; unfold divE; rw [if_neg (by omega), if_neg (by omega)]
    have HD := Lib.hid (fun W => (ref_div a b ha hb W).mono (R' := fun e w' => e = .returned (.tuple #[.int .i64 (a / b), .int .i64 (a % b), .int .i64 0]) ∧ Below W.heap.size W w') fun e w' ⟨he, hw⟩ => ⟨by rw [he]; exact ret3i e1.out e2.out e3.out, hw⟩)
    have l := Int.emod_lt_of_pos a hb0
    have g := Int.emod_nonneg a (Int.ne_of_gt hb0)
    have e := Int.emod_add_mul_ediv a b
    have hq1 : a / b ≤ 9223372036854775807 ∧ -9223372036854775808 ≤ a / b ∧ (0 < a % b → a / b ≤ 9223372036854775806) := by
      unfold I64 at ha
      by_cases h1 : b = 1
      · subst h1
        have : a % 1 = 0 := Int.emod_one a
        have : a / 1 = a := Int.ediv_one a
        omega
      · by_cases h0 : 0 ≤ a / b
        · have : 2 * (a / b) ≤ b * (a / b) := Int.mul_le_mul_of_nonneg_right (by omega) h0
          omega
        · have : -9223372036854775808 ≤ a / b := (Int.le_ediv_iff_mul_le hb0).2 (by omega)
          omega
    obtain ⟨hq1, hq2, hq3⟩ := hq1
    clear e
    generalize a / b = q at *
    generalize a % b = r at *
    by_cases hr : 0 < r
    · have HC : Hid (q + 1 = -(-a / b)) := by show _ = _; rw [hc, if_neg (by omega)]
      have hq4 := hq3 hr
      clear hc hq3
      go_enter Tryd.func46, Tryd.ntmps46
      go_wp2_with fail
      refine (HD.out _).mono ?_
      rintro e w1 ⟨rfl, b1⟩
      go_wp2
      go_ret2
      exact ⟨ceilV_1 (by omega) HC.out, b1⟩
    · have HC : Hid (q = -(-a / b)) := by show _ = _; rw [hc, if_pos (by omega)]; omega
      clear hc hq3
      go_enter Tryd.func46, Tryd.ntmps46
      go_wp2_with fail
      refine (HD.out _).mono ?_
      rintro e w1 ⟨rfl, b1⟩
      go_wp2
      go_ret2
      exact ⟨ceilV_1 (by omega) HC.out, b1⟩

theorem gcd_tmod (x y : Int) : Int.gcd y (x.tmod y) = Int.gcd x y := by
  rw [Int.gcd, Int.gcd, Int.natAbs_tmod, Nat.gcd_comm, ← Nat.gcd_rec, Nat.gcd_comm]
theorem ref_gcd (a b : Int) (ha : I64 a) (hb : I64 b) (w : World) :
    Calls Tryd.prog 37 #[.int .i64 a, .int .i64 b] w fun e w' => e = .returned (gcdV a b) ∧ Below w.heap.size w w' := by
  go_enter Tryd.func37, Tryd.ntmps37
  go_wp2
  go_loopw [6, 7] (fun xv yv wr => ∃ x y : Int, xv = .int .i64 x ∧ yv = .int .i64 y ∧ I64 x ∧ I64 y ∧ Hid (Int.gcd x y = Int.gcd a b) ∧ Below w.heap.size w wr) (fun _ yv _ => (intOf yv).natAbs)
  case atStart => exact ⟨a, b, rfl, rfl, ha, hb, rfl, Below.refl _ _⟩
  case round =>
    obtain ⟨x, y, rfl, rfl, hx, hy, HG, hbw⟩ := hrel
    by_cases hy0 : y = 0
    · subst hy0
      have HE : Hid (x.natAbs = Int.gcd a b) := by have := HG.out; rw [Int.gcd_zero_right] at this; exact this
      have hbx := id hx
      unfold I64 at hbx
      by_cases hn : x < 0
      · have HV : Hid (fitV (-x) = gcdV a b) := by
          by_cases h1 : x = -9223372036854775808
          · have h2 := (fitV_out (n := -x) (by unfold I64; omega)).symm.trans (gcdV_out HE.out (by omega))
            injection h2
          · have h2 := (fitV_in (n := -x) (m := x.natAbs) (by unfold I64; omega) (by omega)).symm.trans (gcdV_in HE.out (by omega))
            injection h2
        go_wp2_with fail
        refine (sub_0 x hx _).mono ?_
        rintro e w1 ⟨rfl, b1⟩
        go_wp2
        go_ret2
        exact ⟨congrArg Ending.returned HV.out, hbw.trans (b1.mono hbw.size)⟩
      · have hnn : (x.natAbs : Int) = x := by omega
        have HV : Hid (Ending.returned (.tuple #[.int .i64 x, .int .i64 0]) = .returned (gcdV a b)) := by
          have := gcdV_in HE.out (by omega)
          rw [hnn] at this; exact this
        clear hnn
        go_wp2
        go_ret2
        exact ⟨HV.out, hbw⟩
    · have hz : (y != 0) = true := by simpa using hy0
      have hz2 : (y == 0) = false := by simpa using hy0
      by_cases hm : y = -1
      · subst hm
        have HV : Hid (Ending.returned (.tuple #[.int .i64 1, .int .i64 0]) = .returned (gcdV a b)) := by
          refine gcdV_in (X := 1) ?_ (by omega)
          rw [← HG.out]
          show 1 = Nat.gcd x.natAbs 1
          rw [Nat.gcd_one_right]
        go_wp2
        go_ret2
        exact ⟨HV.out, hbw⟩
      · have hmb : (y == -1) = false := by simpa using hm
        have HG' : Hid (Int.gcd y (x.tmod y) = Int.gcd a b) := by show _ = _; rw [gcd_tmod]; exact HG.out
        have hmo := tmod_bd (a := x) hy0 hy
        have hlt := natAbs_tmod_lt x hy0
        have hI : I64 (x.tmod y) := by unfold I64; omega
        clear hm
        go_wp2_with fail
        go_quiet (fail)
        go_wp2
        exact ⟨⟨y, _, rfl, rfl, hy, hI, HG', below_drewN hbw _⟩, by simpa only [intOf] using hlt⟩
end Go.Proofs.YtbnpbflndnjmcaaDoor
