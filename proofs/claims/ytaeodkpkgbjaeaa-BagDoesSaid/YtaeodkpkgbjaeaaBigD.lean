/- Contracts of copseref01: Div, Ceil, Gcd. -/
import Derived.Test.YtaeodkpkgbjaeaaBigs
namespace Go.Proofs.Ytaeodkpkgbjaeaa
open Go.RowKit

theorem sub_0 (a : Int) (ha : I64 a) (w : World) :
    Calls Try.prog 151 #[.int .i64 0, .int .i64 a] w fun e w' => e = .returned (fitV (-a)) ∧ Below w.heap.size w w' := by
  have h := ref_subB 0 a (by unfold I64; omega) ha w
  rw [Int.zero_sub] at h
  exact h
theorem divV_m1 {a : Int} (ha : I64 a) : Ending.returned (.tuple #[.int .i64 (fitN (-a)), .int .i64 0, .int .i64 (fitE (-a))]) = .returned (divV a (-1)) := by
  unfold I64 at ha
  by_cases h : a = -9223372036854775808
  · subst h
    refine Eq.trans ?_ divV_o
    refine ret3i ?_ rfl ?_
    · unfold fitN; rw [if_neg (by omega)]
    · unfold fitE; rw [if_neg (by omega)]
  · refine Eq.trans (ret3i ?_ rfl ?_) (divV_ok (q := -a) (r := 0) (by omega) (by omega) ?_ ?_)
    · unfold fitN; rw [if_pos (by omega)]
    · unfold fitE; rw [if_pos (by omega)]
    · have := ((Int.ediv_emod_unique' (a := a) (b := -1) (r := 0) (q := -a) (by omega)).2 ⟨by omega, by omega, by omega⟩).1
      omega
    · have := ((Int.ediv_emod_unique' (a := a) (b := -1) (r := 0) (q := -a) (by omega)).2 ⟨by omega, by omega, by omega⟩).2
      omega

theorem gcd_tmod (x y : Int) : Int.gcd y (x.tmod y) = Int.gcd x y := by
  rw [Int.gcd, Int.gcd, Int.natAbs_tmod, Nat.gcd_comm, ← Nat.gcd_rec, Nat.gcd_comm]
theorem ref_gcd (a b : Int) (ha : I64 a) (hb : I64 b) (w : World) :
    Calls Try.prog 90 #[.int .i64 a, .int .i64 b] w fun e w' => e = .returned (gcdV a b) ∧ Below w.heap.size w w' := by
  go_enter Try.func90, Try.ntmps90
  go_wp2
  go_loopw [6, 7] (fun xv yv wr => ∃ x y : Int, xv = .int .i64 x ∧ yv = .int .i64 y ∧ I64 x ∧ I64 y ∧ Hid (Int.gcd x y = Int.gcd a b) ∧ Below w.heap.size w wr) (fun _ yv _ => (intOf yv).natAbs)
  case atStart => exact ⟨a, b, rfl, rfl, ha, hb, rfl, Below.refl _ _⟩
  case round =>
    obtain ⟨x, y, rfl, rfl, hx, hy, HG, hbw⟩ := hrel
    by_cases hy0 : y = 0
    · subst hy0
      have HE : Hid (x.natAbs = Int.gcd a b) := by have := HG.out; rw [Int.gcd_zero_right] at this; exact this
      have hbx := id hx
      unfold I64 at hbx
      by_cases hn : x < 0
      · have HV : Hid (fitV (-x) = gcdV a b) := by
          by_cases h1 : x = -9223372036854775808
          · have h2 := (fitV_out (n := -x) (by unfold I64; omega)).symm.trans (gcdV_out HE.out (by omega))
            injection h2
          · have h2 := (fitV_in (n := -x) (m := x.natAbs) (by unfold I64; omega) (by omega)).symm.trans (gcdV_in HE.out (by omega))
            injection h2
        go_wp2_with fail
        refine (sub_0 x hx _).mono ?_
        rintro e w1 ⟨rfl, b1⟩
        go_wp2
        go_ret2
        exact ⟨congrArg Ending.returned HV.out, hbw.trans (b1.mono hbw.size)⟩
      · have hnn : (x.natAbs : Int) = x := by omega
        have HV : Hid (Ending.returned (.tuple #[.int .i64 x, .int .i64 0]) = .returned (gcdV a b)) := by
          have := gcdV_in HE.out (by omega)
          rw [hnn] at this; exact this
        clear hnn
        go_wp2
        go_ret2
        exact ⟨HV.out, hbw⟩
    · have hz : (y != 0) = true := by simpa using hy0
      have hz2 : (y == 0) = false := by simpa using hy0
      by_cases hm : y = -1
      · subst hm
        have HV : Hid (Ending.returned (.tuple #[.int .i64 1, .int .i64 0]) = .returned (gcdV a b)) := by
          refine gcdV_in (X := 1) ?_ (by omega)
          rw [← HG.out]
          show 1 = Nat.gcd x.natAbs 1
          rw [Nat.gcd_one_right]
        go_wp2
        go_ret2
        exact ⟨HV.out, hbw⟩
      · have hmb : (y == -1) = false := by simpa using hm
        have HG' : Hid (Int.gcd y (x.tmod y) = Int.gcd a b) := by show _ = _; rw [gcd_tmod]; exact HG.out
        have hmo := tmod_bd (a := x) hy0 hy
        have hlt := natAbs_tmod_lt x hy0
        have hI : I64 (x.tmod y) := by unfold I64; omega
        clear hm
        go_wp2_with fail
        go_quiet (fail)
        go_wp2
        exact ⟨⟨y, _, rfl, rfl, hy, hI, HG', below_drewN hbw _⟩, by simpa only [intOf] using hlt⟩
end Go.Proofs.Ytaeodkpkgbjaeaa
