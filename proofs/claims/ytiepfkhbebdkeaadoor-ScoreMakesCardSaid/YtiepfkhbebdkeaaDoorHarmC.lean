import Derived.Test.YtiepfkhbebdkeaaDoorHarmB

/-! The reference of layer 5: Held, Low, High, Ends, Norm. -/
namespace Go.Proofs.YtiepfkhbebdkeaaDoor
open Go.RowKit
set_option linter.unusedVariables false
set_option linter.unusedSimpArgs false
set_option maxRecDepth 100000

theorem ref5_held (n : Int) (w : World) : Calls Tryd.prog 61 #[.int .i64 n] w fun e w' => e = .returned (.int .i64 (heldN n)) ∧ w = w' := by
  have h : Hid ((if n < 0 then 0 else if 256 < n then 256 else n) = (heldN n : Int)) := by
    show _ = _
    unfold heldN; split <;> (try split) <;> (try split) <;> omega
  generalize (heldN n : Int) = H at *
  go_enter Tryd.func61, Tryd.ntmps61
  go_wp2
  all_goals
    go_ret
    refine ⟨ret1i ?_, rfl⟩
    have := h.out
    split at this <;> (try split at this) <;> omega
theorem up_div (a : Int) {b : Int} (hb : 0 < b) : (a + b - 1) / b = -(-a / b) := by
  have h := ceil_facts a hb
  generalize -(-a / b) = q at *
  rw [show a + b - 1 = (a + b - 1 - q * b) + q * b from by omega, Int.add_mul_ediv_right _ _ (by omega), Int.ediv_eq_zero_of_lt (by omega) (by omega)]
  omega
theorem dreH2 (w : World) (a b : Nat) : ∃ n, (w.drewN a).drewN b = w.drewN n := ⟨_, World.drewN_drewN _ _ _⟩
set_option maxHeartbeats 1000000 in
theorem ref5_low (n : Int) (w : World) : Calls Tryd.prog 62 #[.int .i64 n] w fun e w' => e = .returned (.int .i64 (lowN (heldN n))) ∧ ∃ m, w' = w.drewN m := by
  have KH := Lib.hid (ref5_held n)
  have hH := heldN_le n
  generalize heldN n = H at *
  go_enter Tryd.func62, Tryd.ntmps62
  go_wp2
  go_loopw [3, 4] (fun s k wr => ∃ (j : Nat) (v : Int), j ≤ H ∧ k = .int .i64 ((j : Int) + 1) ∧ s = .int .i64 v ∧ Hid (v = lowN j) ∧ Hid (∃ m, wr = w.drewN m)) (fun _ k _ => H + 1 - (intOf k).toNat)
  case atStart => exact ⟨0, 0, by omega, rfl, rfl, rfl, ⟨0, rfl⟩⟩
  case round =>
    obtain ⟨j, v, hj, rfl, rfl, HV, HM⟩ := hrel
    have hv := sum_bds (k := j) (by omega)
    rw [← HV.out] at hv
    have ht : Int.tdiv 1073741824 ((j : Int) + 1) = 1073741824 / ((j : Int) + 1) := Int.tdiv_eq_ediv_of_nonneg (by omega)
    have h1 : 0 ≤ 1073741824 / ((j : Int) + 1) := Int.ediv_nonneg (by omega) (by omega)
    have h2 : 1073741824 / ((j : Int) + 1) ≤ 1073741824 := Int.ediv_le_self _ (by omega)
    have hj0 : ¬ ((j : Int) + 1 = 0) := by omega
    have HS : Hid (lowN (j + 1) = lowN j + 1073741824 / ((j : Int) + 1)) := rfl
    by_cases hlt : j < H
    · have hle : (j : Int) + 1 ≤ H := by omega
      generalize 1073741824 / ((j : Int) + 1) = q at *
      go_wp2_with fail
      refine (KH.out _).mono ?_
      rintro e w1 ⟨rfl, rfl⟩
      go_wp2
      refine ⟨⟨j + 1, _, by omega, by go_num, rfl, ?_, HM⟩, by simp [intOf]; omega⟩
      show _ = _
      rw [HS.out, HV.out]
    · obtain rfl : j = H := by omega
      go_wp2_with fail
      refine (KH.out _).mono ?_
      rintro e w1 ⟨rfl, rfl⟩
      go_wp2
      go_ret
      exact ⟨ret1i HV.out, HM.out⟩
set_option maxHeartbeats 1000000 in
theorem ref5_high (n : Int) (w : World) : Calls Tryd.prog 63 #[.int .i64 n] w fun e w' => e = .returned (.int .i64 (highN (heldN n))) ∧ ∃ m, w' = w.drewN m := by
  have KH := Lib.hid (ref5_held n)
  have hH := heldN_le n
  generalize heldN n = H at *
  go_enter Tryd.func63, Tryd.ntmps63
  go_wp2
  go_loopw [3, 4] (fun s k wr => ∃ (j : Nat) (v : Int), j ≤ H ∧ k = .int .i64 ((j : Int) + 1) ∧ s = .int .i64 v ∧ Hid (v = highN j) ∧ Hid (∃ m, wr = w.drewN m)) (fun _ k _ => H + 1 - (intOf k).toNat)
  case atStart => exact ⟨0, 0, by omega, rfl, rfl, rfl, ⟨0, rfl⟩⟩
  case round =>
    obtain ⟨j, v, hj, rfl, rfl, HV, HM⟩ := hrel
    have hv := sum_bds (k := j) (by omega)
    rw [← HV.out] at hv
    have hup := up_div 1073741824 (b := (j : Int) + 1) (by omega)
    rw [show (1073741824 : Int) + ((j : Int) + 1) - 1 = 1073741824 + (j : Int) + 1 - 1 from by omega] at hup
    have hc := ceil_step (k := j)
    have ht : Int.tdiv (1073741824 + ((j : Int) + 1) - 1) ((j : Int) + 1) = -(-1073741824 / ((j : Int) + 1)) := by
      rw [Int.tdiv_eq_ediv_of_nonneg (by omega), ← up_div 1073741824 (b := (j : Int) + 1) (by omega)]
    have h1 : 0 ≤ 1073741824 / ((j : Int) + 1) := Int.ediv_nonneg (by omega) (by omega)
    have h2 : 1073741824 / ((j : Int) + 1) ≤ 1073741824 := Int.ediv_le_self _ (by omega)
    have hj0 : ¬ ((j : Int) + 1 = 0) := by omega
    have HS : Hid (highN (j + 1) = highN j + -(-1073741824 / ((j : Int) + 1))) := rfl
    by_cases hlt : j < H
    · have hle : (j : Int) + 1 ≤ H := by omega
      clear hup
      generalize hq : -(-1073741824 / ((j : Int) + 1)) = q at *
      generalize 1073741824 / ((j : Int) + 1) = q2 at *
      clear hq
      go_wp2_with fail
      refine (KH.out _).mono ?_
      rintro e w1 ⟨rfl, rfl⟩
      go_wp2
      refine ⟨⟨j + 1, _, by omega, by go_num, rfl, ?_, HM⟩, by simp [intOf]; omega⟩
      show _ = _
      rw [HS.out, HV.out]
    · obtain rfl : j = H := by omega
      go_wp2_with fail
      refine (KH.out _).mono ?_
      rintro e w1 ⟨rfl, rfl⟩
      go_wp2
      go_ret
      exact ⟨ret1i HV.out, HM.out⟩

theorem ref5_ends (n : Int) (w : World) : Calls Tryd.prog 45 #[.int .i64 n] w fun e w' => e = .returned (.tuple #[.int .i64 (endLo (heldN n)), .int .i64 (endHi (heldN n))]) ∧ ∃ m, w' = w.drewN m := by
  have KH := Lib.hid (ref5_held n)
  have hH := heldN_le n
  generalize heldN n = m at *
  by_cases h2 : m < 2
  · rw [show endLo m = 0 from by unfold endLo; rw [if_pos h2], show endHi m = 0 from by unfold endHi; rw [if_pos h2]]
    go_enter Tryd.func45, Tryd.ntmps45
    go_wp2_with fail
    refine (KH.out _).mono ?_
    rintro e w1 ⟨rfl, rfl⟩
    go_wp2
    go_ret2
    exact ⟨rfl, 0, rfl⟩
  · have hbd := ends_bd hH
    have KL := Lib.hid (ref5_low ((m : Int) - 1))
    have KG := Lib.hid (ref5_high ((m : Int) - 1))
    rw [heldN_sub m hH] at KL KG
    have e1 : Hid (endLo m = 2 * lowN (m - 1) - -(-(2147483648 * ((m : Int) - 1)) / m)) := by show _ = _; unfold endLo; rw [if_neg h2]
    have e2 : Hid (endHi m = 2 * highN (m - 1) - 2147483648 * ((m : Int) - 1) / m) := by show _ = _; unfold endHi; rw [if_neg h2]
    have h3 : Int.tdiv (2147483648 * ((m : Int) - 1)) m = 2147483648 * ((m : Int) - 1) / m := Int.tdiv_eq_ediv_of_nonneg (by omega)
    have h4 : 0 ≤ 2147483648 * ((m : Int) - 1) / m := Int.ediv_nonneg (by omega) (by omega)
    have h5 : 2147483648 * ((m : Int) - 1) / m ≤ 2147483648 * ((m : Int) - 1) := Int.ediv_le_self _ (by omega)
    have h6 := neg_ediv_of (a := 2147483648 * ((m : Int) - 1)) (b := m) (by omega)
    have h7 : 0 ≤ -(-(2147483648 * ((m : Int) - 1)) / m) ∧ -(-(2147483648 * ((m : Int) - 1)) / m) ≤ 2147483648 * ((m : Int) - 1) + 1 := by rw [h6]; split <;> omega
    have h8 : Int.tdiv (2147483648 * ((m : Int) - 1) + m - 1) m = -(-(2147483648 * ((m : Int) - 1)) / m) := by
      rw [Int.tdiv_eq_ediv_of_nonneg (by omega), up_div _ (by omega)]
    have hs := sum_bds (k := m - 1) (by omega)
    clear h6
    generalize lowN (m - 1) = a at *
    generalize highN (m - 1) = b at *
    obtain ⟨⟨s1, s2⟩, s3, s4⟩ := hs
    generalize -(-(2147483648 * ((m : Int) - 1)) / m) = C at *
    generalize 2147483648 * ((m : Int) - 1) / m = q at *
    have hm0 : ¬ ((m : Int) = 0) := by omega
    go_enter Tryd.func45, Tryd.ntmps45
    go_wp2_with fail
    refine (KH.out _).mono ?_
    rintro e w1 ⟨rfl, rfl⟩
    go_wp2_with fail
    go_quiet (first | (go_at_call 62; exact Calls.quiet_of (KL.out _)) | (go_at_call 63; exact Calls.quiet_of (KG.out _)))
    go_wp2
    go_ret2
    exact ⟨by rw [e1.out, e2.out]; exact ret2i (by first | rfl | omega) (by first | rfl | omega), _, rfl⟩
theorem ref5_norm (n : Int) (w : World) : Calls Tryd.prog 32 #[.int .i64 n] w fun e w' => e = .returned (.int .i64 (normN (heldN n))) ∧ ∃ m, w' = w.drewN m := by
  have K := Lib.hid (ref5_ends n)
  have hb := ends_bd (heldN_le n)
  have HN : Hid ((endLo (heldN n) + endHi (heldN n)) / 2 = normN (heldN n)) := rfl
  have h2 : Int.tdiv (endLo (heldN n) + endHi (heldN n)) 2 = (endLo (heldN n) + endHi (heldN n)) / 2 := Int.tdiv_eq_ediv_of_nonneg (by omega)
  generalize normN (heldN n) = z at *
  generalize endLo (heldN n) = x at *
  generalize endHi (heldN n) = y at *
  go_enter Tryd.func32, Tryd.ntmps32
  go_wp2_with fail
  refine (K.out _).mono ?_
  rintro e w1 ⟨rfl, m, rfl⟩
  go_wp2
  go_ret
  exact ⟨by rw [← HN.out]; rfl, _, rfl⟩
end Go.Proofs.YtiepfkhbebdkeaaDoor
