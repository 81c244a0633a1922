import Derived.Test.YtiepfkhbebdkeaaDoorHarmA

/-! Package harm: Low, High, ends, Ends, middle, Norm. -/
namespace Go.Proofs.YtiepfkhbebdkeaaDoor
open Go.RowKit
set_option linter.unusedVariables false
set_option linter.unusedSimpArgs false
set_option maxRecDepth 100000

theorem field_low (a b : Int) (w : World) : (Instr.field 81 (sumsV a b) 0).run Tryd.prog w = .ok (.int .i64 a) w := by rfl
theorem field_high (a b : Int) (w : World) : (Instr.field 81 (sumsV a b) 1).run Tryd.prog w = .ok (.int .i64 b) w := by rfl
theorem below_drewH {B : Nat} {a w : World} (h : Below B a w) (n : Nat) : Below B a (w.drewN n) := ⟨h.os, h.tape, h.output, h.size, h.block⟩
theorem harm_middle (a b : Int) (w : World) (ha : 0 ≤ a ∧ a ≤ 1000000000000) (hb : 0 ≤ b ∧ b ≤ 1000000000000) : Calls Tryd.prog 43 #[.int .i64 a, .int .i64 b] w fun e w' => e = .returned (.int .i64 ((a + b) / 2)) ∧ w = w' := by
  have h2 : Int.tdiv (a + b) 2 = (a + b) / 2 := Int.tdiv_eq_ediv_of_nonneg (by omega)
  go_enter Tryd.func43, Tryd.ntmps43
  go_wp2
  go_ret
  refine ⟨ret1i ?_, rfl⟩
  first | omega | (simp only [i64w]; omega) | (unfold wrap64; omega) | trace_state
theorem harm_ends (m : Nat) (a b : Int) (w : World) (hm : m ≤ 256) (ha : 0 ≤ a ∧ a ≤ 1000000000000) (hb : 0 ≤ b ∧ b ≤ 1000000000000) (hab : 2 ≤ m → a = lowN (m - 1) ∧ b = highN (m - 1)) :
    Calls Tryd.prog 59 #[.int .i64 m, sumsV a b] w fun e w' => e = .returned (.tuple #[.int .i64 (endLo m), .int .i64 (endHi m)]) ∧ Below w.heap.size w w' := by
  have hbd := ends_bd hm
  by_cases h2 : m < 2
  · rw [show endLo m = 0 from by unfold endLo; rw [if_pos h2], show endHi m = 0 from by unfold endHi; rw [if_pos h2]]
    clear hab
    go_enter Tryd.func59, Tryd.ntmps59
    go_wp2
    go_ret2
    exact ⟨rfl, (Below.refl _ _).alloc (Nat.le_refl _) _⟩
  · obtain ⟨rfl, rfl⟩ := hab (by omega)
    have KC := Lib.hid (num_ceil (2147483648 * ((m : Int) - 1)) m (by unfold I64; omega))
    unfold ceilV at KC
    rw [show ceilN (2147483648 * ((m : Int) - 1)) m = -(-(2147483648 * ((m : Int) - 1)) / m) from by unfold ceilN; rw [if_neg (by omega)], show ceilE (m : Int) = 0 from by unfold ceilE; rw [if_neg (by omega)]] at KC
    have e1 : Hid (endLo m = 2 * lowN (m - 1) - -(-(2147483648 * ((m : Int) - 1)) / m)) := by show _ = _; unfold endLo; rw [if_neg h2]
    have e2 : Hid (endHi m = 2 * highN (m - 1) - 2147483648 * ((m : Int) - 1) / m) := by show _ = _; unfold endHi; rw [if_neg h2]
    have h3 : Int.tdiv (2147483648 * ((m : Int) - 1)) m = 2147483648 * ((m : Int) - 1) / m := Int.tdiv_eq_ediv_of_nonneg (by omega)
    have h4 : 0 ≤ 2147483648 * ((m : Int) - 1) / m := Int.ediv_nonneg (by omega) (by omega)
    have h5 : 2147483648 * ((m : Int) - 1) / m ≤ 2147483648 * ((m : Int) - 1) := Int.ediv_le_self _ (by omega)
    have h6 := neg_ediv_of (a := 2147483648 * ((m : Int) - 1)) (b := m) (by omega)
    have h7 : 0 ≤ -(-(2147483648 * ((m : Int) - 1)) / m) ∧ -(-(2147483648 * ((m : Int) - 1)) / m) ≤ 2147483648 * ((m : Int) - 1) + 1 := by rw [h6]; split <;> omega
    clear h6
    generalize lowN (m - 1) = a at *
    generalize highN (m - 1) = b at *
    have J0 := ((Keeps.start w).alloc #[.int .i64 a, .int .i64 b] 81)
    obtain ⟨x0, x1, _, _⟩ := J0.head.two
    generalize -(-(2147483648 * ((m : Int) - 1)) / m) = C at *
    generalize 2147483648 * ((m : Int) - 1) / m = q at *
    go_enter Tryd.func59, Tryd.ntmps59
    go_wp2_with fail
    refine (KC.out _).mono ?_
    rintro e w1 ⟨rfl, rfl⟩
    have hm0 : ¬ ((m : Int) = 0) := by omega
    go_wp2_with fail
    try go_quiet (fail)
    go_wp2
    go_ret2
    refine ⟨?_, ?_⟩
    · rw [e1.out, e2.out]; exact ret2i (by first | rfl | omega) (by first | rfl | omega)
    · exact below_drewH ((Below.refl _ _).alloc (Nat.le_refl _) _) nq
theorem heldN_sub (n : Nat) (h : n ≤ 256) : heldN ((n : Int) - 1) = n - 1 := by unfold heldN; split <;> (try split) <;> omega
theorem harm_Ends (n : Int) (w : World) : Calls Tryd.prog 44 #[.int .i64 n] w fun e w' => e = .returned (.tuple #[.int .i64 (endLo (heldN n)), .int .i64 (endHi (heldN n))]) ∧ Below w.heap.size w w' := by
  have KH := Lib.hid (harm_held n)
  have hH := heldN_le n
  generalize heldN n = m at *
  have hs := sum_bds (k := m - 1) (by omega)
  have KU := Lib.hid (harm_upto ((m : Int) - 1))
  rw [heldN_sub m hH] at KU
  have KE := Lib.hid (fun W => harm_ends m (lowN (m - 1)) (highN (m - 1)) W hH hs.1 hs.2 (fun _ => ⟨rfl, rfl⟩))
  go_enter Tryd.func44, Tryd.ntmps44
  go_wp2_with fail
  refine (KH.out _).mono ?_
  rintro e w1 ⟨rfl, rfl⟩
  go_wp2_with fail
  refine (KU.out _).mono ?_
  rintro e w1 ⟨rfl, b1⟩
  go_wp2_with fail
  refine (KE.out _).mono ?_
  rintro e w2 ⟨rfl, b2⟩
  go_wp2
  go_ret2
  exact ⟨rfl, b1.trans (b2.mono b1.size)⟩
theorem harm_norm (n : Int) (w : World) : Calls Tryd.prog 31 #[.int .i64 n] w fun e w' => e = .returned (.int .i64 (normN (heldN n))) ∧ Below w.heap.size w w' := by
  have K := Lib.hid (harm_Ends n)
  have hb := ends_bd (heldN_le n)
  have KM := Lib.hid (fun W => harm_middle (endLo (heldN n)) (endHi (heldN n)) W (by omega) (by omega))
  rw [show (endLo (heldN n) + endHi (heldN n)) / 2 = normN (heldN n) from rfl] at KM
  generalize heldN n = m at *
  go_enter Tryd.func31, Tryd.ntmps31
  go_wp2_with fail
  refine (K.out _).mono ?_
  rintro e w1 ⟨rfl, b1⟩
  go_wp2_with fail
  refine (KM.out _).mono ?_
  rintro e w2 ⟨rfl, rfl⟩
  go_wp2
  go_ret
  exact ⟨rfl, b1⟩
end Go.Proofs.YtiepfkhbebdkeaaDoor
