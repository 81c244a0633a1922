import Derived.Test.YtehekdahlnpldaaVecM
import Derived.WalkMore
import Derived.Deep.QuietTactic
import Derived.BigQuiet

/-! Package vec: extremes, ends, Is, Parts. -/
namespace Go.Proofs.Ytehekdahlnpldaa
open Go.RowKit
set_option linter.unusedVariables false
set_option linter.unusedSimpArgs false

theorem min_if (x z : Int) : (if z < x then z else x) = min x z := by split <;> omega
theorem max_if (y z : Int) : (if y < z then z else y) = max y z := by split <;> omega
theorem add_zero' (a : Addr) : a.add 0 = a := by unfold Addr.add; simp
theorem vec_id (n : Int) (w : World) : Calls Try.prog 143 #[.int .i64 n] w fun e w' => e = .returned (.int .i64 n) ∧ w = w' := by
  go_enter Try.func143, Try.ntmps143
  go_wp2
  go_ret
  exact ⟨rfl, rfl⟩

set_option maxHeartbeats 1000000 in
theorem ext_int (A : Option Addr) (l : List Int) (c B : Nat) (lo hi : Int) (w : World) (hA : Lies w B A l) (hl : (l.length : Int) ≤ 9223372036854775807) :
    Calls Try.prog 142 #[.int .i64 lo, .int .i64 hi, .slice A l.length c, .func (.func 143) #[] #[]] w fun e w' => e = .returned (.tuple #[.int .i64 (loL lo l), .int .i64 (hiL hi l)]) ∧ w = w' := by
  have HA := Lib.hid hA
  clear hA
  generalize hN : l.length = N at *
  have HN := Lib.hid hN
  clear hN
  go_enter Try.func142, Try.ntmps142
  go_wp2
  go_loop [0, 1, 15] (fun a b i => ∃ (k : Nat) (x y : Int), k ≤ N ∧ i = .int .i64 k ∧ a = .int .i64 x ∧ b = .int .i64 y ∧ Hid (x = loL lo (l.take k)) ∧ Hid (y = hiL hi (l.take k))) (fun _ _ i => N - (intOf i).toNat)
  case atStart => exact ⟨0, _, _, by omega, rfl, rfl, rfl, rfl, rfl⟩
  case round =>
    obtain ⟨k, x, y, hk, rfl, rfl, rfl, HX, HY⟩ := hrel
    by_cases hlt : k < N
    · obtain ⟨ad, rfl, hadb, hcell⟩ := HA.out.at (k := k) (by have := HN.out; omega)
      have HL := Lib.hid (loL_take lo l (k := k) (by have := HN.out; omega))
      have HH := Lib.hid (hiL_take hi l (k := k) (by have := HN.out; omega))
      generalize l.getD k 0 = z at *
      go_wp2_with fail
      refine (vec_id z _).mono ?_
      rintro e w1 ⟨rfl, rfl⟩
      go_wp2
      go_round
      case rel => exact ⟨k + 1, _, _, by omega, by go_num, rfl, rfl, (by show _ = _; rw [HL.out, ← HX.out, ← min_if]), (by show _ = _; rw [HH.out, ← HY.out, ← max_if])⟩
      case measure => simp [intOf]; omega
    · obtain rfl : k = N := by omega
      go_wp2
      go_ret2
      have h1 : l.take k = l := List.take_of_length_le (by have := HN.out; omega)
      exact ⟨ret2i (HX.out.trans (by rw [h1])) (HY.out.trans (by rw [h1])), rfl⟩

set_option maxRecDepth 100000 in
set_option maxHeartbeats 1000000 in
theorem vec_ends (A : Option Addr) (l : List Int) (c B : Nat) (d : Int) (w : World) (hA : Lies w B A l) (hl : (l.length : Int) ≤ 9223372036854775807) (hc : l.length ≤ c) :
    Calls Try.prog 118 #[.slice A l.length c, .int .i64 d] w fun e w' => e = .returned (.tuple #[.int .i64 (endsL l d), .int .i64 (endsH l d), .bool (endsK l d)]) ∧ ∃ n, w' = w.drewN n := by
  cases hK : endsK l d with
  | false =>
    have hb : (decide (d < 1) || decide (8 < d) || decide ((l.length : Int) ≠ d)) = true := by
      unfold endsK at hK
      simp only [decide_eq_false_iff_not] at hK
      simp only [Bool.or_eq_true, decide_eq_true_eq]
      omega
    have h1 : endsL l d = 0 := by unfold endsL; rw [if_neg (by rw [hK]; simp)]
    have h2 : endsH l d = 0 := by unfold endsH; rw [if_neg (by rw [hK]; simp)]
    rw [h1, h2]
    clear hA hK h1 h2
    generalize l.length = N at *
    by_cases g1 : d < 1
    · go_enter Try.func118, Try.ntmps118
      go_wp2
      go_ret3
      exact ⟨rfl, 0, rfl⟩
    · by_cases g2 : 8 < d
      · go_enter Try.func118, Try.ntmps118
        go_wp2
        go_ret3
        exact ⟨rfl, 0, rfl⟩
      · have g3 : ((N : Int) != d) = true := by
          simp only [Bool.or_eq_true, decide_eq_true_eq] at hb
          simp; omega
        clear hb
        go_enter Try.func118, Try.ntmps118
        go_wp2
        go_ret3
        exact ⟨rfl, 0, rfl⟩
  | true =>
    obtain ⟨a, r, rfl, e1, e2⟩ := ends_cons hK
    obtain ⟨k1, k2, k3⟩ := endsK_iff.1 hK
    rw [e1, e2]
    obtain ⟨ad, rfl, hadb, hcell⟩ := hA.at (k := 0) (by simp)
    simp only [List.getD_cons_zero] at hcell
    have hcell' : w.cell? ad = some (.int .i64 a) := by rw [add_zero'] at hcell; exact hcell
    have hcut := lies_cut hA 1 (by simp) hc
    rw [List.drop_succ_cons, List.drop_zero] at hcut
    obtain ⟨M, hM⟩ : ∃ M, M = (a :: r).length := ⟨_, rfl⟩
    rw [← hM] at hc hl k3 ⊢
    subst k3
    have hr : r.length = M - 1 := by rw [hM]; rfl
    have K := Lib.hid (fun A W (h : Lies W B A r) => hr ▸ ext_int A r (c - 1) B a a W h (by omega))
    have g4 : (M : Int) ≤ (c : Int) := by omega
    have g5 : 0 < M := by omega
    have g6 : (1 : Int) ≤ M := by omega
    generalize loL a r = x at *
    generalize hiL a r = y at *
    by_cases h1 : c = 1
    · rw [if_pos h1] at hcut
      have HC := Lib.hid hcut
      clear hcut hA hK e1 e2 hr hM
      subst h1
      obtain rfl : M = 1 := by omega
      go_enter Try.func118, Try.ntmps118
      go_wp2
      go_quiet ((go_at_call 142; exact Calls.quiet_of_same (still_of (K.out _ _ HC.out))))
      go_wp2
      go_ret3
      exact ⟨rfl, _, rfl⟩
    · rw [if_neg h1] at hcut
      have HC := Lib.hid hcut
      clear hcut hA hK e1 e2 hr hM
      go_enter Try.func118, Try.ntmps118
      go_wp2
      go_quiet ((go_at_call 142; exact Calls.quiet_of_same (still_of (K.out _ _ HC.out))))
      go_wp2
      go_ret3
      exact ⟨rfl, _, rfl⟩
end Go.Proofs.Ytehekdahlnpldaa
