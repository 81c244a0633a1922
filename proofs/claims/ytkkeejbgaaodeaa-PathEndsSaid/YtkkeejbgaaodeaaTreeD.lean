import Derived.Test.YtkkeejbgaaodeaaTreeC

/-! Layer 10: how many draws may be taken at most. -/
namespace Go.Proofs.Ytkkeejbgaaodeaa
open Go.RowKit
set_option linter.unusedVariables false
set_option linter.unusedSimpArgs false

def nearN (n m : Int) : Int := if n < 0 then 0 else if n > m then m else n
theorem nearN_bd {n m : Int} (h : 0 ≤ m) : 0 ≤ nearN n m ∧ nearN n m ≤ m := by unfold nearN; split <;> (try split) <;> omega
/-- the draws for each cut -/
def eachN (k d t : Int) : Int := if k = 2 then 3 * t + t * t * d else 2 * t
def mostT (k d p t : Int) : Int := max (nearN p 64 - 1) 0 * eachN k (nearN d 8) (nearN t 64)
theorem eachN_bd {k d t : Int} (h : 0 ≤ d ∧ d ≤ 8) (h2 : 0 ≤ t ∧ t ≤ 64) : (0 ≤ t * t ∧ t * t ≤ 4096) ∧ (0 ≤ t * t * d ∧ t * t * d ≤ 32768) ∧ 0 ≤ eachN k d t ∧ eachN k d t ≤ 32960 := by
  have h3 : 0 ≤ t * t := Int.mul_nonneg (by omega) (by omega)
  have h4 : t * t ≤ 64 * 64 := Int.mul_le_mul (by omega) (by omega) (by omega) (by omega)
  have h5 : 0 ≤ t * t * d := Int.mul_nonneg h3 (by omega)
  have h6 : t * t * d ≤ 4096 * 8 := Int.mul_le_mul (by omega) (by omega) (by omega) (by omega)
  refine ⟨⟨h3, by omega⟩, ⟨h5, by omega⟩, ?_⟩
  unfold eachN
  split <;> omega
theorem mostT_bd (k d p t : Int) : 0 ≤ mostT k d p t ∧ mostT k d p t ≤ 2076480 := by
  have h1 := nearN_bd (n := p) (m := 64) (by omega)
  have h2 := (eachN_bd (k := k) (nearN_bd (n := d) (m := 8) (by omega)) (nearN_bd (n := t) (m := 64) (by omega))).2.2
  unfold mostT
  have h3 : 0 ≤ max (nearN p 64 - 1) 0 ∧ max (nearN p 64 - 1) 0 ≤ 63 := by omega
  refine ⟨Int.mul_nonneg h3.1 h2.1, ?_⟩
  have := Int.mul_le_mul h3.2 h2.2 h2.1 (by omega)
  omega
theorem ref_near (n m : Int) (w : World) : Calls Try.prog 52 #[.int .i64 n, .int .i64 m] w fun e w' => e = .returned (.int .i64 (nearN n m)) ∧ w = w' := by
  unfold nearN
  go_enter Try.func52, Try.ntmps52
  go_wp2
  all_goals
    go_ret
    refine ⟨?_, rfl⟩
    simp_all <;> omega
set_option maxRecDepth 100000 in
theorem tree_Most (k d p t : Int) (w : World) : Calls Try.prog 22 #[.int .i64 k, .int .i64 d, .int .i64 p, .int .i64 t] w fun e w' => e = .returned (.int .i64 (mostT k d p t)) ∧ w = w' := by
  have K1 : Hid (Calls Try.prog 51 #[.int .i64 d, .int .i64 0, .int .i64 8] w fun e w' => e = .returned (.int .i64 (nearN d 8)) ∧ w = w') := num_clamp d 0 8 w
  have K2 : Hid (Calls Try.prog 51 #[.int .i64 p, .int .i64 0, .int .i64 64] w fun e w' => e = .returned (.int .i64 (nearN p 64)) ∧ w = w') := num_clamp p 0 64 w
  have K3 : Hid (Calls Try.prog 51 #[.int .i64 t, .int .i64 0, .int .i64 64] w fun e w' => e = .returned (.int .i64 (nearN t 64)) ∧ w = w') := num_clamp t 0 64 w
  have hd := nearN_bd (n := d) (m := 8) (by omega)
  have hp := nearN_bd (n := p) (m := 64) (by omega)
  have ht := nearN_bd (n := t) (m := 64) (by omega)
  have HM : Hid (mostT k d p t = max (nearN p 64 - 1) 0 * eachN k (nearN d 8) (nearN t 64)) := rfl
  have hb := mostT_bd k d p t
  generalize mostT k d p t = R at *
  generalize nearN d 8 = D at *
  generalize nearN p 64 = P at *
  generalize nearN t 64 = T at *
  obtain ⟨⟨b1, b2⟩, ⟨b3, b4⟩, b5, b6⟩ := eachN_bd (k := k) hd ht
  obtain ⟨q1, e1⟩ : ∃ q1 : Int, q1 = T * T := ⟨_, rfl⟩
  obtain ⟨q2, e2⟩ : ∃ q2 : Int, q2 = q1 * D := ⟨_, rfl⟩
  have w1 : wrap64 (T * T) = q1 := by rw [← e1] at b1 b2 ⊢; unfold wrap64; omega
  have w2 : wrap64 (q1 * D) = q2 := by rw [← e1] at b3 b4; rw [← e2] at b3 b4 ⊢; unfold wrap64; omega
  have HQ1 := Lib.hid e1
  have HQ2 := Lib.hid e2
  rw [← e1, ← e2] at b3 b4
  rw [← e1] at b1 b2
  clear e1 e2
  by_cases hk : k = 2
  · subst hk
    have HE : Hid (eachN 2 D T = 3 * T + q2) := by show _ = _; unfold eachN; rw [if_pos rfl, HQ2.out, HQ1.out]
    rw [HE.out] at HM b5 b6
    by_cases hP : P ≤ 1
    · have HR0 : Hid (R = 0) := by show _ = _; rw [HM.out, show max (P - 1) 0 = 0 from by omega, Int.zero_mul]
      by_cases hP4 : P < 1
      · have hP2 : P - 1 < 0 := by omega
        go_enter Try.func22, Try.ntmps22
        go_wp2_with fail
        refine K1.out.mono ?_
        rintro e w1 ⟨rfl, rfl⟩
        go_wp2_with fail
        refine K2.out.mono ?_
        rintro e w1 ⟨rfl, rfl⟩
        go_wp2_with fail
        refine K3.out.mono ?_
        rintro e w1 ⟨rfl, rfl⟩
        go_wp2
        go_ret
        rw [HR0.out]
        exact ⟨congrArg (fun z => Ending.returned (Value.int IntKind.i64 z)) (by first | rfl | (unfold wrap64; omega)), rfl⟩
      · obtain rfl : P = 1 := by omega
        go_enter Try.func22, Try.ntmps22
        go_wp2_with fail
        refine K1.out.mono ?_
        rintro e w1 ⟨rfl, rfl⟩
        go_wp2_with fail
        refine K2.out.mono ?_
        rintro e w1 ⟨rfl, rfl⟩
        go_wp2_with fail
        refine K3.out.mono ?_
        rintro e w1 ⟨rfl, rfl⟩
        go_wp2
        go_ret
        rw [HR0.out]
        exact ⟨congrArg (fun z => Ending.returned (Value.int IntKind.i64 z)) (by first | rfl | (unfold wrap64; omega)), rfl⟩
    · have hP2 : ¬ P - 1 ≤ 0 := by omega
      have hP3 : 0 < P - 1 := by omega
      have w3 : wrap64 ((P - 1) * (2 * T + (T + q2))) = R := by
        rw [show max (P - 1) 0 = P - 1 from by omega] at HM
        rw [show 2 * T + (T + q2) = 3 * T + q2 from by omega, ← HM.out]; unfold wrap64; omega
      go_enter Try.func22, Try.ntmps22
      go_wp2_with fail
      refine K1.out.mono ?_
      rintro e w1 ⟨rfl, rfl⟩
      go_wp2_with fail
      refine K2.out.mono ?_
      rintro e w1 ⟨rfl, rfl⟩
      go_wp2_with fail
      refine K3.out.mono ?_
      rintro e w1 ⟨rfl, rfl⟩
      go_wp2
      go_ret
      exact ⟨congrArg (fun z => Ending.returned (Value.int IntKind.i64 z)) w3, rfl⟩
  · have HE : Hid (eachN k D T = 2 * T) := by show _ = _; unfold eachN; rw [if_neg hk]
    rw [HE.out] at HM b5 b6
    by_cases hP : P ≤ 1
    · have HR0 : Hid (R = 0) := by show _ = _; rw [HM.out, show max (P - 1) 0 = 0 from by omega, Int.zero_mul]
      by_cases hP4 : P < 1
      · have hP2 : P - 1 < 0 := by omega
        go_enter Try.func22, Try.ntmps22
        go_wp2_with fail
        refine K1.out.mono ?_
        rintro e w1 ⟨rfl, rfl⟩
        go_wp2_with fail
        refine K2.out.mono ?_
        rintro e w1 ⟨rfl, rfl⟩
        go_wp2_with fail
        refine K3.out.mono ?_
        rintro e w1 ⟨rfl, rfl⟩
        go_wp2
        go_ret
        rw [HR0.out]
        exact ⟨congrArg (fun z => Ending.returned (Value.int IntKind.i64 z)) (by first | rfl | (unfold wrap64; omega)), rfl⟩
      · obtain rfl : P = 1 := by omega
        go_enter Try.func22, Try.ntmps22
        go_wp2_with fail
        refine K1.out.mono ?_
        rintro e w1 ⟨rfl, rfl⟩
        go_wp2_with fail
        refine K2.out.mono ?_
        rintro e w1 ⟨rfl, rfl⟩
        go_wp2_with fail
        refine K3.out.mono ?_
        rintro e w1 ⟨rfl, rfl⟩
        go_wp2
        go_ret
        rw [HR0.out]
        exact ⟨congrArg (fun z => Ending.returned (Value.int IntKind.i64 z)) (by first | rfl | (unfold wrap64; omega)), rfl⟩
    · have hP2 : ¬ P - 1 ≤ 0 := by omega
      have hP3 : 0 < P - 1 := by omega
      have w3 : wrap64 ((P - 1) * (2 * T)) = R := by
        rw [show max (P - 1) 0 = P - 1 from by omega] at HM
        rw [show 2 * T = 2 * T from by omega, ← HM.out]; unfold wrap64; omega
      go_enter Try.func22, Try.ntmps22
      go_wp2_with fail
      refine K1.out.mono ?_
      rintro e w1 ⟨rfl, rfl⟩
      go_wp2_with fail
      refine K2.out.mono ?_
      rintro e w1 ⟨rfl, rfl⟩
      go_wp2_with fail
      refine K3.out.mono ?_
      rintro e w1 ⟨rfl, rfl⟩
      go_wp2
      go_ret
      exact ⟨congrArg (fun z => Ending.returned (Value.int IntKind.i64 z)) w3, rfl⟩
theorem near_less (p : Int) : nearN (nearN p 64 - 1) 64 = max (nearN p 64 - 1) 0 := by
  have := nearN_bd (n := p) (m := 64) (by omega)
  generalize nearN p 64 = P at *
  unfold nearN
  split <;> (try split) <;> omega
set_option maxRecDepth 100000 in
theorem ref_Most (k d p t : Int) (w : World) : Calls Try.prog 23 #[.int .i64 k, .int .i64 d, .int .i64 p, .int .i64 t] w fun e w' => e = .returned (.int .i64 (mostT k d p t)) ∧ w = w' := by
  have K1 := Lib.hid (ref_near d 8 w)
  have K2 := Lib.hid (ref_near p 64 w)
  have K3 := Lib.hid (ref_near t 64 w)
  have K4 := Lib.hid (ref_near (nearN p 64 - 1) 64 w)
  rw [near_less] at K4
  have hd := nearN_bd (n := d) (m := 8) (by omega)
  have hp := nearN_bd (n := p) (m := 64) (by omega)
  have ht := nearN_bd (n := t) (m := 64) (by omega)
  have HM : Hid (mostT k d p t = max (nearN p 64 - 1) 0 * eachN k (nearN d 8) (nearN t 64)) := rfl
  have hb := mostT_bd k d p t
  generalize mostT k d p t = R at *
  generalize nearN d 8 = D at *
  generalize nearN p 64 = P at *
  generalize nearN t 64 = T at *
  obtain ⟨⟨b1, b2⟩, ⟨b3, b4⟩, b5, b6⟩ := eachN_bd (k := k) hd ht
  obtain ⟨q1, e1⟩ : ∃ q1 : Int, q1 = T * T := ⟨_, rfl⟩
  obtain ⟨q2, e2⟩ : ∃ q2 : Int, q2 = q1 * D := ⟨_, rfl⟩
  have w1 : wrap64 (T * T) = q1 := by rw [← e1] at b1 b2 ⊢; unfold wrap64; omega
  have w2 : wrap64 (q1 * D) = q2 := by rw [← e1] at b3 b4; rw [← e2] at b3 b4 ⊢; unfold wrap64; omega
  have HQ1 := Lib.hid e1
  have HQ2 := Lib.hid e2
  rw [← e1, ← e2] at b3 b4
  rw [← e1] at b1 b2
  clear e1 e2
  generalize hX : max (P - 1) 0 = X at *
  have HX := Lib.hid hX
  clear hX
  by_cases hk : k = 2
  · subst hk
    have HE : Hid (eachN 2 D T = 3 * T + q2) := by show _ = _; unfold eachN; rw [if_pos rfl, HQ2.out, HQ1.out]
    rw [HE.out] at HM b5 b6
    have w3 : wrap64 (X * (3 * T + q2)) = R := by rw [← HM.out]; unfold wrap64; omega
    go_enter Try.func23, Try.ntmps23
    go_wp2_with fail
    refine K3.out.mono ?_
    rintro e w1 ⟨rfl, rfl⟩
    go_wp2_with fail
    refine K1.out.mono ?_
    rintro e w1 ⟨rfl, rfl⟩
    go_wp2_with fail
    refine K2.out.mono ?_
    rintro e w1 ⟨rfl, rfl⟩
    go_wp2_with fail
    refine K4.out.mono ?_
    rintro e w1 ⟨rfl, rfl⟩
    go_wp2
    go_ret
    exact ⟨congrArg (fun z => Ending.returned (Value.int IntKind.i64 z)) (by first | rfl | exact w3), rfl⟩
  · have HE : Hid (eachN k D T = 2 * T) := by show _ = _; unfold eachN; rw [if_neg hk]
    rw [HE.out] at HM b5 b6
    have w3 : wrap64 (X * (2 * T)) = R := by rw [← HM.out]; unfold wrap64; omega
    go_enter Try.func23, Try.ntmps23
    go_wp2_with fail
    refine K3.out.mono ?_
    rintro e w1 ⟨rfl, rfl⟩
    go_wp2_with fail
    refine K2.out.mono ?_
    rintro e w1 ⟨rfl, rfl⟩
    go_wp2_with fail
    refine K4.out.mono ?_
    rintro e w1 ⟨rfl, rfl⟩
    go_wp2
    go_ret
    exact ⟨congrArg (fun z => Ending.returned (Value.int IntKind.i64 z)) (by first | rfl | exact w3), rfl⟩
end Go.Proofs.Ytkkeejbgaaodeaa
