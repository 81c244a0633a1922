import Derived.Test.YtihfhdnldpjjdaaHarmD
import Derived.Test.YtihfhdnldpjjdaaRatM
import Derived.Test.YtihfhdnldpjjdaaRatK

/-! Harmonic numbers as ratios: harm.Frac and the reference's. -/
namespace Go.Proofs.Ytihfhdnldpjjdaa
open Go.RowKit
set_option linter.unusedVariables false
set_option linter.unusedSimpArgs false

/-- the sum of the first k, as long as it fits: the ratio's parts, and the error -/
def fracs : Nat → Int × Int × Int
  | 0 => (0, 1, 0)
  | k + 1 => if (fracs k).2.2 = 0 then
      (doP (fracs k).1 (fracs k).2.1 1 ((k : Int) + 1) ((fracs k).1 * ((k : Int) + 1) + 1 * (fracs k).2.1) ((fracs k).2.1 * ((k : Int) + 1)),
       doQ (fracs k).1 (fracs k).2.1 1 ((k : Int) + 1) ((fracs k).1 * ((k : Int) + 1) + 1 * (fracs k).2.1) ((fracs k).2.1 * ((k : Int) + 1)),
       doE (fracs k).1 (fracs k).2.1 1 ((k : Int) + 1) ((fracs k).1 * ((k : Int) + 1) + 1 * (fracs k).2.1) ((fracs k).2.1 * ((k : Int) + 1)))
    else fracs k
theorem fracs_stay (k : Nat) (h : ¬ (fracs k).2.2 = 0) : ∀ j, k ≤ j → fracs j = fracs k
  | 0, hj => by obtain rfl : k = 0 := by omega
                rfl
  | j + 1, hj => by
    rcases Nat.lt_or_ge k (j + 1) with h1 | h1
    · have ih := fracs_stay k h j (by omega)
      rw [fracs, ih, if_neg h]
    · obtain rfl : k = j + 1 := by omega
      rfl
theorem fracs_zero : ∀ k : Nat, ¬ (fracs k).2.2 = 0 → (fracs k).1 = 0 ∧ (fracs k).2.1 = 0
  | 0, h => by simp [fracs] at h
  | k + 1, h => by
    rw [fracs] at h ⊢
    by_cases h0 : (fracs k).2.2 = 0
    · rw [if_pos h0] at h ⊢
      simp only at h ⊢
      generalize (fracs k).1 = p at *
      generalize (fracs k).2.1 = q at *
      unfold doE at h
      unfold doP doQ
      by_cases hv : Valid p q ∧ Valid 1 ((k : Int) + 1)
      · rw [if_pos hv] at h ⊢
        rw [if_pos hv]
        unfold ofE at h
        unfold ofP ofQ
        split at h
        · rename_i hz; rw [if_pos hz, if_pos hz]; exact ⟨rfl, rfl⟩
        · rename_i hz
          rw [if_neg hz, if_neg hz]
          split at h
          · exact absurd rfl h
          · rename_i hf; rw [if_neg hf, if_neg hf]; exact ⟨rfl, rfl⟩
      · rw [if_neg hv, if_neg hv]; exact ⟨rfl, rfl⟩
    · rw [if_neg h0] at h ⊢
      exact fracs_zero k h
/-- a sum that fits is right, and between both ends -/
theorem fracs_ok : ∀ k : Nat, (fracs k).2.2 = 0 → Valid (fracs k).1 (fracs k).2.1 ∧ lowN k * (fracs k).2.1 ≤ (fracs k).1 * 1073741824 ∧ (fracs k).1 * 1073741824 ≤ highN k * (fracs k).2.1
  | 0, _ => by simp [fracs, lowN, highN, Valid]
  | k + 1, h => by
    have h0 : (fracs k).2.2 = 0 := by
      rw [fracs] at h
      by_cases h0 : (fracs k).2.2 = 0
      · exact h0
      · rw [if_neg h0] at h; exact h
    obtain ⟨hv, hlo, hhi⟩ := fracs_ok k h0
    rw [fracs, if_pos h0] at h ⊢
    simp only at h ⊢
    generalize (fracs k).1 = p at *
    generalize (fracs k).2.1 = q at *
    obtain ⟨hv2, e1, e2, e3⟩ := do_ok h
    rw [e1, e2]
    obtain ⟨hd, hV, hE⟩ := of_ok e3
    generalize ofP (p * ((k : Int) + 1) + 1 * q) (q * ((k : Int) + 1)) = P at *
    generalize ofQ (p * ((k : Int) + 1) + 1 * q) (q * ((k : Int) + 1)) = Q at *
    have hD : 0 < q * ((k : Int) + 1) := Int.mul_pos (by have := hv.1.1; omega) (by omega)
    have hQ : 0 ≤ Q := by have := hV.1.1; omega
    have hq : 0 < q := by have := hv.1.1; omega
    have f1 := Int.ediv_mul_le 1073741824 (show (k : Int) + 1 ≠ 0 by omega)
    have f2 := (ceil_facts 1073741824 (show 0 < (k : Int) + 1 by omega)).1
    refine ⟨hV, ?_, ?_⟩
    · rw [lowN]
      generalize 1073741824 / ((k : Int) + 1) = u at *
      generalize lowN k = l at *
      refine Int.le_of_mul_le_mul_right (?_ : (l + u) * Q * (q * ((k : Int) + 1)) ≤ P * 1073741824 * (q * ((k : Int) + 1))) hD
      have g1 := Int.mul_le_mul_of_nonneg_right (Int.mul_le_mul_of_nonneg_right hlo (show (0 : Int) ≤ (k : Int) + 1 by omega)) hQ
      have g2 := Int.mul_le_mul_of_nonneg_right (Int.mul_le_mul_of_nonneg_right f1 (show 0 ≤ q by omega)) hQ
      have e4 : (l + u) * Q * (q * ((k : Int) + 1)) = l * q * ((k : Int) + 1) * Q + u * ((k : Int) + 1) * q * Q := by grind
      have e5 : P * 1073741824 * (q * ((k : Int) + 1)) = p * 1073741824 * ((k : Int) + 1) * Q + 1073741824 * q * Q := by
        have : P * 1073741824 * (q * ((k : Int) + 1)) = P * (q * ((k : Int) + 1)) * 1073741824 := by grind
        rw [this, hE]; grind
      rw [e4, e5]; omega
    · rw [highN]
      generalize -(-1073741824 / ((k : Int) + 1)) = u at *
      generalize highN k = l at *
      refine Int.le_of_mul_le_mul_right (?_ : P * 1073741824 * (q * ((k : Int) + 1)) ≤ (l + u) * Q * (q * ((k : Int) + 1))) hD
      have g1 := Int.mul_le_mul_of_nonneg_right (Int.mul_le_mul_of_nonneg_right hhi (show (0 : Int) ≤ (k : Int) + 1 by omega)) hQ
      have g2 := Int.mul_le_mul_of_nonneg_right (Int.mul_le_mul_of_nonneg_right f2 (show 0 ≤ q by omega)) hQ
      have e4 : (l + u) * Q * (q * ((k : Int) + 1)) = l * q * ((k : Int) + 1) * Q + u * ((k : Int) + 1) * q * Q := by grind
      have e5 : P * 1073741824 * (q * ((k : Int) + 1)) = p * 1073741824 * ((k : Int) + 1) * Q + 1073741824 * q * Q := by
        have : P * 1073741824 * (q * ((k : Int) + 1)) = P * (q * ((k : Int) + 1)) * 1073741824 := by grind
        rw [this, hE]; grind
      rw [e4, e5]; omega
abbrev fracV (r : Int × Int × Int) : Value := .tuple #[.agg #[.int .i64 r.1, .int .i64 r.2.1], .int .i64 r.2.2]
theorem valid_i64 {p q : Int} (h : Valid p q) : I64 p ∧ I64 q := by
  obtain ⟨h1, h2, _⟩ := h
  unfold I64; omega
set_option maxHeartbeats 2000000 in
theorem harm_frac (n : Int) (w : World) : Calls Try.prog 29 #[.int .i64 n] w fun e w' => e = .returned (fracV (fracs (heldN n))) ∧ Below w.heap.size w w' := by
  have KH := Lib.hid (harm_held n)
  have hH := heldN_le n
  generalize heldN n = H at *
  go_enter Try.func29, Try.ntmps29
  go_wp2_with fail
  refine (KH.out _).mono ?_
  rintro e w1 ⟨rfl, rfl⟩
  go_wp2
  have J0 := Lib.hid ((((Keeps.start w).alloc #[.int .i64 0, .int .i64 0] 38).alloc #[.int .i64 0, .int .i64 1] 38))
  simp only [alloc_size'] at J0
  go_loopw [5, 6, 7, 11] (fun a b c iv wr => ∃ j : Nat, j ≤ H ∧ iv = .int .i64 j ∧ Hid ((fracs j).2.2 = 0) ∧ Hid (Keeps w.heap.size w [(w.heap.size + 1, #[.int .i64 (fracs j).1, .int .i64 (fracs j).2.1], 38), (w.heap.size, #[.int .i64 0, .int .i64 0], 38)] wr)) (fun _ _ _ k _ => H - (intOf k).toNat)
  case atStart => exact ⟨0, by omega, rfl, rfl, J0.out⟩
  case round =>
    obtain ⟨j, hj, rfl, HZ, J⟩ := hrel
    have hok := fracs_ok j HZ.out
    have hpq := valid_i64 hok.1
    obtain ⟨s0, s1, s2, s3⟩ := J.out.head.two
    by_cases hlt : j < H
    · have HF := Lib.hid (show fracs (j + 1) = _ from by rw [fracs, if_pos HZ.out])
      have HF : Hid (fracs (j + 1) = (doP (fracs j).1 (fracs j).2.1 1 ((j : Int) + 1) ((fracs j).1 * ((j : Int) + 1) + 1 * (fracs j).2.1) ((fracs j).2.1 * ((j : Int) + 1)),
       doQ (fracs j).1 (fracs j).2.1 1 ((j : Int) + 1) ((fracs j).1 * ((j : Int) + 1) + 1 * (fracs j).2.1) ((fracs j).2.1 * ((j : Int) + 1)),
       doE (fracs j).1 (fracs j).2.1 1 ((j : Int) + 1) ((fracs j).1 * ((j : Int) + 1) + 1 * (fracs j).2.1) ((fracs j).2.1 * ((j : Int) + 1)))) := by show _ = _; rw [fracs, if_pos HZ.out]
      have KA := Lib.hid (fun W => rat_add (fracs j).1 (fracs j).2.1 1 ((j : Int) + 1) hpq.1 hpq.2 (by unfold I64; omega) (by unfold I64; omega) W)
      have HS := Lib.hid (fracs_stay (j + 1))
      have HZ2 := Lib.hid (fracs_zero (j + 1))
      unfold doV at KA
      generalize doP (fracs j).1 (fracs j).2.1 1 ((j : Int) + 1) ((fracs j).1 * ((j : Int) + 1) + 1 * (fracs j).2.1) ((fracs j).2.1 * ((j : Int) + 1)) = P at *
      generalize doQ (fracs j).1 (fracs j).2.1 1 ((j : Int) + 1) ((fracs j).1 * ((j : Int) + 1) + 1 * (fracs j).2.1) ((fracs j).2.1 * ((j : Int) + 1)) = Q at *
      generalize doE (fracs j).1 (fracs j).2.1 1 ((j : Int) + 1) ((fracs j).1 * ((j : Int) + 1) + 1 * (fracs j).2.1) ((fracs j).2.1 * ((j : Int) + 1)) = E at *
      rw [HF.out] at HS HZ2
      clear hok hpq
      generalize (fracs j).1 = p at *
      generalize (fracs j).2.1 = q at *
      by_cases hE : E = 0
      · subst hE
        go_wp2_with fail
        refine (KA.out _).mono ?_
        rintro e w2 ⟨rfl, b2⟩
        have J2 := Lib.hid ((J.out.below b2).alloc #[.int .i64 P, .int .i64 Q] 38)
        obtain ⟨n0, n1, n2, n3⟩ := J2.out.head.two
        obtain ⟨t0, t1, t2, t3⟩ := J2.out.tail.head.two
        go_wp2
        have J3 := J2.out.tail.put2 (by omega) (by intro x hx; rw [List.mem_singleton.1 hx]; simp) (.int .i64 P) (.int .i64 Q)
        exact ⟨⟨j + 1, by omega, by go_num, by show _ = _; rw [HF.out], by rw [HF.out]; exact J3⟩, by simp [intOf]; omega⟩
      · have hne : (E != 0) = true := by simpa using hE
        go_wp2_with fail
        refine (KA.out _).mono ?_
        rintro e w2 ⟨rfl, b2⟩
        have J2 := Lib.hid ((J.out.below b2).alloc #[.int .i64 P, .int .i64 Q] 38)
        obtain ⟨n0, n1, n2, n3⟩ := J2.out.head.two
        obtain ⟨t0, t1, t2, t3⟩ := J2.out.tail.tail.head.two
        go_wp2
        obtain ⟨hP, hQ⟩ := HZ2.out hE
        have Z := J2.out.tail.tail.put2 (Nat.le_refl _) (by intro x hx; cases hx) (.int .i64 0) (.int .i64 0)
        obtain ⟨z0, z1, z2, z3⟩ := Z.head.two
        refine bodyPost_ret (v := fracV (0, 0, E)) ?_ rfl ⟨?_, Z.2.1⟩
        · simp [results, Try.results29, go_sem, z0, z1]
        · rw [HS.out hE H (by omega), hP, hQ]
    · obtain rfl : j = H := by omega
      obtain ⟨t0, t1, t2, t3⟩ := J.out.tail.head.two
      go_wp2
      have Z := J.out.tail.put2 (Nat.le_refl _) (by intro x hx; cases hx) (.int .i64 (fracs j).1) (.int .i64 (fracs j).2.1)
      obtain ⟨z0, z1, z2, z3⟩ := Z.head.two
      refine bodyPost_ret (v := .tuple #[.agg #[.int .i64 (fracs j).1, .int .i64 (fracs j).2.1], .int .i64 0]) ?_ rfl ⟨?_, Z.2.1⟩
      · simp [results, Try.results29, go_sem, z0, z1]
      · show _ = Ending.returned (.tuple #[.agg #[.int .i64 (fracs j).1, .int .i64 (fracs j).2.1], .int .i64 (fracs j).2.2])
        rw [HZ.out]
set_option maxHeartbeats 2000000 in
theorem ref5_frac (n : Int) (w : World) : Calls Try.prog 30 #[.int .i64 n] w fun e w' => e = .returned (fracV (fracs (heldN n))) ∧ Below w.heap.size w w' := by
  have KH := Lib.hid (ref5_held n)
  have hH := heldN_le n
  generalize heldN n = H at *
  go_enter Try.func30, Try.ntmps30
  go_wp2
  have J0 := Lib.hid ((((Keeps.start w).alloc #[.int .i64 0, .int .i64 0] 38).alloc #[.int .i64 0, .int .i64 1] 38))
  simp only [alloc_size'] at J0
  go_loopw [5, 6, 7] (fun iv b c wr => ∃ j : Nat, j ≤ H ∧ iv = .int .i64 ((j : Int) + 1) ∧ Hid ((fracs j).2.2 = 0) ∧ Hid (Keeps w.heap.size w [(w.heap.size + 1, #[.int .i64 (fracs j).1, .int .i64 (fracs j).2.1], 38), (w.heap.size, #[.int .i64 0, .int .i64 0], 38)] wr)) (fun k _ _ _ => H + 1 - (intOf k).toNat)
  case atStart => exact ⟨0, by omega, rfl, rfl, J0.out⟩
  case round =>
    obtain ⟨j, hj, rfl, HZ, J⟩ := hrel
    have hok := fracs_ok j HZ.out
    have hpq := valid_i64 hok.1
    obtain ⟨s0, s1, s2, s3⟩ := J.out.head.two
    by_cases hlt : j < H
    · have HF := Lib.hid (show fracs (j + 1) = _ from by rw [fracs, if_pos HZ.out])
      have HF : Hid (fracs (j + 1) = (doP (fracs j).1 (fracs j).2.1 1 ((j : Int) + 1) ((fracs j).1 * ((j : Int) + 1) + 1 * (fracs j).2.1) ((fracs j).2.1 * ((j : Int) + 1)),
       doQ (fracs j).1 (fracs j).2.1 1 ((j : Int) + 1) ((fracs j).1 * ((j : Int) + 1) + 1 * (fracs j).2.1) ((fracs j).2.1 * ((j : Int) + 1)),
       doE (fracs j).1 (fracs j).2.1 1 ((j : Int) + 1) ((fracs j).1 * ((j : Int) + 1) + 1 * (fracs j).2.1) ((fracs j).2.1 * ((j : Int) + 1)))) := by show _ = _; rw [fracs, if_pos HZ.out]
      have KA := Lib.hid (fun W => ref3_add (fracs j).1 (fracs j).2.1 1 ((j : Int) + 1) hpq.1 hpq.2 (by unfold I64; omega) (by unfold I64; omega) W)
      have HS := Lib.hid (fracs_stay (j + 1))
      have HZ2 := Lib.hid (fracs_zero (j + 1))
      unfold doV at KA
      generalize doP (fracs j).1 (fracs j).2.1 1 ((j : Int) + 1) ((fracs j).1 * ((j : Int) + 1) + 1 * (fracs j).2.1) ((fracs j).2.1 * ((j : Int) + 1)) = P at *
      generalize doQ (fracs j).1 (fracs j).2.1 1 ((j : Int) + 1) ((fracs j).1 * ((j : Int) + 1) + 1 * (fracs j).2.1) ((fracs j).2.1 * ((j : Int) + 1)) = Q at *
      generalize doE (fracs j).1 (fracs j).2.1 1 ((j : Int) + 1) ((fracs j).1 * ((j : Int) + 1) + 1 * (fracs j).2.1) ((fracs j).2.1 * ((j : Int) + 1)) = E at *
      rw [HF.out] at HS HZ2
      clear hok hpq
      generalize (fracs j).1 = p at *
      generalize (fracs j).2.1 = q at *
      have hle : (j : Int) + 1 ≤ H := by omega
      by_cases hE : E = 0
      · subst hE
        go_wp2_with fail
        refine (KH.out _).mono ?_
        rintro e w1 ⟨rfl, rfl⟩
        go_wp2_with fail
        refine (KA.out _).mono ?_
        rintro e w2 ⟨rfl, b2⟩
        have J2 := Lib.hid ((J.out.below b2).alloc #[.int .i64 P, .int .i64 Q] 38)
        obtain ⟨n0, n1, n2, n3⟩ := J2.out.head.two
        obtain ⟨t0, t1, t2, t3⟩ := J2.out.tail.head.two
        go_wp2
        have J3 := J2.out.tail.put2 (by omega) (by intro x hx; rw [List.mem_singleton.1 hx]; simp) (.int .i64 P) (.int .i64 Q)
        exact ⟨⟨j + 1, by omega, by go_num, by show _ = _; rw [HF.out], by rw [HF.out]; exact J3⟩, by simp [intOf]; omega⟩
      · have hne : (E != 0) = true := by simpa using hE
        go_wp2_with fail
        refine (KH.out _).mono ?_
        rintro e w1 ⟨rfl, rfl⟩
        go_wp2_with fail
        refine (KA.out _).mono ?_
        rintro e w2 ⟨rfl, b2⟩
        have J2 := Lib.hid ((J.out.below b2).alloc #[.int .i64 P, .int .i64 Q] 38)
        obtain ⟨n0, n1, n2, n3⟩ := J2.out.head.two
        obtain ⟨t0, t1, t2, t3⟩ := J2.out.tail.tail.head.two
        go_wp2
        obtain ⟨hP, hQ⟩ := HZ2.out hE
        have Z := J2.out.tail.tail.put2 (Nat.le_refl _) (by intro x hx; cases hx) (.int .i64 0) (.int .i64 0)
        obtain ⟨z0, z1, z2, z3⟩ := Z.head.two
        refine bodyPost_ret (v := fracV (0, 0, E)) ?_ rfl ⟨?_, Z.2.1⟩
        · simp [results, Try.results30, go_sem, z0, z1]
        · rw [HS.out hE H (by omega), hP, hQ]
    · obtain rfl : j = H := by omega
      obtain ⟨t0, t1, t2, t3⟩ := J.out.tail.head.two
      go_wp2_with fail
      refine (KH.out _).mono ?_
      rintro e w1 ⟨rfl, rfl⟩
      go_wp2
      have Z := J.out.tail.put2 (Nat.le_refl _) (by intro x hx; cases hx) (.int .i64 (fracs j).1) (.int .i64 (fracs j).2.1)
      obtain ⟨z0, z1, z2, z3⟩ := Z.head.two
      refine bodyPost_ret (v := .tuple #[.agg #[.int .i64 (fracs j).1, .int .i64 (fracs j).2.1], .int .i64 0]) ?_ rfl ⟨?_, Z.2.1⟩
      · simp [results, Try.results30, go_sem, z0, z1]
      · show _ = Ending.returned (.tuple #[.agg #[.int .i64 (fracs j).1, .int .i64 (fracs j).2.1], .int .i64 (fracs j).2.2])
        rw [HZ.out]
end Go.Proofs.Ytihfhdnldpjjdaa
