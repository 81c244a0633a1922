/- Contracts of copseref03: Ceil, Part, Floor. -/
import Derived.Test.YtbnpbflndnjmcaaDoorRatK
namespace Go.Proofs.YtbnpbflndnjmcaaDoor
open Go.RowKit

set_option maxHeartbeats 2000000 in
theorem ref3_ceil (p q : Int) (hp : I64 p) (hq : I64 q) (w : World) :
    Calls Tryd.prog 25 #[.agg #[.int .i64 p, .int .i64 q]] w fun e w' => e = .returned (ceV p q) ∧ Below w.heap.size w w' := by
  have KA := Lib.hid (fun W => ref3_is p q hp hq W)
  have J0 := Lib.hid ((Keeps.start w).alloc #[.int .i64 p, .int .i64 q] 23)
  by_cases hv : Valid p q
  · have KP : Hid (∀ W, Calls Tryd.prog 46 #[.int .i64 p, .int .i64 q] W fun e w' => e = .returned (.tuple #[.int .i64 (-(-p / q)), .int .i64 0]) ∧ Below W.heap.size W w') := by
      intro W
      have := ref_ceil p q hp hq W
      rw [← ceilV_1 (by have := hv.1; omega) rfl] at this
      exact this
    have e1 : Hid (ceN p q = -(-p / q)) := by show _ = _; unfold ceN; rw [if_pos hv]
    have e2 : Hid (wholeE p q = 0) := by show _ = _; unfold wholeE; rw [if_pos hv]
    have VA := Lib.hid (isB_of hv)
    clear hv
    generalize -(-p / q) = m at *
    go_enter Tryd.func25, Tryd.ntmps25
    go_wp2_with fail
    refine (KA.out _).mono ?_
    rintro r w1 ⟨rfl, b⟩
    rw [VA.out]
    have J1 := Lib.hid (J0.out.below b)
    obtain ⟨x0, x1, _, _⟩ := J1.out.head.two
    clear b
    go_wp2_with fail
    refine (KP.out _).mono ?_
    rintro e w2 ⟨rfl, b⟩
    go_wp2
    go_ret2
    exact ⟨ret2 e1.out.symm e2.out.symm, (J1.out.below b).2.1⟩
  · have e1 : Hid (ceN p q = 0) := by show _ = _; unfold ceN; rw [if_neg hv]
    have e2 : Hid (wholeE p q = 30) := by show _ = _; unfold wholeE; rw [if_neg hv]
    have VA := Lib.hid (isB_not hv)
    clear hv
    go_enter Tryd.func25, Tryd.ntmps25
    go_wp2_with fail
    refine (KA.out _).mono ?_
    rintro r w1 ⟨rfl, b⟩
    rw [VA.out]
    have J1 := Lib.hid (J0.out.below b)
    clear b
    go_wp2
    go_ret2
    exact ⟨ret2 e1.out.symm e2.out.symm, J1.out.2.1⟩

set_option maxHeartbeats 2000000 in
theorem ref3_pa (n p q : Int) (hn : I64 n) (hp : I64 p) (hq : I64 q) (w : World) :
    Calls Tryd.prog 27 #[.int .i64 n, .agg #[.int .i64 p, .int .i64 q]] w fun e w' => e = .returned (paV n p q) ∧ Below w.heap.size w w' := by
  have KA := Lib.hid (fun W => ref3_is p q hp hq W)
  have J0 := Lib.hid ((Keeps.start w).alloc #[.int .i64 p, .int .i64 q] 23)
  by_cases hv : Valid p q
  · have q1 := hv.1
    have q2 := hv.2.1
    have hr : 0 ≤ n % q ∧ n % q < q := ⟨Int.emod_nonneg _ (by omega), Int.emod_lt_of_pos _ (by omega)⟩
    have hb := prod_bd (a := n % q) (b := p) (by omega) q2
    have K1 : Hid (∀ W, Calls Tryd.prog 48 #[.int .i64 n, .int .i64 q] W fun e w' => e = .returned (.tuple #[.int .i64 (n / q), .int .i64 (n % q), .int .i64 0]) ∧ Below W.heap.size W w') := by
      intro W
      have := ref_div n q hn hq W
      rw [← divV_ok (by omega) (by omega) rfl rfl] at this
      exact this
    have K2 : Hid (∀ W, Calls Tryd.prog 48 #[.int .i64 (n % q * p), .int .i64 q] W fun e w' => e = .returned (.tuple #[.int .i64 (n % q * p / q), .int .i64 (n % q * p % q), .int .i64 0]) ∧ Below W.heap.size W w') := by
      intro W
      have := ref_div (n % q * p) q (by unfold I64; omega) hq W
      rw [← divV_ok (by omega) (by omega) rfl rfl] at this
      exact this
    have i1 : I64 (n / q) := by
      unfold I64 at *
      have h1 := Int.mul_ediv_add_emod n q
      refine ⟨?_, ?_⟩
      · rcases Int.lt_or_le n 0 with h | h
        · have := Int.ediv_le_ediv (c := q) (by omega) (show -9223372036854775808 ≤ n by omega)
          refine Int.le_trans ?_ this
          exact Int.le_ediv_of_mul_le (by omega) (by omega)
        · have := Int.ediv_nonneg h (show 0 ≤ q by omega); omega
      · rcases Int.lt_or_le n 0 with h | h
        · have := Int.ediv_neg_of_neg_of_pos h (show 0 < q by omega); omega
        · have := Int.ediv_le_self q h; omega
    have i2 : I64 (n % q * p / q) := by
      unfold I64
      refine ⟨?_, ?_⟩
      · exact Int.le_ediv_of_mul_le (by omega) (by omega)
      · rcases Int.lt_or_le (n % q * p) 0 with h | h
        · have := Int.ediv_neg_of_neg_of_pos h (show 0 < q by omega); omega
        · have := Int.ediv_le_self q h; omega
    have hs : Hid (n / q * p + n % q * p / q = n * p / q) := by
      show _ = _
      rw [part_split n p q (by omega)]
    have e1 : Hid (paN n p q = fitN (n * p / q)) := by show _ = _; unfold paN; rw [if_pos hv]
    have e2 : Hid (paE n p q = fitE (n * p / q)) := by show _ = _; unfold paE; rw [if_pos hv]
    have VA := Lib.hid (isB_of hv)
    have la := len_i64 i1
    have lb := len_i64 hp
    have lp := len_prod i1 hp
    have lc := len_i64 i2
    have ls : (digs (n / q * p + n % q * p / q).natAbs).length ≤ 9 := digs_len _ 9 (by have := mul_bd _ _ i1 hp; unfold I64 at i2; unfold pw; omega)
    rw [← hs.out] at e1 e2
    have KI1 := Lib.hid (fun W => int_z _ i1 W)
    have KI2 := Lib.hid (fun W => int_z _ hp W)
    have KI3 := Lib.hid (fun W => int_z _ i2 W)
    clear hv q1 q2 i1 i2 hs
    obtain ⟨hb1, hb2⟩ := hb
    go_enter Tryd.func27, Tryd.ntmps27
    go_wp2_with fail
    refine (KA.out _).mono ?_
    rintro r w1 ⟨rfl, b⟩
    rw [VA.out]
    have J1 := Lib.hid (J0.out.below b)
    obtain ⟨x0, x1, _, _⟩ := J1.out.head.two
    clear b
    go_wp2_with fail
    refine (K1.out _).mono ?_
    rintro e w2 ⟨rfl, b⟩
    have J2 := Lib.hid (J1.out.below b)
    obtain ⟨x0, x1, _, _⟩ := J2.out.head.two
    clear b
    go_wp2_with fail
    refine (K2.out _).mono ?_
    rintro e w3 ⟨rfl, b⟩
    have J := Lib.hid (J2.out.below b).drew
    clear b
    go_wp2
    obtain ⟨x0, x1, _, _⟩ := J.out.head.two
    go_region_held3 (fun wr => wr.cell? ⟨w.heap.size, 0, none⟩ = some (.int .i64 p) ∧ wr.cell? ⟨w.heap.size, 1, none⟩ = some (.int .i64 q)) (go_keep)
      (first
        | (go_at_call 41; ((with_reducible refine (KI1.out _).mono ?_); rintro e w4 ⟨n1, A1, c1, rfl, s1, L1, b1⟩; have J := Lib.hid (J.out.below b1); obtain ⟨x0, x1, _, _⟩ := J.out.head.two))
        | (go_at_call 41; ((with_reducible refine (KI2.out _).mono ?_); rintro e w5 ⟨n2, A2, c2, rfl, s2, L2, b2⟩; have J := Lib.hid (J.out.below b2); obtain ⟨x0, x1, _, _⟩ := J.out.head.two))
        | (go_at_call 40; refine (product_z n1 n2 _ _ A1 A2 c1 c2 _ s1 s2 ((L1.below b2).mono b2.size) L2 (by omega)).mono ?_; rintro e w6 ⟨n3, A3, c3, rfl, s3, L3, b3⟩; have J := Lib.hid (J.out.below b3); obtain ⟨x0, x1, _, _⟩ := J.out.head.two)
        | (go_at_call 41; ((with_reducible refine (KI3.out _).mono ?_); rintro e w7 ⟨n4, A4, c4, rfl, s4, L4, b4⟩; have J := Lib.hid (J.out.below b4); obtain ⟨x0, x1, _, _⟩ := J.out.head.two))
        | (go_at_call 39; refine (both_z n3 n4 _ _ A3 A4 c3 c4 _ s3 s4 ((L3.below b4).mono b4.size) L4 (by omega)).mono ?_; rintro e w8 ⟨n5, A5, c5, rfl, s5, L5, b5⟩; have J := Lib.hid (J.out.below b5); obtain ⟨x0, x1, _, _⟩ := J.out.head.two)
        | (go_at_call 49; refine (fits_z _ _ A5 c5 _ s5 L5 (by omega)).mono ?_; rintro e w9 ⟨rfl, b6⟩; have J := Lib.hid (J.out.below b6); obtain ⟨x0, x1, _, _⟩ := J.out.head.two))
    all_goals
      go_wp2
      go_ret2
      exact ⟨ret2 e1.out.symm e2.out.symm, J.out.2.1⟩
  · have e1 : Hid (paN n p q = 0) := by show _ = _; unfold paN; rw [if_neg hv]
    have e2 : Hid (paE n p q = 30) := by show _ = _; unfold paE; rw [if_neg hv]
    have VA := Lib.hid (isB_not hv)
    clear hv
    go_enter Tryd.func27, Tryd.ntmps27
    go_wp2_with fail
    refine (KA.out _).mono ?_
    rintro r w1 ⟨rfl, b⟩
    rw [VA.out]
    have J1 := Lib.hid (J0.out.below b)
    clear b
    go_wp2
    go_ret2
    exact ⟨ret2 e1.out.symm e2.out.symm, J1.out.2.1⟩
theorem ref3_floor (p q : Int) (hp : I64 p) (hq : I64 q) (w : World) :
    Calls Tryd.prog 23 #[.agg #[.int .i64 p, .int .i64 q]] w fun e w' => e = .returned (paV 1 p q) ∧ Below w.heap.size w w' := by
  have K := Lib.hid (fun W => ref3_pa 1 p q (by unfold I64; omega) hp hq W)
  have J0 := Lib.hid ((Keeps.start w).alloc #[.int .i64 p, .int .i64 q] 23)
  go_enter Tryd.func23, Tryd.ntmps23
  go_wp2_with fail
  refine (K.out _).mono ?_
  rintro e w2 ⟨rfl, c2⟩
  go_wp2
  go_ret2
  exact ⟨rfl, (J0.out.below c2).2.1⟩
/-- the numbers next to a ratio -/
theorem next_to (p q : Int) : (paE 1 p q ≠ 0) ∨ (paE 1 p q = 0 ∧ paN 1 p q ≤ ceN p q ∧ ceN p q ≤ paN 1 p q + 1 ∧ -1073741824 ≤ paN 1 p q ∧ paN 1 p q ≤ 1073741824) := by
  by_cases hv : Valid p q
  · have q1 := hv.1
    have q2 := hv.2.1
    have h1 : -1073741824 ≤ p / q := Int.le_ediv_of_mul_le (by omega) (by omega)
    have h2 : p / q ≤ 1073741824 := by
      rcases Int.lt_or_le p 0 with h | h
      · have := Int.ediv_neg_of_neg_of_pos h (show 0 < q by omega); omega
      · have := Int.ediv_le_self q h; omega
    have h3 := neg_ediv_of (a := p) (b := q) (by omega)
    refine .inr ?_
    unfold paE paN ceN
    rw [if_pos hv, if_pos hv, if_pos hv, Int.one_mul, h3]
    unfold fitE fitN
    rw [if_pos (by omega), if_pos (by omega)]
    refine ⟨rfl, ?_, ?_, h1, h2⟩ <;> split <;> omega
  · refine .inl ?_
    unfold paE
    rw [if_neg hv]
    omega
end Go.Proofs.YtbnpbflndnjmcaaDoor
