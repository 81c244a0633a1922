/- The contract of copseref03.Order. -/
import Derived.Test.YtihfhdnldpjjdaaRatA
import Derived.Test.YtihfhdnldpjjdaaWideP
namespace Go.Proofs.Ytihfhdnldpjjdaa
open Go.RowKit

set_option maxHeartbeats 1000000 in
theorem ref3_order_in (a d c b : Int) (ha : I64 a) (hd : I64 d) (hc : I64 c) (hb : I64 b) (hd1 : ¬ d < 1) (hb1 : ¬ b < 1) (w : World) :
    Calls Try.prog 31 #[.int .i64 a, .int .i64 d, .int .i64 c, .int .i64 b] w fun e w' => e = .returned (orV a d c b) ∧ Below w.heap.size w w' := by
  have E1 : Hid (orN a d c b = cmpI (a * b) (c * d)) := by show _ = _; unfold orN; rw [if_neg (by omega)]
  have E2 : Hid (orE d b = 0) := by show _ = _; unfold orE; rw [if_neg (by omega)]
  have la := len_i64 ha
  have lb := len_i64 hb
  have lc := len_i64 hc
  have ld := len_i64 hd
  have lp := len_prod ha hb
  have lq := len_prod hc hd
  have bp := mul_bd a b ha hb
  have bq := mul_bd c d hc hd
  go_enter Try.func31, Try.ntmps31
  go_wp2_with fail
  refine (int_z a ha _).mono ?_
  rintro e w1 ⟨n1, A1, c1, rfl, s1, L1, b1⟩
  go_wp2_with fail
  refine (int_z b hb _).mono ?_
  rintro e w2 ⟨n2, A2, c2, rfl, s2, L2, b2⟩
  go_wp2_with fail
  refine (product_z n1 n2 a b A1 A2 c1 c2 _ s1 s2 ((L1.below b2).mono b2.size) L2 (by omega)).mono ?_
  rintro e w3 ⟨n3, A3, c3, rfl, s3, L3, b3⟩
  go_wp2_with fail
  refine (int_z c hc _).mono ?_
  rintro e w4 ⟨n4, A4, c4, rfl, s4, L4, b4⟩
  go_wp2_with fail
  refine (int_z d hd _).mono ?_
  rintro e w5 ⟨n5, A5, c5, rfl, s5, L5, b5⟩
  go_wp2_with fail
  refine (product_z n4 n5 c d A4 A5 c4 c5 _ s4 s5 ((L4.below b5).mono b5.size) L5 (by omega)).mono ?_
  rintro e w6 ⟨n6, A6, c6, rfl, s6, L6, b6⟩
  have e3 := (b4.trans (b5.mono b4.size)).trans (b6.mono (b4.trans (b5.mono b4.size)).size)
  have M3 := (L3.below e3).mono e3.size
  have e0 := (b1.trans (b2.mono b1.size)).trans (b3.mono (b1.trans (b2.mono b1.size)).size)
  have e6 := e0.trans (e3.mono e0.size)
  generalize hP : a * b = P at *
  generalize hQ : c * d = Q at *
  have HP := Lib.hid hP
  have HQ := Lib.hid hQ
  clear hP hQ
  go_wp2_with fail
  refine (turn_b n6 Q A6 c6 _ s6 L6).mono ?_
  rintro e w7 ⟨n7, A7, c7, rfl, s7, L7, b7⟩
  have e7 := e6.trans (b7.mono e6.size)
  go_wp2_with fail
  refine (both_b n3 n7 P Q A3 A7 c3 c7 _ s3 s7 ((M3.below b7).mono b7.size) L7 (by omega)).mono ?_
  rintro e w8 ⟨n8, A8, c8, rfl, s8, L8, b8⟩
  have e8 := e7.trans (b8.mono e7.size)
  have ln := len_diff bp bq
  have S8 := Lib.hid s8
  have lz := digs_len_0 (n := ((P - Q).natAbs : Int)) (by omega)
  have LZ := Lib.hid lz
  clear L1 L2 L3 L4 L5 L6 L7 L8 M3 s1 s2 s3 s4 s5 s6 s7 s8 la lb lc ld lp lq lz
  have hcas := cmp_cases P Q
  by_cases hPQ : P = Q
  · have h0 : (digs ((P - Q).natAbs : Int)).length = 0 := LZ.out.2 (by omega)
    have HC : Hid (cmpI P Q = 0) := by rcases hcas with ⟨h, e⟩ | ⟨h, e⟩ | ⟨h, e⟩ <;> first | exact e | omega
    rw [h0]
    clear hcas h0
    go_wp2
    go_ret2
    exact ⟨ret2 (by rw [E1.out]; exact HC.out.symm) E2.out.symm, e8.alloc e8.size _⟩
  · have h0 : 0 < (digs ((P - Q).natAbs : Int)).length := by
      rcases Nat.eq_zero_or_pos (digs ((P - Q).natAbs : Int)).length with h | h
      · have := LZ.out.1 h; omega
      · exact h
    have hn8 := S8.out (by omega)
    generalize (digs ((P - Q).natAbs : Int)).length = N at *
    have h0b : ((N : Int) == 0) = false := by simp; omega
    by_cases hlt : P < Q
    · have HC : Hid (cmpI P Q = -1) := by rcases hcas with ⟨h, e⟩ | ⟨h, e⟩ | ⟨h, e⟩ <;> first | exact e | omega
      have h8 : n8 = true := by rw [hn8]; simp; omega
      subst h8
      clear hcas hn8
      go_wp2
      go_ret2
      exact ⟨ret2 (by rw [E1.out]; exact HC.out.symm) E2.out.symm, e8.alloc e8.size _⟩
    · have HC : Hid (cmpI P Q = 1) := by rcases hcas with ⟨h, e⟩ | ⟨h, e⟩ | ⟨h, e⟩ <;> first | exact e | omega
      have h8 : n8 = false := by rw [hn8]; simp; omega
      subst h8
      clear hcas hn8
      go_wp2
      go_ret2
      exact ⟨ret2 (by rw [E1.out]; exact HC.out.symm) E2.out.symm, e8.alloc e8.size _⟩
theorem ref3_order (p q r s : Int) (hp : I64 p) (hq : I64 q) (hr : I64 r) (hs : I64 s) (w : World) :
    Calls Try.prog 31 #[.int .i64 p, .int .i64 q, .int .i64 r, .int .i64 s] w fun e w' => e = .returned (orV p q r s) ∧ Below w.heap.size w w' := by
  by_cases h1 : q < 1
  · have e1 : Hid (orN p q r s = 0) := by show _ = _; unfold orN; rw [if_pos (.inl h1)]
    have e2 : Hid (orE q s = 1) := by show _ = _; unfold orE; rw [if_pos (.inl h1)]
    go_enter Try.func31, Try.ntmps31
    go_wp2
    go_ret2
    exact ⟨ret2 e1.out.symm e2.out.symm, Below.refl _ _⟩
  · by_cases h2 : s < 1
    · have e1 : Hid (orN p q r s = 0) := by show _ = _; unfold orN; rw [if_pos (.inr h2)]
      have e2 : Hid (orE q s = 1) := by show _ = _; unfold orE; rw [if_pos (.inr h2)]
      go_enter Try.func31, Try.ntmps31
      go_wp2
      go_ret2
      exact ⟨ret2 e1.out.symm e2.out.symm, Below.refl _ _⟩
    · exact ref3_order_in p q r s hp hq hr hs h1 h2 w
end Go.Proofs.Ytihfhdnldpjjdaa
