/- HarmM HarmA HarmB HarmC -/
import Derived.Test.YteenemdiokajbaaBase
import Derived.Test.YteenemdiokajbaaBigC
/-! The numbers of layer 5: harmonic sums rounded down and up, the bounds of the average, what lies between, and the exact sums. -/
namespace Go.Proofs.Yteenemdiokajbaa
set_option linter.unusedVariables false
set_option linter.unusedSimpArgs false

def lowN : Nat → Int
  | 0 => 0
  | k + 1 => lowN k + 1073741824 / ((k : Int) + 1)
def highN : Nat → Int
  | 0 => 0
  | k + 1 => highN k + -(-1073741824 / ((k : Int) + 1))
/-- a number of points, as calls take it -/
def heldN (n : Int) : Nat := if n < 0 then 0 else if 256 < n then 256 else n.toNat
theorem heldN_le (n : Int) : heldN n ≤ 256 := by unfold heldN; split <;> (try split) <;> omega
def endLo (n : Nat) : Int := if n < 2 then 0 else 2 * lowN (n - 1) - -(-(2147483648 * ((n : Int) - 1)) / n)
def endHi (n : Nat) : Int := if n < 2 then 0 else 2 * highN (n - 1) - 2147483648 * ((n : Int) - 1) / n
def normN (n : Nat) : Int := (endLo n + endHi n) / 2
/-- the harmonic number, exactly: what is divided by what -/
def lowF : Nat → Int
  | 0 => 1
  | k + 1 => lowF k * ((k : Int) + 1)
def topF : Nat → Int
  | 0 => 0
  | k + 1 => topF k * ((k : Int) + 1) + lowF k

theorem lowN_bd : ∀ k : Nat, 0 ≤ lowN k ∧ lowN k ≤ 1073741824 * k
  | 0 => by simp [lowN]
  | k + 1 => by
    have ih := lowN_bd k
    have h0 : 0 ≤ 1073741824 / ((k : Int) + 1) := Int.ediv_nonneg (by omega) (by omega)
    have h1 : 1073741824 / ((k : Int) + 1) ≤ 1073741824 := Int.ediv_le_self _ (by omega)
    rw [lowN]; omega
theorem ceil_facts (a : Int) {b : Int} (hb : 0 < b) : a ≤ -(-a / b) * b ∧ -(-a / b) * b < a + b := by
  have h := Int.mul_ediv_add_emod (-a) b
  have h0 := Int.emod_nonneg (-a) (show b ≠ 0 by omega)
  have h1 := Int.emod_lt_of_pos (-a) hb
  rw [Int.neg_mul, Int.mul_comm]
  omega
theorem ceil_step {k : Nat} : 0 ≤ -(-1073741824 / ((k : Int) + 1)) - 1073741824 / ((k : Int) + 1) ∧ -(-1073741824 / ((k : Int) + 1)) - 1073741824 / ((k : Int) + 1) ≤ 1 := by
  have h : -(-1073741824 / ((k : Int) + 1)) = 1073741824 / ((k : Int) + 1) + (if 1073741824 % ((k : Int) + 1) = 0 then 0 else 1) := neg_ediv_of (a := 1073741824) (b := (k : Int) + 1) (by omega)
  rw [h]; split <;> omega
theorem high_low : ∀ k : Nat, 0 ≤ highN k - lowN k ∧ highN k - lowN k ≤ k
  | 0 => by simp [lowN, highN]
  | k + 1 => by
    have ih := high_low k
    have h := ceil_step (k := k)
    rw [lowN, highN]; omega
theorem highN_bd (k : Nat) : 0 ≤ highN k ∧ highN k ≤ 1073741825 * k := by
  have := lowN_bd k
  have := high_low k
  omega
theorem lowF_pos : ∀ k : Nat, 0 < lowF k
  | 0 => by simp [lowF]
  | k + 1 => by rw [lowF]; exact Int.mul_pos (lowF_pos k) (by omega)
theorem topF_nonneg : ∀ k : Nat, 0 ≤ topF k
  | 0 => by simp [topF]
  | k + 1 => by
    rw [topF]
    have := lowF_pos k
    have := Int.mul_nonneg (topF_nonneg k) (show (0 : Int) ≤ (k : Int) + 1 by omega)
    omega
theorem topF_le : ∀ k : Nat, topF k ≤ k * lowF k
  | 0 => by simp [topF]
  | k + 1 => by
    rw [topF, lowF]
    have ih := Int.mul_le_mul_of_nonneg_right (topF_le k) (show (0 : Int) ≤ (k : Int) + 1 by omega)
    have hp := lowF_pos k
    have h2 : (k : Int) * lowF k * ((k : Int) + 1) + lowF k ≤ ((k : Int) + 1) * (lowF k * ((k : Int) + 1)) := by
      have h3 : ((k : Int) + 1) * (lowF k * ((k : Int) + 1)) = (k : Int) * lowF k * ((k : Int) + 1) + lowF k * ((k : Int) + 1) := by grind
      have h4 : lowF k * 1 ≤ lowF k * ((k : Int) + 1) := Int.mul_le_mul_of_nonneg_left (by omega) (by omega)
      omega
    push_cast
    omega
theorem topF_ge : ∀ k : Nat, lowF (k + 1) ≤ topF (k + 1)
  | 0 => by simp [topF, lowF]
  | k + 1 => by
    have ih := Int.mul_le_mul_of_nonneg_right (topF_ge k) (show (0 : Int) ≤ ((k + 1 : Nat) : Int) + 1 by omega)
    have hp := lowF_pos (k + 1)
    rw [topF, lowF]; omega
theorem enclose_lo : ∀ k : Nat, lowN k * lowF k ≤ topF k * 1073741824
  | 0 => by simp [lowN, topF]
  | k + 1 => by
    rw [lowN, lowF, topF]
    have ih := Int.mul_le_mul_of_nonneg_right (enclose_lo k) (show (0 : Int) ≤ (k : Int) + 1 by omega)
    have hp := lowF_pos k
    have h := Int.mul_le_mul_of_nonneg_right (Int.ediv_mul_le 1073741824 (show (k : Int) + 1 ≠ 0 by omega)) (show 0 ≤ lowF k by omega)
    generalize 1073741824 / ((k : Int) + 1) = q at *
    generalize lowF k = f at *
    generalize topF k = t at *
    generalize lowN k = l at *
    have e1 : (l + q) * (f * ((k : Int) + 1)) = l * f * ((k : Int) + 1) + q * ((k : Int) + 1) * f := by grind
    have e2 : (t * ((k : Int) + 1) + f) * 1073741824 = t * 1073741824 * ((k : Int) + 1) + 1073741824 * f := by grind
    rw [e1, e2]; omega
theorem enclose_hi : ∀ k : Nat, topF k * 1073741824 ≤ highN k * lowF k
  | 0 => by simp [highN, topF]
  | k + 1 => by
    rw [highN, lowF, topF]
    have ih := Int.mul_le_mul_of_nonneg_right (enclose_hi k) (show (0 : Int) ≤ (k : Int) + 1 by omega)
    have hp := lowF_pos k
    have h := Int.mul_le_mul_of_nonneg_right (ceil_facts 1073741824 (show 0 < (k : Int) + 1 by omega)).1 (show 0 ≤ lowF k by omega)
    generalize -(-1073741824 / ((k : Int) + 1)) = q at *
    generalize lowF k = f at *
    generalize topF k = t at *
    generalize highN k = l at *
    have e1 : (l + q) * (f * ((k : Int) + 1)) = l * f * ((k : Int) + 1) + q * ((k : Int) + 1) * f := by grind
    have e2 : (t * ((k : Int) + 1) + f) * 1073741824 = t * 1073741824 * ((k : Int) + 1) + 1073741824 * f := by grind
    rw [e1, e2]; omega
theorem means_lo {k : Nat} (h2 : 2 ≤ k) : endLo k * (lowF (k - 1) * k) ≤ (topF (k - 1) * k - lowF (k - 1) * ((k : Int) - 1)) * 2 * 1073741824 := by
  obtain ⟨j, rfl⟩ : ∃ j, k = j + 1 := ⟨k - 1, by omega⟩
  unfold endLo
  rw [if_neg (by omega), show j + 1 - 1 = j from rfl]
  have ih := Int.mul_le_mul_of_nonneg_right (enclose_lo j) (show (0 : Int) ≤ ((j + 1 : Nat) : Int) by omega)
  have hp := lowF_pos j
  have h := Int.mul_le_mul_of_nonneg_right (ceil_facts (2147483648 * (((j + 1 : Nat) : Int) - 1)) (show 0 < ((j + 1 : Nat) : Int) by omega)).1 (show 0 ≤ lowF j by omega)
  generalize -(-(2147483648 * (((j + 1 : Nat) : Int) - 1)) / ((j + 1 : Nat) : Int)) = q at *
  generalize lowF j = f at *
  generalize topF j = t at *
  generalize lowN j = l at *
  generalize ((j + 1 : Nat) : Int) = m at *
  have e1 : (2 * l - q) * (f * m) = 2 * (l * f * m) - q * m * f := by grind
  have e2 : (t * m - f * (m - 1)) * 2 * 1073741824 = 2 * (t * 1073741824 * m) - 2147483648 * (m - 1) * f := by grind
  rw [e1, e2]; omega
theorem means_hi {k : Nat} (h2 : 2 ≤ k) : (topF (k - 1) * k - lowF (k - 1) * ((k : Int) - 1)) * 2 * 1073741824 ≤ endHi k * (lowF (k - 1) * k) := by
  obtain ⟨j, rfl⟩ : ∃ j, k = j + 1 := ⟨k - 1, by omega⟩
  unfold endHi
  rw [if_neg (by omega), show j + 1 - 1 = j from rfl]
  have ih := Int.mul_le_mul_of_nonneg_right (enclose_hi j) (show (0 : Int) ≤ ((j + 1 : Nat) : Int) by omega)
  have hp := lowF_pos j
  have h := Int.mul_le_mul_of_nonneg_right (Int.ediv_mul_le (2147483648 * (((j + 1 : Nat) : Int) - 1)) (show ((j + 1 : Nat) : Int) ≠ 0 by omega)) (show 0 ≤ lowF j by omega)
  generalize 2147483648 * (((j + 1 : Nat) : Int) - 1) / ((j + 1 : Nat) : Int) = q at *
  generalize lowF j = f at *
  generalize topF j = t at *
  generalize highN j = l at *
  generalize ((j + 1 : Nat) : Int) = m at *
  have e1 : (2 * l - q) * (f * m) = 2 * (l * f * m) - q * m * f := by grind
  have e2 : (t * m - f * (m - 1)) * 2 * 1073741824 = 2 * (t * 1073741824 * m) - 2147483648 * (m - 1) * f := by grind
  rw [e1, e2]; omega
theorem means_sub {k : Nat} (h2 : 2 ≤ k) : lowF (k - 1) * ((k : Int) - 1) ≤ topF (k - 1) * k := by
  obtain ⟨j, rfl⟩ : ∃ j, k = j + 1 + 1 := ⟨k - 2, by omega⟩
  rw [show j + 1 + 1 - 1 = j + 1 from rfl]
  have h := Int.mul_le_mul_of_nonneg_right (topF_ge j) (show (0 : Int) ≤ ((j + 1 + 1 : Nat) : Int) by omega)
  have hp := lowF_pos (j + 1)
  have e : lowF (j + 1) * (((j + 1 + 1 : Nat) : Int) - 1) = lowF (j + 1) * ((j + 1 + 1 : Nat) : Int) - lowF (j + 1) := by grind
  rw [e]; omega
/-- all the bounds that are told, tried one by one -/
def okEnds (n : Nat) : Bool := decide (0 ≤ endLo n) && decide (endLo n ≤ endHi n) && decide (endHi n ≤ 1000000000000)
theorem ends_ok : ∀ n, n < 257 → okEnds n = true := by decide +kernel
theorem grows_ok : ∀ n, n < 256 → 1 ≤ n → normN n < normN (n + 1) := by decide +kernel
theorem ends_bd {n : Nat} (h : n ≤ 256) : 0 ≤ endLo n ∧ endLo n ≤ endHi n ∧ endHi n ≤ 1000000000000 := by
  have := ends_ok n (by omega)
  unfold okEnds at this
  simp at this
  omega
end Go.Proofs.Yteenemdiokajbaa
/-! Package harm: held, with, upTo, Low, High, ends, Ends, middle, Norm. -/
namespace Go.Proofs.Yteenemdiokajbaa
open Go.RowKit
set_option linter.unusedVariables false
set_option linter.unusedSimpArgs false
set_option maxRecDepth 100000

theorem i64w (x : Int) : IntKind.i64.wrap x = (x + 9223372036854775808) % 18446744073709551616 - 9223372036854775808 := by
  simp [IntKind.wrap, IntKind.bits, IntKind.signed]
  split <;> omega
theorem harm_held (n : Int) (w : World) : Calls Try.prog 96 #[.int .i64 n] w fun e w' => e = .returned (.int .i64 (heldN n)) ∧ w = w' := by
  have h : Hid ((if n < 0 then 0 else if n > 256 then 256 else n) = (heldN n : Int)) := by
    show _ = _
    unfold heldN; split <;> (try split) <;> (try split) <;> omega
  generalize (heldN n : Int) = H at *
  go_enter Try.func96, Try.ntmps96
  go_wp2_with fail
  refine (num_clamp n 0 256 _).mono ?_
  rw [h.out]
  rintro e w1 ⟨rfl, rfl⟩
  go_wp2
  go_ret
  exact ⟨rfl, rfl⟩
abbrev sumsV (a b : Int) : Value := .agg #[.int .i64 a, .int .i64 b]
theorem harm_with (a b : Int) (k : Nat) (w : World) (ha : 0 ≤ a ∧ a ≤ 1000000000000) (hb : 0 ≤ b ∧ b ≤ 1000000000000) (hk : k ≤ 1000) :
    Calls Try.prog 101 #[sumsV a b, .int .i64 ((k : Int) + 1)] w fun e w' => e = .returned (sumsV (a + 1073741824 / ((k : Int) + 1)) (b + -(-1073741824 / ((k : Int) + 1)))) ∧ Below w.heap.size w w' := by
  have h1 : 0 ≤ 1073741824 / ((k : Int) + 1) := Int.ediv_nonneg (by omega) (by omega)
  have h2 : 1073741824 / ((k : Int) + 1) ≤ 1073741824 := Int.ediv_le_self _ (by omega)
  have h3 := ceil_step (k := k)
  have ht : Int.tdiv 1073741824 ((k : Int) + 1) = 1073741824 / ((k : Int) + 1) := Int.tdiv_eq_ediv_of_nonneg (by omega)
  have KC := Lib.hid (num_ceil 1073741824 ((k : Int) + 1) (by unfold I64; omega))
  unfold ceilV at KC
  rw [show ceilN 1073741824 ((k : Int) + 1) = -(-1073741824 / ((k : Int) + 1)) from by unfold ceilN; rw [if_neg (by omega)], show ceilE ((k : Int) + 1) = 0 from by unfold ceilE; rw [if_neg (by omega)]] at KC
  have J0 := Lib.hid (((Keeps.start w).alloc #[.int .i64 a, .int .i64 b] 133).alloc #[.int .i64 0, .int .i64 0] 133)
  simp only [alloc_size'] at J0
  obtain ⟨r0, r1, r2, r3⟩ := J0.out.head.two
  obtain ⟨x0, x1, _, _⟩ := J0.out.tail.head.two
  have hk0 : ¬ ((k : Int) + 1 = 0) := by omega
  have w1 : IntKind.i64.wrap (1073741824 / ((k : Int) + 1)) = 1073741824 / ((k : Int) + 1) := by simp only [i64w]; omega
  have w2 : IntKind.i64.wrap (a + 1073741824 / ((k : Int) + 1)) = a + 1073741824 / ((k : Int) + 1) := by simp only [i64w]; omega
  have w3 : IntKind.i64.wrap (b + -(-1073741824 / ((k : Int) + 1))) = b + -(-1073741824 / ((k : Int) + 1)) := by simp only [i64w]; omega
  generalize -(-1073741824 / ((k : Int) + 1)) = C at *
  generalize 1073741824 / ((k : Int) + 1) = q at *
  go_enter Try.func101, Try.ntmps101
  go_wp2_with fail
  refine (KC.out _).mono ?_
  rintro e w1 ⟨rfl, rfl⟩
  go_wp2_with fail
  go_region_with (fail)
  go_wp2
  all_goals
    refine bodyPost_ret (v := sumsV (a + q) (b + C)) ?_ rfl ⟨rfl, ?_⟩
    · have h2 := heap_alloc_new (w.alloc (.cells #[.int .i64 a, .int .i64 b] 133)) (.cells #[.int .i64 (a + q), .int .i64 (b + C)] 133)
      simp [results, Try.results101, go_sem]
    · exact (((Below.refl _ _).alloc (Nat.le_refl _) _).alloc (by simp) _).drew
theorem Keeps.put2 {B : Nat} {W w : World} {g : Nat} {a b : Value} {t : TypeId} {l : List (Nat × Array Value × TypeId)} (h : Keeps B W ((g, #[a, b], t) :: l) w) (hg : B ≤ g) (hne : ∀ x ∈ l, x.1 ≠ g) (u v : Value) :
    Keeps B W ((g, #[u, v], t) :: l) ((w.setCell ⟨g, 0, none⟩ u).setCell ⟨g, 1, none⟩ v) := by
  refine ⟨fun x hx => ?_, (h.2.1.setCell (p := ⟨g, 0, none⟩) hg _).setCell (p := ⟨g, 1, none⟩) hg _, by simp; exact h.2.2⟩
  rcases List.mem_cons.1 hx with rfl | hx
  · exact h.head.set2 u v
  · exact (h.1 x (List.mem_cons_of_mem _ hx)).off2 (fun e => hne x hx e.symm) u v
theorem sum_bds {k : Nat} (h : k ≤ 256) : (0 ≤ lowN k ∧ lowN k ≤ 1000000000000) ∧ (0 ≤ highN k ∧ highN k ≤ 1000000000000) := by
  have := lowN_bd k
  have := highN_bd k
  omega
set_option maxHeartbeats 1000000 in
theorem harm_upto (n : Int) (w : World) : Calls Try.prog 98 #[.int .i64 n] w fun e w' => e = .returned (sumsV (lowN (heldN n)) (highN (heldN n))) ∧ Below w.heap.size w w' := by
  have KH := Lib.hid (harm_held n)
  have hH := heldN_le n
  generalize heldN n = H at *
  go_enter Try.func98, Try.ntmps98
  go_wp2_with fail
  refine (KH.out _).mono ?_
  rintro e w1 ⟨rfl, rfl⟩
  have J0 := Lib.hid (((Keeps.start w).alloc #[.int .i64 0, .int .i64 0] 133).alloc #[.int .i64 0, .int .i64 0] 133)
  simp only [alloc_size'] at J0
  go_wp2
  go_loopw [4, 7] (fun u i wr => ∃ k : Nat, k ≤ H ∧ i = .int .i64 k ∧ Hid (Keeps w.heap.size w [(w.heap.size + 1, #[.int .i64 (lowN k), .int .i64 (highN k)], 133), (w.heap.size, #[.int .i64 0, .int .i64 0], 133)] wr)) (fun _ i _ => H - (intOf i).toNat)
  case atStart => exact ⟨0, by omega, rfl, J0.out⟩
  case round =>
    obtain ⟨k, hk, rfl, J⟩ := hrel
    obtain ⟨s0, s1, s2, s3⟩ := J.out.head.two
    obtain ⟨r0, r1, r2, r3⟩ := J.out.tail.head.two
    by_cases hlt : k < H
    · have KW := Lib.hid (fun W => harm_with (lowN k) (highN k) k W (sum_bds (by omega)).1 (sum_bds (by omega)).2 (by omega))
      rw [show lowN k + 1073741824 / ((k : Int) + 1) = lowN (k + 1) from rfl, show highN k + -(-1073741824 / ((k : Int) + 1)) = highN (k + 1) from rfl] at KW
      have HK1 := Lib.hid (rfl : (lowN (k + 1), highN (k + 1)) = (lowN (k + 1), highN (k + 1)))
      generalize hl1 : lowN (k + 1) = L1 at *
      generalize hh1 : highN (k + 1) = H1 at *
      have HL1 := Lib.hid hl1
      have HH1 := Lib.hid hh1
      clear hl1 hh1
      go_wp2_with fail
      refine (KW.out _).mono ?_
      rintro e w2 ⟨rfl, b2⟩
      have J2 := Lib.hid (J.out.below b2)
      obtain ⟨t0, t1, t2, t3⟩ := J2.out.head.two
      go_wp2
      have HK1' : Hid (Keeps w.heap.size w [(w.heap.size + 1, #[.int .i64 L1, .int .i64 H1], 133), (w.heap.size, #[.int .i64 0, .int .i64 0], 133)] _) := J2.out.put2 (by omega) (by intro x hx; simp at hx; subst hx; simp) (.int .i64 L1) (.int .i64 H1)
      exact ⟨⟨k + 1, by omega, by go_num, by rw [HL1.out, HH1.out]; exact HK1'⟩, by simp [intOf]; omega⟩
    · obtain rfl : k = H := by omega
      go_wp2
      have Z := J.out.tail.put2 (Nat.le_refl _) (by intro x hx; simp at hx) (.int .i64 (lowN k)) (.int .i64 (highN k))
      obtain ⟨z0, z1, z2, z3⟩ := Z.head.two
      refine bodyPost_ret (v := sumsV (lowN k) (highN k)) ?_ rfl ⟨rfl, Z.2.1⟩
      simp [results, Try.results98, go_sem, z0, z1]
end Go.Proofs.Yteenemdiokajbaa
/-! Package harm: Low, High, ends, Ends, middle, Norm. -/
namespace Go.Proofs.Yteenemdiokajbaa
open Go.RowKit
set_option linter.unusedVariables false
set_option linter.unusedSimpArgs false
set_option maxRecDepth 100000

theorem field_low (a b : Int) (w : World) : (Instr.field 133 (sumsV a b) 0).run Try.prog w = .ok (.int .i64 a) w := by rfl
theorem field_high (a b : Int) (w : World) : (Instr.field 133 (sumsV a b) 1).run Try.prog w = .ok (.int .i64 b) w := by rfl
theorem below_drewH {B : Nat} {a w : World} (h : Below B a w) (n : Nat) : Below B a (w.drewN n) := ⟨h.os, h.tape, h.output, h.size, h.block⟩
theorem harm_middle (a b : Int) (w : World) (ha : 0 ≤ a ∧ a ≤ 1000000000000) (hb : 0 ≤ b ∧ b ≤ 1000000000000) : Calls Try.prog 91 #[.int .i64 a, .int .i64 b] w fun e w' => e = .returned (.int .i64 ((a + b) / 2)) ∧ w = w' := by
  have h2 : Int.tdiv (a + b) 2 = (a + b) / 2 := Int.tdiv_eq_ediv_of_nonneg (by omega)
  go_enter Try.func91, Try.ntmps91
  go_wp2
  go_ret
  refine ⟨ret1i ?_, rfl⟩
  first | omega | (simp only [i64w]; omega) | (unfold wrap64; omega) | trace_state
theorem harm_ends (m : Nat) (a b : Int) (w : World) (hm : m ≤ 256) (ha : 0 ≤ a ∧ a ≤ 1000000000000) (hb : 0 ≤ b ∧ b ≤ 1000000000000) (hab : 2 ≤ m → a = lowN (m - 1) ∧ b = highN (m - 1)) :
    Calls Try.prog 97 #[.int .i64 m, sumsV a b] w fun e w' => e = .returned (.tuple #[.int .i64 (endLo m), .int .i64 (endHi m)]) ∧ Below w.heap.size w w' := by
  have hbd := ends_bd hm
  by_cases h2 : m < 2
  · rw [show endLo m = 0 from by unfold endLo; rw [if_pos h2], show endHi m = 0 from by unfold endHi; rw [if_pos h2]]
    clear hab
    go_enter Try.func97, Try.ntmps97
    go_wp2
    go_ret2
    exact ⟨rfl, (Below.refl _ _).alloc (Nat.le_refl _) _⟩
  · obtain ⟨rfl, rfl⟩ := hab (by omega)
    have KC := Lib.hid (num_ceil (2147483648 * ((m : Int) - 1)) m (by unfold I64; omega))
    unfold ceilV at KC
    rw [show ceilN (2147483648 * ((m : Int) - 1)) m = -(-(2147483648 * ((m : Int) - 1)) / m) from by unfold ceilN; rw [if_neg (by omega)], show ceilE (m : Int) = 0 from by unfold ceilE; rw [if_neg (by omega)]] at KC
    have e1 : Hid (endLo m = 2 * lowN (m - 1) - -(-(2147483648 * ((m : Int) - 1)) / m)) := by show _ = _; unfold endLo; rw [if_neg h2]
    have e2 : Hid (endHi m = 2 * highN (m - 1) - 2147483648 * ((m : Int) - 1) / m) := by show _ = _; unfold endHi; rw [if_neg h2]
    have h3 : Int.tdiv (2147483648 * ((m : Int) - 1)) m = 2147483648 * ((m : Int) - 1) / m := Int.tdiv_eq_ediv_of_nonneg (by omega)
    have h4 : 0 ≤ 2147483648 * ((m : Int) - 1) / m := Int.ediv_nonneg (by omega) (by omega)
    have h5 : 2147483648 * ((m : Int) - 1) / m ≤ 2147483648 * ((m : Int) - 1) := Int.ediv_le_self _ (by omega)
    have h6 := neg_ediv_of (a := 2147483648 * ((m : Int) - 1)) (b := m) (by omega)
    have h7 : 0 ≤ -(-(2147483648 * ((m : Int) - 1)) / m) ∧ -(-(2147483648 * ((m : Int) - 1)) / m) ≤ 2147483648 * ((m : Int) - 1) + 1 := by rw [h6]; split <;> omega
    clear h6
    generalize lowN (m - 1) = a at *
    generalize highN (m - 1) = b at *
    have J0 := ((Keeps.start w).alloc #[.int .i64 a, .int .i64 b] 133)
    obtain ⟨x0, x1, _, _⟩ := J0.head.two
    generalize -(-(2147483648 * ((m : Int) - 1)) / m) = C at *
    generalize 2147483648 * ((m : Int) - 1) / m = q at *
    go_enter Try.func97, Try.ntmps97
    go_wp2_with fail
    refine (KC.out _).mono ?_
    rintro e w1 ⟨rfl, rfl⟩
    have hm0 : ¬ ((m : Int) = 0) := by omega
    go_wp2_with fail
    try go_quiet (fail)
    go_wp2
    go_ret2
    refine ⟨?_, ?_⟩
    · rw [e1.out, e2.out]; exact ret2i (by first | rfl | omega) (by first | rfl | omega)
    · exact below_drewH ((Below.refl _ _).alloc (Nat.le_refl _) _) nq
theorem heldN_sub (n : Nat) (h : n ≤ 256) : heldN ((n : Int) - 1) = n - 1 := by unfold heldN; split <;> (try split) <;> omega
theorem harm_Ends (n : Int) (w : World) : Calls Try.prog 92 #[.int .i64 n] w fun e w' => e = .returned (.tuple #[.int .i64 (endLo (heldN n)), .int .i64 (endHi (heldN n))]) ∧ Below w.heap.size w w' := by
  have KH := Lib.hid (harm_held n)
  have hH := heldN_le n
  generalize heldN n = m at *
  have hs := sum_bds (k := m - 1) (by omega)
  have KU := Lib.hid (harm_upto ((m : Int) - 1))
  rw [heldN_sub m hH] at KU
  have KE := Lib.hid (fun W => harm_ends m (lowN (m - 1)) (highN (m - 1)) W hH hs.1 hs.2 (fun _ => ⟨rfl, rfl⟩))
  go_enter Try.func92, Try.ntmps92
  go_wp2_with fail
  refine (KH.out _).mono ?_
  rintro e w1 ⟨rfl, rfl⟩
  go_wp2_with fail
  refine (KU.out _).mono ?_
  rintro e w1 ⟨rfl, b1⟩
  go_wp2_with fail
  refine (KE.out _).mono ?_
  rintro e w2 ⟨rfl, b2⟩
  go_wp2
  go_ret2
  exact ⟨rfl, b1.trans (b2.mono b1.size)⟩
theorem harm_norm (n : Int) (w : World) : Calls Try.prog 86 #[.int .i64 n] w fun e w' => e = .returned (.int .i64 (normN (heldN n))) ∧ Below w.heap.size w w' := by
  have K := Lib.hid (harm_Ends n)
  have hb := ends_bd (heldN_le n)
  have KM := Lib.hid (fun W => harm_middle (endLo (heldN n)) (endHi (heldN n)) W (by omega) (by omega))
  rw [show (endLo (heldN n) + endHi (heldN n)) / 2 = normN (heldN n) from rfl] at KM
  generalize heldN n = m at *
  go_enter Try.func86, Try.ntmps86
  go_wp2_with fail
  refine (K.out _).mono ?_
  rintro e w1 ⟨rfl, b1⟩
  go_wp2_with fail
  refine (KM.out _).mono ?_
  rintro e w2 ⟨rfl, rfl⟩
  go_wp2
  go_ret
  exact ⟨rfl, b1⟩
end Go.Proofs.Yteenemdiokajbaa
/-! The reference of layer 5: Held, Low, High, Ends, Norm. -/
namespace Go.Proofs.Yteenemdiokajbaa
open Go.RowKit
set_option linter.unusedVariables false
set_option linter.unusedSimpArgs false
set_option maxRecDepth 100000

theorem ref5_held (n : Int) (w : World) : Calls Try.prog 93 #[.int .i64 n] w fun e w' => e = .returned (.int .i64 (heldN n)) ∧ w = w' := by
  have h : Hid ((if n < 0 then 0 else if 256 < n then 256 else n) = (heldN n : Int)) := by
    show _ = _
    unfold heldN; split <;> (try split) <;> (try split) <;> omega
  generalize (heldN n : Int) = H at *
  go_enter Try.func93, Try.ntmps93
  go_wp2
  all_goals
    go_ret
    refine ⟨ret1i ?_, rfl⟩
    have := h.out
    split at this <;> (try split at this) <;> omega
theorem up_div (a : Int) {b : Int} (hb : 0 < b) : (a + b - 1) / b = -(-a / b) := by
  have h := ceil_facts a hb
  generalize -(-a / b) = q at *
  rw [show a + b - 1 = (a + b - 1 - q * b) + q * b from by omega, Int.add_mul_ediv_right _ _ (by omega), Int.ediv_eq_zero_of_lt (by omega) (by omega)]
  omega
theorem dreH2 (w : World) (a b : Nat) : ∃ n, (w.drewN a).drewN b = w.drewN n := ⟨_, World.drewN_drewN _ _ _⟩
set_option maxHeartbeats 1000000 in
theorem ref5_low (n : Int) (w : World) : Calls Try.prog 94 #[.int .i64 n] w fun e w' => e = .returned (.int .i64 (lowN (heldN n))) ∧ ∃ m, w' = w.drewN m := by
  have KH := Lib.hid (ref5_held n)
  have hH := heldN_le n
  generalize heldN n = H at *
  go_enter Try.func94, Try.ntmps94
  go_wp2
  go_loopw [3, 4] (fun s k wr => ∃ (j : Nat) (v : Int), j ≤ H ∧ k = .int .i64 ((j : Int) + 1) ∧ s = .int .i64 v ∧ Hid (v = lowN j) ∧ Hid (∃ m, wr = w.drewN m)) (fun _ k _ => H + 1 - (intOf k).toNat)
  case atStart => exact ⟨0, 0, by omega, rfl, rfl, rfl, ⟨0, rfl⟩⟩
  case round =>
    obtain ⟨j, v, hj, rfl, rfl, HV, HM⟩ := hrel
    have hv := sum_bds (k := j) (by omega)
    rw [← HV.out] at hv
    have ht : Int.tdiv 1073741824 ((j : Int) + 1) = 1073741824 / ((j : Int) + 1) := Int.tdiv_eq_ediv_of_nonneg (by omega)
    have h1 : 0 ≤ 1073741824 / ((j : Int) + 1) := Int.ediv_nonneg (by omega) (by omega)
    have h2 : 1073741824 / ((j : Int) + 1) ≤ 1073741824 := Int.ediv_le_self _ (by omega)
    have hj0 : ¬ ((j : Int) + 1 = 0) := by omega
    have HS : Hid (lowN (j + 1) = lowN j + 1073741824 / ((j : Int) + 1)) := rfl
    by_cases hlt : j < H
    · have hle : (j : Int) + 1 ≤ H := by omega
      generalize 1073741824 / ((j : Int) + 1) = q at *
      go_wp2_with fail
      refine (KH.out _).mono ?_
      rintro e w1 ⟨rfl, rfl⟩
      go_wp2
      refine ⟨⟨j + 1, _, by omega, by go_num, rfl, ?_, HM⟩, by simp [intOf]; omega⟩
      show _ = _
      rw [HS.out, HV.out]
    · obtain rfl : j = H := by omega
      go_wp2_with fail
      refine (KH.out _).mono ?_
      rintro e w1 ⟨rfl, rfl⟩
      go_wp2
      go_ret
      exact ⟨ret1i HV.out, HM.out⟩
set_option maxHeartbeats 1000000 in
theorem ref5_high (n : Int) (w : World) : Calls Try.prog 95 #[.int .i64 n] w fun e w' => e = .returned (.int .i64 (highN (heldN n))) ∧ ∃ m, w' = w.drewN m := by
  have KH := Lib.hid (ref5_held n)
  have hH := heldN_le n
  generalize heldN n = H at *
  go_enter Try.func95, Try.ntmps95
  go_wp2
  go_loopw [3, 4] (fun s k wr => ∃ (j : Nat) (v : Int), j ≤ H ∧ k = .int .i64 ((j : Int) + 1) ∧ s = .int .i64 v ∧ Hid (v = highN j) ∧ Hid (∃ m, wr = w.drewN m)) (fun _ k _ => H + 1 - (intOf k).toNat)
  case atStart => exact ⟨0, 0, by omega, rfl, rfl, rfl, ⟨0, rfl⟩⟩
  case round =>
    obtain ⟨j, v, hj, rfl, rfl, HV, HM⟩ := hrel
    have hv := sum_bds (k := j) (by omega)
    rw [← HV.out] at hv
    have hup := up_div 1073741824 (b := (j : Int) + 1) (by omega)
    rw [show (1073741824 : Int) + ((j : Int) + 1) - 1 = 1073741824 + (j : Int) + 1 - 1 from by omega] at hup
    have hc := ceil_step (k := j)
    have ht : Int.tdiv (1073741824 + ((j : Int) + 1) - 1) ((j : Int) + 1) = -(-1073741824 / ((j : Int) + 1)) := by
      rw [Int.tdiv_eq_ediv_of_nonneg (by omega), ← up_div 1073741824 (b := (j : Int) + 1) (by omega)]
    have h1 : 0 ≤ 1073741824 / ((j : Int) + 1) := Int.ediv_nonneg (by omega) (by omega)
    have h2 : 1073741824 / ((j : Int) + 1) ≤ 1073741824 := Int.ediv_le_self _ (by omega)
    have hj0 : ¬ ((j : Int) + 1 = 0) := by omega
    have HS : Hid (highN (j + 1) = highN j + -(-1073741824 / ((j : Int) + 1))) := rfl
    by_cases hlt : j < H
    · have hle : (j : Int) + 1 ≤ H := by omega
      clear hup
      generalize hq : -(-1073741824 / ((j : Int) + 1)) = q at *
      generalize 1073741824 / ((j : Int) + 1) = q2 at *
      clear hq
      go_wp2_with fail
      refine (KH.out _).mono ?_
      rintro e w1 ⟨rfl, rfl⟩
      go_wp2
      refine ⟨⟨j + 1, _, by omega, by go_num, rfl, ?_, HM⟩, by simp [intOf]; omega⟩
      show _ = _
      rw [HS.out, HV.out]
    · obtain rfl : j = H := by omega
      go_wp2_with fail
      refine (KH.out _).mono ?_
      rintro e w1 ⟨rfl, rfl⟩
      go_wp2
      go_ret
      exact ⟨ret1i HV.out, HM.out⟩

theorem ref5_ends (n : Int) (w : World) : Calls Try.prog 90 #[.int .i64 n] w fun e w' => e = .returned (.tuple #[.int .i64 (endLo (heldN n)), .int .i64 (endHi (heldN n))]) ∧ ∃ m, w' = w.drewN m := by
  have KH := Lib.hid (ref5_held n)
  have hH := heldN_le n
  generalize heldN n = m at *
  by_cases h2 : m < 2
  · rw [show endLo m = 0 from by unfold endLo; rw [if_pos h2], show endHi m = 0 from by unfold endHi; rw [if_pos h2]]
    go_enter Try.func90, Try.ntmps90
    go_wp2_with fail
    refine (KH.out _).mono ?_
    rintro e w1 ⟨rfl, rfl⟩
    go_wp2
    go_ret2
    exact ⟨rfl, 0, rfl⟩
  · have hbd := ends_bd hH
    have KL := Lib.hid (ref5_low ((m : Int) - 1))
    have KG := Lib.hid (ref5_high ((m : Int) - 1))
    rw [heldN_sub m hH] at KL KG
    have e1 : Hid (endLo m = 2 * lowN (m - 1) - -(-(2147483648 * ((m : Int) - 1)) / m)) := by show _ = _; unfold endLo; rw [if_neg h2]
    have e2 : Hid (endHi m = 2 * highN (m - 1) - 2147483648 * ((m : Int) - 1) / m) := by show _ = _; unfold endHi; rw [if_neg h2]
    have h3 : Int.tdiv (2147483648 * ((m : Int) - 1)) m = 2147483648 * ((m : Int) - 1) / m := Int.tdiv_eq_ediv_of_nonneg (by omega)
    have h4 : 0 ≤ 2147483648 * ((m : Int) - 1) / m := Int.ediv_nonneg (by omega) (by omega)
    have h5 : 2147483648 * ((m : Int) - 1) / m ≤ 2147483648 * ((m : Int) - 1) := Int.ediv_le_self _ (by omega)
    have h6 := neg_ediv_of (a := 2147483648 * ((m : Int) - 1)) (b := m) (by omega)
    have h7 : 0 ≤ -(-(2147483648 * ((m : Int) - 1)) / m) ∧ -(-(2147483648 * ((m : Int) - 1)) / m) ≤ 2147483648 * ((m : Int) - 1) + 1 := by rw [h6]; split <;> omega
    have h8 : Int.tdiv (2147483648 * ((m : Int) - 1) + m - 1) m = -(-(2147483648 * ((m : Int) - 1)) / m) := by
      rw [Int.tdiv_eq_ediv_of_nonneg (by omega), up_div _ (by omega)]
    have hs := sum_bds (k := m - 1) (by omega)
    clear h6
    generalize lowN (m - 1) = a at *
    generalize highN (m - 1) = b at *
    obtain ⟨⟨s1, s2⟩, s3, s4⟩ := hs
    generalize -(-(2147483648 * ((m : Int) - 1)) / m) = C at *
    generalize 2147483648 * ((m : Int) - 1) / m = q at *
    have hm0 : ¬ ((m : Int) = 0) := by omega
    go_enter Try.func90, Try.ntmps90
    go_wp2_with fail
    refine (KH.out _).mono ?_
    rintro e w1 ⟨rfl, rfl⟩
    go_wp2_with fail
    go_quiet (first | (go_at_call 94; exact Calls.quiet_of (KL.out _)) | (go_at_call 95; exact Calls.quiet_of (KG.out _)))
    go_wp2
    go_ret2
    exact ⟨by rw [e1.out, e2.out]; exact ret2i (by first | rfl | omega) (by first | rfl | omega), _, rfl⟩
theorem ref5_norm (n : Int) (w : World) : Calls Try.prog 85 #[.int .i64 n] w fun e w' => e = .returned (.int .i64 (normN (heldN n))) ∧ ∃ m, w' = w.drewN m := by
  have K := Lib.hid (ref5_ends n)
  have hb := ends_bd (heldN_le n)
  have HN : Hid ((endLo (heldN n) + endHi (heldN n)) / 2 = normN (heldN n)) := rfl
  have h2 : Int.tdiv (endLo (heldN n) + endHi (heldN n)) 2 = (endLo (heldN n) + endHi (heldN n)) / 2 := Int.tdiv_eq_ediv_of_nonneg (by omega)
  generalize normN (heldN n) = z at *
  generalize endLo (heldN n) = x at *
  generalize endHi (heldN n) = y at *
  go_enter Try.func85, Try.ntmps85
  go_wp2_with fail
  refine (K.out _).mono ?_
  rintro e w1 ⟨rfl, m, rfl⟩
  go_wp2
  go_ret
  exact ⟨by rw [← HN.out]; rfl, _, rfl⟩
end Go.Proofs.Yteenemdiokajbaa
