import Derived.Test.YtihfhdnldpjjdaaHarmF
import Derived.Test.YtihfhdnldpjjdaaBigC

/-! Big numbers of up to 400 digits; the exact harmonic sums of the statements. -/
namespace Go.Proofs.Ytihfhdnldpjjdaa
open Go.RowKit
set_option linter.unusedVariables false
set_option linter.unusedSimpArgs false

theorem bigl_plus {a b : Int} {va vb : Value} {w : World} (ha : IsBig w a va) (hb : IsBig w b vb) (la : a < pw 400) (lb : b < pw 400) : Calls Try.prog 46 #[va, vb] w (GivesB (a + b) w) := by
  obtain ⟨a0, A, c, rfl, LA⟩ := ha
  obtain ⟨b0, B, d, rfl, LB⟩ := hb
  have h := ref_plus A B (digs a) (digs b) c d w LA LB (dig_digs _) (dig_digs _) (by have := digs_len a 400 la; have := digs_len b 400 lb; omega)
  rw [val_digs a a0, val_digs b b0] at h
  exact h.mono fun _ _ g => givesB (by omega) g
theorem bigl_minus {a b : Int} {va vb : Value} {w : World} (ha : IsBig w a va) (hb : IsBig w b vb) (la : a < pw 400) (hle : b ≤ a) : Calls Try.prog 28 #[va, vb] w (GivesB (a - b) w) := by
  obtain ⟨a0, A, c, rfl, LA⟩ := ha
  obtain ⟨b0, B, d, rfl, LB⟩ := hb
  have h := ref_minus A B (digs a) (digs b) c d w LA LB (dig_digs _) (dig_digs _) (by have := digs_len a 400 la; omega) (by rw [val_digs a a0, val_digs b b0]; exact hle)
  rw [val_digs a a0, val_digs b b0] at h
  exact h.mono fun _ _ g => givesB (by omega) g
theorem bigl_times {a b : Int} {va vb : Value} {w : World} (ha : IsBig w a va) (hb : IsBig w b vb) (la : a < pw 400) (lb : b < pw 400) : Calls Try.prog 25 #[va, vb] w (GivesB (a * b) w) := by
  obtain ⟨a0, A, c, rfl, LA⟩ := ha
  obtain ⟨b0, B, d, rfl, LB⟩ := hb
  have h := ref_times A B (digs a) (digs b) c d w LA LB (dig_digs _) (dig_digs _) (by have := digs_len a 400 la; have := digs_len b 400 lb; omega)
  rw [val_digs a a0, val_digs b b0] at h
  exact h.mono fun _ _ g => givesB (Int.mul_nonneg a0 b0) g
theorem bigl_order {a b : Int} {va vb : Value} {w : World} (ha : IsBig w a va) (hb : IsBig w b vb) (la : a < pw 400) : Calls Try.prog 27 #[va, vb] w fun e w' => e = .returned (.int .i64 (cmpI a b)) ∧ Below w.heap.size w w' := by
  obtain ⟨a0, A, c, rfl, LA⟩ := ha
  obtain ⟨b0, B, d, rfl, LB⟩ := hb
  refine (ref_order A B a b c d _ w a0 b0 LA LB (by have := digs_len a 400 la; omega)).mono fun e w' h => ?_
  obtain ⟨he, n, rfl⟩ := h
  exact ⟨he, ⟨rfl, rfl, rfl, Nat.le_refl _, fun _ _ => rfl⟩⟩

theorem pw_add (a b : Nat) : pw (a + b) = pw a * pw b := by unfold pw; rw [Int.pow_add]
theorem lowF_le : ∀ k : Nat, k ≤ 256 → lowF k ≤ pw k
  | 0, _ => by simp [lowF, pw]
  | k + 1, h => by
    rw [lowF, pw_s]
    have h1 := Int.mul_le_mul_of_nonneg_right (lowF_le k (by omega)) (show (0 : Int) ≤ (k : Int) + 1 by omega)
    have h2 : pw k * ((k : Int) + 1) ≤ pw k * 65536 := Int.mul_le_mul_of_nonneg_left (by omega) (by have := pw_pos k; omega)
    omega
theorem lowF_lt {k : Nat} (h : k ≤ 256) : lowF k < pw 257 := by
  have h1 := lowF_le k h
  have h2 := pw_mono h
  have h3 : pw 257 = pw 256 * 65536 := pw_s 256
  have h4 := pw_pos 256
  omega
theorem topF_lt {k : Nat} (h : k ≤ 256) : topF k < pw 258 := by
  have h1 := topF_le k
  have h2 := lowF_lt h
  have hp := lowF_pos k
  have h3 : (k : Int) * lowF k ≤ 256 * lowF k := Int.mul_le_mul_of_nonneg_right (by omega) (by omega)
  have h4 : pw 258 = pw 257 * 65536 := pw_s 257
  omega
theorem big_lit (w : World) (l : List Int) (n : Int) (h : digs n = l) (hn : 0 ≤ n) : IsBig (w.alloc (.cells (lits l).toArray 3)) n (.slice (some ⟨w.heap.size, 0, none⟩) l.length l.length) := by
  refine ⟨hn, _, l.length, by rw [h], ?_⟩
  rw [h, alloc_size']
  exact lies_new w l
theorem dig_1 : digs 1 = [1] := by rw [digs_s (by omega), digs_0 (by decide)]; rfl
theorem dig_2 : digs 2 = [2] := by rw [digs_s (by omega), digs_0 (by decide)]; rfl
theorem big_nil (w : World) : IsBig w 0 (.slice none 0 0) := by
  refine ⟨by omega, none, 0, ?_, ?_⟩
  · rw [digs_0 (by omega)]; rfl
  · rw [digs_0 (by omega)]; exact Lies.nil
theorem pw_257_400 : pw 257 * 65536 < pw 400 ∧ pw 258 * 65536 < pw 400 := by
  have h1 : pw 257 * 65536 = pw 258 := (pw_s 257).symm
  have h2 : pw 258 * 65536 = pw 259 := (pw_s 258).symm
  have h3 : pw 259 * 65536 = pw 260 := (pw_s 259).symm
  have h4 := pw_mono (show 260 ≤ 400 by omega)
  have h5 := pw_pos 257
  have h6 := pw_pos 258
  have h7 := pw_pos 259
  omega
set_option maxHeartbeats 2000000 in
theorem law_sum (n : Nat) (hn : n ≤ 256) (w : World) : Calls Try.prog 24 #[.int .i64 n] w fun e w' => ∃ vt vl, e = .returned (.tuple #[vt, vl]) ∧ IsBig w' (topF n) vt ∧ IsBig w' (lowF n) vl ∧ Below w.heap.size w w' := by
  go_enter Try.func24, Try.ntmps24
  go_wp2
  go_loopw [4, 5, 6, 7] (fun tv lv kv bv wr => ∃ j : Nat, j ≤ n ∧ kv = .int .i64 ((j : Int) + 1) ∧ IsBig wr (topF j) tv ∧ IsBig wr (lowF j) lv ∧ Below w.heap.size w wr) (fun _ _ k _ _ => n + 1 - (intOf k).toNat)
  case atStart => exact ⟨0, by omega, rfl, big_nil _, big_lit w [1] 1 dig_1 (by omega), (Below.refl _ _).alloc (Nat.le_refl _) _⟩
  case round =>
    obtain ⟨j, hj, rfl, BT, BL, hb⟩ := hrel
    by_cases hlt : j < n
    · have hle : (j : Int) + 1 ≤ n := by omega
      have h1 := lowF_lt (k := j) (by omega)
      have h2 := topF_lt (k := j) (by omega)
      have h3 := lowF_lt (k := j + 1) (by omega)
      have h4 := topF_lt (k := j + 1) (by omega)
      have h5 := lowF_pos j
      have h6 := topF_nonneg j
      have hp := pw_257_400
      have hp2 := pw_pos 257
      have hp3 := pw_pos 258
      have e1 : topF (j + 1) = topF j * ((j : Int) + 1) + lowF j := rfl
      have e2 : lowF (j + 1) = lowF j * ((j : Int) + 1) := rfl
      have hw : IntKind.u64.wrap ((j : Int) + 1) = (j : Int) + 1 := by simp only [u64w]; omega
      have hu : U64 ((j : Int) + 1) := by unfold U64; omega
      have h7 : (j : Int) + 1 < pw 400 := by omega
      have h8 : topF j * ((j : Int) + 1) < pw 400 := by omega
      have h9 : lowF j < pw 400 := by omega
      have h10 : topF j < pw 400 := by omega
      clear hp hp2 hp3
      generalize hE1 : topF (j + 1) = T1 at *
      generalize hE2 : lowF (j + 1) = L1 at *
      have HE1 := Lib.hid hE1
      have HE2 := Lib.hid hE2
      have E1 := Lib.hid e1
      have E2 := Lib.hid e2
      clear hE1 hE2 e1 e2
      generalize topF j = T at *
      generalize lowF j = L at *
      go_wp2_with fail
      refine (big_of ((j : Int) + 1) hu _).mono ?_
      rintro e w1 ⟨v1, rfl, B1, b1⟩
      go_wp2_with fail
      refine (bigl_times (BT.below b1) B1 (by omega) h7).mono ?_
      rintro e w2 ⟨v2, rfl, B2, b2⟩
      have BL2 := (BL.below b1).below b2
      go_wp2_with fail
      refine (bigl_plus B2 BL2 h8 (by omega)).mono ?_
      rintro e w3 ⟨v3, rfl, B3, b3⟩
      go_wp2_with fail
      refine (bigl_times (BL2.below b3) ((B1.below b2).below b3) (by omega) h7).mono ?_
      rintro e w4 ⟨v4, rfl, B4, b4⟩
      go_wp2
      have c1 := hb.trans (b1.mono hb.size)
      have c2 := c1.trans (b2.mono c1.size)
      have c3 := c2.trans (b3.mono c2.size)
      have c4 := c3.trans (b4.mono c3.size)
      rw [← E1.out] at B3
      rw [← E2.out] at B4
      exact ⟨⟨j + 1, by omega, by go_num, by rw [HE1.out]; exact B3.below b4, by rw [HE2.out]; exact B4, c4⟩, by simp [intOf]; omega⟩
    · obtain rfl : j = n := by omega
      go_wp2
      go_ret2
      exact ⟨_, _, rfl, BT, BL, hb⟩
end Go.Proofs.Ytihfhdnldpjjdaa
