/- Contracts of copseref01: Add, Sub, Mul. -/
import Derived.Test.YtbnpbflndnjmcaaDoorBigZ
import Derived.Test.YtbnpbflndnjmcaaDoorBigF
import Derived.Test.YtbnpbflndnjmcaaDoorNumS
namespace Go.Proofs.YtbnpbflndnjmcaaDoor
open Go.RowKit

theorem fits_z (neg : Bool) (n : Int) (A : Option Addr) (c : Nat) (w : World) (hs : SgnOf neg n) (hA : Lies w w.heap.size A (digs n.natAbs)) (hl : (digs n.natAbs).length ≤ 100000) :
    Calls Tryd.prog 49 #[.agg #[.bool neg, .slice A (digs n.natAbs).length c]] w fun e w' => e = .returned (fitV n) ∧ Below w.heap.size w w' := by
  by_cases h0 : n = 0
  · have hv : ∀ e : Ending, e = .returned (.tuple #[.int .i64 0, .int .i64 0]) → e = .returned (fitV n) := fun e h => h.trans (fitV_in (by unfold I64; omega) h0.symm)
    cases neg
    · exact (fits_pos n.natAbs A c w (by omega) hA hl (by unfold top; omega)).mono fun e w' ⟨he, hb⟩ => ⟨hv _ (by rw [he, h0]; rfl), hb⟩
    · exact (fits_neg n.natAbs A c w (by omega) hA hl (by unfold top; omega)).mono fun e w' ⟨he, hb⟩ => ⟨hv _ (by rw [he, h0]; rfl), hb⟩
  · have hn := hs h0
    by_cases hneg : n < 0
    · obtain rfl : neg = true := by rw [hn]; simpa using hneg
      have e1 : -(n.natAbs : Int) = n := by omega
      rcases Int.lt_or_le n (-9223372036854775808) with h1 | h1
      · exact (fits_gt true n.natAbs A c w (by omega) hA hl (by unfold top; omega)).mono fun e w' ⟨he, hb⟩ => ⟨he.trans (fitV_out (by unfold I64; omega)), hb⟩
      · by_cases h2 : n = -9223372036854775808
        · exact (fits_least n.natAbs A c w (by omega) hA hl (by unfold top; omega)).mono fun e w' ⟨he, hb⟩ => ⟨he.trans (fitV_in (by unfold I64; omega) e1), hb⟩
        · exact (fits_neg n.natAbs A c w (by omega) hA hl (by unfold top; omega)).mono fun e w' ⟨he, hb⟩ => ⟨he.trans (fitV_in (by unfold I64; omega) e1), hb⟩
    · obtain rfl : neg = false := by rw [hn]; simpa using hneg
      have e1 : (n.natAbs : Int) = n := by omega
      rcases Int.lt_or_le 9223372036854775808 n with h1 | h1
      · exact (fits_gt false n.natAbs A c w (by omega) hA hl (by unfold top; omega)).mono fun e w' ⟨he, hb⟩ => ⟨he.trans (fitV_out (by unfold I64; omega)), hb⟩
      · by_cases h2 : n = 9223372036854775808
        · exact (fits_eq n.natAbs A c w (by omega) hA hl (by unfold top; omega)).mono fun e w' ⟨he, hb⟩ => ⟨he.trans (fitV_out (by unfold I64; omega)), hb⟩
        · exact (fits_pos n.natAbs A c w (by omega) hA hl (by unfold top; omega)).mono fun e w' ⟨he, hb⟩ => ⟨he.trans (fitV_in (by unfold I64; omega) e1), hb⟩

theorem len_i64 {a : Int} (h : I64 a) : (digs a.natAbs).length ≤ 4 := digs_len _ 4 (by unfold I64 at h; unfold pw; omega)
theorem len_sum {a b : Int} (h : I64 a) (g : I64 b) : (digs (a + b).natAbs).length ≤ 5 := digs_len _ 5 (by unfold I64 at h g; unfold pw; omega)
theorem len_prod {a b : Int} (h : I64 a) (g : I64 b) : (digs (a * b).natAbs).length ≤ 8 := digs_len _ 8 (by have := mul_bd a b h g; unfold pw; omega)

/-- Turn, then Both: a less b -/
theorem turn_b (neg : Bool) (n : Int) (A : Option Addr) (c : Nat) (w : World) (hs : SgnOf neg n) (hA : Lies w w.heap.size A (digs n.natAbs)) :
    Calls Tryd.prog 42 #[.agg #[.bool neg, .slice A (digs n.natAbs).length c]] w fun e w' => ∃ neg' A' c', e = .returned (.agg #[.bool neg', .slice A' (digs n.natAbs).length c']) ∧ SgnOf neg' (-n) ∧ Lies w' w'.heap.size A' (digs n.natAbs) ∧ Below w.heap.size w w' :=
  (turn_z neg n A c w hs hA).mono fun e w' ⟨n5, A5, c5, he, s5, L5, b5⟩ => by
    rw [Int.natAbs_neg] at he L5
    exact ⟨n5, A5, c5, he, s5, L5, b5⟩
theorem both_b (na nb : Bool) (x y : Int) (A A2 : Option Addr) (ca cb : Nat) (w : World) (sx : SgnOf na x) (sy : SgnOf nb (-y)) (hA : Lies w w.heap.size A (digs x.natAbs)) (hB : Lies w w.heap.size A2 (digs y.natAbs)) (hl : (digs x.natAbs).length + (digs y.natAbs).length ≤ 100000) :
    Calls Tryd.prog 39 #[.agg #[.bool na, .slice A (digs x.natAbs).length ca], .agg #[.bool nb, .slice A2 (digs y.natAbs).length cb]] w (GivesZ (x - y) w) := by
  have h := both_z na nb x (-y) A A2 ca cb w sx sy hA (by rw [Int.natAbs_neg]; exact hB) (by rw [Int.natAbs_neg]; exact hl)
  rw [Int.natAbs_neg, ← Int.sub_eq_add_neg] at h
  exact h
theorem ref_sub (a b : Int) (ha : I64 a) (hb : I64 b) (w : World) :
    Calls Tryd.prog 55 #[.int .i64 a, .int .i64 b] w fun e w' => e = .returned (fitV (a - b)) ∧ Below w.heap.size w w' := by
  have la := len_i64 ha
  have lb := len_i64 hb
  have ls : (digs (a - b).natAbs).length ≤ 5 := digs_len _ 5 (by unfold I64 at ha hb; unfold pw; omega)
  go_enter Tryd.func55, Tryd.ntmps55
  go_wp2_with fail
  refine (int_z a ha _).mono ?_
  rintro e w1 ⟨na, A1, c1, rfl, s1, L1, b1⟩
  go_wp2_with fail
  refine (int_z b hb _).mono ?_
  rintro e w2 ⟨nb, A2, c2, rfl, s2, L2, b2⟩
  go_wp2_with fail
  refine (turn_b nb b A2 c2 _ s2 L2).mono ?_
  rintro e w5 ⟨n5, A5, c5, rfl, s5, L5, b5⟩
  go_wp2_with fail
  refine (both_b na n5 a b A1 A5 c1 c5 _ s1 s5 ((L1.below (b2.trans (b5.mono b2.size))).mono (b2.trans (b5.mono b2.size)).size) L5 (by omega)).mono ?_
  rintro e w3 ⟨ng, A3, c3, rfl, s3, L3, b3⟩
  go_wp2_with fail
  refine (fits_z _ (a - b) A3 c3 _ s3 L3 (by omega)).mono ?_
  rintro e w4 ⟨rfl, b4⟩
  go_wp2
  go_ret2
  exact ⟨rfl, (((b1.trans (b2.mono b1.size)).trans (b5.mono (by have := b1.size; have := b2.size; omega))).trans (b3.mono (by have := b1.size; have := b2.size; have := b5.size; omega))).trans (b4.mono (by have := b1.size; have := b2.size; have := b5.size; have := b3.size; omega))⟩
end Go.Proofs.YtbnpbflndnjmcaaDoor
