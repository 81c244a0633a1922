/- The contract of wide.Root. -/
import Derived.Test.YtbnpbflndnjmcaaWideD
import Derived.Test.YtbnpbflndnjmcaaWideC
import Derived.Test.YtbnpbflndnjmcaaBigI
namespace Go.Proofs.Ytbnpbflndnjmcaa
open Go.RowKit

def IsRoot (A r : Int) : Prop := 0 ≤ r ∧ r < 18446744073709551616 ∧ r * r ≤ A ∧ A < (r + 1) * (r + 1)
def RootPost (A : Int) (w : World) (e : Ending) (w' : World) : Prop := ∃ r, e = .returned (.int .u64 r) ∧ IsRoot A r ∧ Below w.heap.size w w'
theorem p2_add (Q : Int) (b : Nat) (hb : b ≤ 63) (h0 : 0 ≤ Q) (h1 : Q * p2 (b + 1) + p2 b < 18446744073709551616) : bits .or .u64 (Q * p2 (b + 1)) (IntKind.u64.wrap (2 ^ b)) = Q * p2 (b + 1) + p2 b := by
  rw [wrap_p2 b hb]; exact or_bit Q b h0 h1
theorem root_bd (Q : Int) (b : Nat) (hb : b ≤ 63) (h : Q * p2 (b + 1) < 18446744073709551616) : Q * p2 (b + 1) + p2 b < 18446744073709551616 ∧ Q * p2 (b + 1) + p2 (b + 1) ≤ 18446744073709551616 := by
  have e : (18446744073709551616 : Int) = p2 (b + 1) * p2 (63 - b) := by
    unfold p2; rw [← Int.pow_add, show b + 1 + (63 - b) = 64 from by omega]; rfl
  have hp := p2_pos (b + 1)
  have h2 : Q < p2 (63 - b) := by
    rw [e, Int.mul_comm Q] at h
    exact Int.lt_of_mul_lt_mul_left h (by omega)
  have h3 : (Q + 1) * p2 (b + 1) ≤ p2 (63 - b) * p2 (b + 1) := Int.mul_le_mul_of_nonneg_right (by omega) (by omega)
  rw [Int.add_mul, Int.one_mul, Int.mul_comm (p2 (63 - b)), ← e] at h3
  have := p2_s b
  have := p2_pos b
  omega
set_option maxHeartbeats 2000000 in
theorem wide_root (h l : Int) (hh : U64 h) (hl : U64 l) (w : World) :
    Calls Try.prog 24 #[.agg #[.int .u64 h, .int .u64 l]] w (RootPost (wv h l) w) := by
  have HX := Lib.hid (Box.new w #[.int .u64 h, .int .u64 l] 24)
  have HA : Hid (0 ≤ wv h l ∧ wv h l < 340282366920938463463374607431768211456) := by
    show _ ∧ _
    unfold U64 wv at *; omega
  go_enter Try.func24, Try.ntmps24
  go_wp2
  go_loopw [3, 4] (fun rv bv wr => ∃ (k : Nat) (r v Q : Int), k ≤ 64 ∧ bv = .int .i64 v ∧ Hid (v = k - 1) ∧ rv = .int .u64 r ∧ Hid (0 ≤ Q ∧ r = Q * p2 k ∧ r < 18446744073709551616 ∧ r * r ≤ wv h l ∧ wv h l < (r + p2 k) * (r + p2 k)) ∧ Box wr w.heap.size #[.int .u64 h, .int .u64 l] 24 ∧ Below w.heap.size w wr) (fun _ bv _ => (intOf bv + 1).toNat)
  case atStart => exact ⟨64, 0, _, 0, by omega, rfl, rfl, rfl, ⟨by omega, by simp, by omega, by have := HA.out; simp; omega, by have := HA.out; have : (0 + p2 64) * (0 + p2 64) = 340282366920938463463374607431768211456 := rfl; omega⟩, HX.out, (Below.refl _ _).alloc (Nat.le_refl _) _⟩
  case round =>
    obtain ⟨k, r, v, Q, hk, rfl, Hv, rfl, HI, hX, hb⟩ := hrel
    rcases Nat.eq_zero_or_pos k with rfl | hk0
    · obtain rfl : v = -1 := Hv.out
      have HR : Hid (IsRoot (wv h l) r) := by
        obtain ⟨i1, i2, i3, i4, i5⟩ := HI.out
        have e0 : p2 0 = 1 := rfl
        rw [e0] at i2 i5
        exact ⟨by omega, i3, i4, i5⟩
      go_wp2
      go_ret
      exact ⟨r, rfl, HR.out, hb⟩
    · obtain ⟨b, rfl⟩ : ∃ b, b + 1 = k := ⟨k - 1, by omega⟩
      obtain rfl : v = (b : Int) := by have := Hv.out; omega
      have hb63 : b ≤ 63 := by omega
      obtain ⟨i1, i2, i3, i4, i5⟩ := HI.out
      have hbd := root_bd Q b hb63 (by rw [← i2]; exact i3)
      have hor := p2_add Q b hb63 i1 hbd.1
      rw [← i2] at hor hbd
      have hpb := p2_pos b
      have hr0 : 0 ≤ r := by rw [i2]; exact Int.mul_nonneg i1 (by have := p2_pos (b + 1); omega)
      have un : U64 (r + p2 b) := by unfold U64; omega
      have KM := Lib.hid (fun W => wide_mul (r + p2 b) (r + p2 b) un un W)
      have KC : Hid (∀ W, Calls Try.prog 14 #[.agg #[.int .u64 ((r + p2 b) * (r + p2 b) / 18446744073709551616), .int .u64 ((r + p2 b) * (r + p2 b) % 18446744073709551616)], .agg #[.int .u64 h, .int .u64 l]] W fun e w' => e = .returned (.int .i64 (cmpI ((r + p2 b) * (r + p2 b)) (wv h l))) ∧ Below W.heap.size W w') := by
        intro W
        have hc := wide_cmp ((r + p2 b) * (r + p2 b) / 18446744073709551616) ((r + p2 b) * (r + p2 b) % 18446744073709551616) h l (u64_of_mod _) hl W
        rw [wv_split] at hc
        exact hc
      have e2 : p2 (b + 1) = p2 b * 2 := p2_s b
      have HN : Hid (0 ≤ 2 * Q + 1 ∧ r + p2 b = (2 * Q + 1) * p2 b ∧ r = 2 * Q * p2 b ∧ r + p2 b < 18446744073709551616 ∧ (r + p2 b) + p2 b = r + p2 (b + 1)) := by
        refine ⟨by omega, by rw [i2, e2]; grind, by rw [i2, e2]; grind, hbd.1, by omega⟩
      have HI' := Lib.hid (And.intro i3 (And.intro i4 i5))
      have Hor := Lib.hid hor
      have HQ := Lib.hid i1
      have HXr := Lib.hid hX
      obtain ⟨x0, x1, _, _⟩ := hX.two
      have hlt3 := hX.lt
      clear i1 i2 i3 i4 i5 hbd hor e2 hX HI
      by_cases hle : (r + p2 b) * (r + p2 b) ≤ wv h l
      · have hc : cmpI ((r + p2 b) * (r + p2 b)) (wv h l) ≤ 0 := by rcases cmp_cases ((r + p2 b) * (r + p2 b)) (wv h l) with ⟨_, e⟩ | ⟨_, e⟩ | ⟨g, e⟩ <;> omega
        have HLE := Lib.hid hle
        clear hle
        go_wp2_with fail
        rw [Hor.out]
        generalize cmpI ((r + p2 b) * (r + p2 b)) (wv h l) = cc at *
        go_region_held3 (fun w1 => w1.cell? ⟨w.heap.size, 0, none⟩ = some (.int .u64 h) ∧ w1.cell? ⟨w.heap.size, 1, none⟩ = some (.int .u64 l)) (go_keep)
          (first | (go_at_call 16; refine (KM.out _).mono ?_; rintro e w1 ⟨rfl, b1⟩; have hb1 := below_of_drew b1; obtain ⟨z0, z1, _, _⟩ := (HXr.out.below hb1 hlt3).two) | (go_at_call 14; refine (KC.out _).mono ?_; rintro e w2 ⟨rfl, b2⟩; have hb2 := hb1.trans (b2.mono hb1.size); obtain ⟨y0, y1, _, _⟩ := (HXr.out.below hb2 hlt3).two))
        go_wp2
        exact ⟨⟨b, _, _, _, by omega, rfl, rfl, rfl, ⟨HN.out.1, HN.out.2.1, HN.out.2.2.2.1, HLE.out, by rw [HN.out.2.2.2.2]; exact HI'.out.2.2⟩, HXr.out.below hb2 hlt3, hb.trans (hb2.mono (by omega))⟩, by simp [intOf]⟩
      · have hc : 0 < cmpI ((r + p2 b) * (r + p2 b)) (wv h l) := by rcases cmp_cases ((r + p2 b) * (r + p2 b)) (wv h l) with ⟨_, e⟩ | ⟨_, e⟩ | ⟨g, e⟩ <;> omega
        have HLE := Lib.hid hle
        clear hle
        go_wp2_with fail
        rw [Hor.out]
        generalize cmpI ((r + p2 b) * (r + p2 b)) (wv h l) = cc at *
        go_region_held3 (fun w1 => w1.cell? ⟨w.heap.size, 0, none⟩ = some (.int .u64 h) ∧ w1.cell? ⟨w.heap.size, 1, none⟩ = some (.int .u64 l)) (go_keep)
          (first | (go_at_call 16; refine (KM.out _).mono ?_; rintro e w1 ⟨rfl, b1⟩; have hb1 := below_of_drew b1; obtain ⟨z0, z1, _, _⟩ := (HXr.out.below hb1 hlt3).two) | (go_at_call 14; refine (KC.out _).mono ?_; rintro e w2 ⟨rfl, b2⟩; have hb2 := hb1.trans (b2.mono hb1.size); obtain ⟨y0, y1, _, _⟩ := (HXr.out.below hb2 hlt3).two))
        go_wp2
        exact ⟨⟨b, _, _, _, by omega, rfl, rfl, rfl, ⟨by have := HQ.out; omega, HN.out.2.2.1, HI'.out.1, HI'.out.2.1, by have := HLE.out; omega⟩, HXr.out.below hb2 hlt3, hb.trans (hb2.mono (by omega))⟩, by simp [intOf]⟩
end Go.Proofs.Ytbnpbflndnjmcaa
