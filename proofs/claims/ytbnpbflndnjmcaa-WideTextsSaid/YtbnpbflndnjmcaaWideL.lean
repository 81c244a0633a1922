/- What the statements of layer 2 ask of every program. -/
import Derived.Test.YtbnpbflndnjmcaaWideT
import Derived.Test.YtbnpbflndnjmcaaWideJ
import Derived.Test.YtbnpbflndnjmcaaWideR
import Derived.Deep.RegionHeld3
namespace Go.Proofs.Ytbnpbflndnjmcaa
open Go.RowKit

abbrev s64 : ByteArray := ⟨#[49, 56, 52, 52, 54, 55, 52, 52, 48, 55, 51, 55, 48, 57, 53, 53, 49, 54, 49, 54]⟩
abbrev s128 : ByteArray := ⟨#[51, 52, 48, 50, 56, 50, 51, 54, 54, 57, 50, 48, 57, 51, 56, 52, 54, 51, 52, 54, 51, 51, 55, 52, 54, 48, 55, 52, 51, 49, 55, 54, 56, 50, 49, 49, 52, 53, 54]⟩
theorem live_parse (w : World) : Calls Try.prog 26 #[.string s64] w fun e w' => e = .returned (.tuple #[.agg #[.int .u64 1, .int .u64 0], .int .i64 0]) ∧ Below w.heap.size w w' := by
  refine (wide_parse s64 (by decide) w).mono fun e w' ⟨he, hb⟩ => ⟨he.trans ?_, hb⟩
  rw [psV_in (by decide) (by decide)]
  exact (wfV_in (by decide) (by decide) (by decide)).symm
theorem live_parse2 (w : World) : Calls Try.prog 26 #[.string s128] w fun e w' => e = .returned (.tuple #[.agg #[.int .u64 0, .int .u64 0], .int .i64 10]) ∧ Below w.heap.size w w' := by
  refine (wide_parse s128 (by decide) w).mono fun e w' ⟨he, hb⟩ => ⟨he.trans ?_, hb⟩
  rw [psV_in (by decide) (by decide)]
  exact (wfV_out (by decide)).symm
theorem live_wdiv (w : World) : Calls Try.prog 18 #[.agg #[.int .u64 5, .int .u64 0], .int .u64 2] w fun e w' => e = .returned (.tuple #[.agg #[.int .u64 2, .int .u64 9223372036854775808], .int .u64 0, .int .i64 0]) ∧ Below w.heap.size w w' :=
  (wide_div 5 0 2 (by unfold U64; omega) (by unfold U64; omega) (by unfold U64; omega) (by omega) w).mono fun e w' ⟨he, hb⟩ => ⟨he, hb⟩
theorem live_wmul (w : World) : Calls Try.prog 16 #[.int .u64 9223372036854775808, .int .u64 6] w fun e w' => e = .returned (.agg #[.int .u64 3, .int .u64 0]) ∧ Below w.heap.size w w' :=
  (wide_mul 9223372036854775808 6 (by unfold U64; omega) (by unfold U64; omega) w).mono fun e w' ⟨he, hb⟩ => ⟨he, hb⟩
theorem live_prods (w : World) : Calls Try.prog 29 #[.int .i64 3, .int .i64 5, .int .i64 (-2), .int .i64 (-8)] w fun e w' => e = .returned (.int .i64 (-1)) ∧ Below w.heap.size w w' :=
  (wide_prods 3 5 (-2) (-8) (by unfold I64; omega) (by unfold I64; omega) (by unfold I64; omega) (by unfold I64; omega) w).mono fun e w' ⟨he, hb⟩ => ⟨he, hb⟩
theorem txt_64 : txt 18446744073709551616 = s64.data.toList := by simp [txt]
theorem live_text (w : World) : Calls Try.prog 25 #[.agg #[.int .u64 1, .int .u64 0]] w fun e w' => e = .returned (.string s64) ∧ Below w.heap.size w w' := by
  refine (wide_text 1 0 (by unfold U64; omega) (by unfold U64; omega) w).mono fun e w' ⟨he, hb⟩ => ⟨he.trans ?_, hb⟩
  have : (wv 1 0).toNat = 18446744073709551616 := by decide
  rw [this, txt_64]
theorem live_wcmp (w : World) : Calls Try.prog 14 #[.agg #[.int .u64 1, .int .u64 0], .agg #[.int .u64 0, .int .u64 7]] w fun e w' => e = .returned (.int .i64 1) ∧ Below w.heap.size w w' :=
  (wide_cmp 1 0 0 7 (by unfold U64; omega) (by unfold U64; omega) w).mono fun e w' ⟨he, hb⟩ => ⟨he, hb⟩
theorem live_wof (w : World) : Calls Try.prog 11 #[.int .u64 7] w fun e w' => e = .returned (.agg #[.int .u64 0, .int .u64 7]) ∧ Below w.heap.size w w' := wide_of 7 w
theorem live_root (w : World) : Calls Try.prog 24 #[.agg #[.int .u64 1, .int .u64 0]] w fun e w' => e = .returned (.int .u64 4294967296) ∧ Below w.heap.size w w' := by
  refine (wide_root 1 0 (by unfold U64; omega) (by unfold U64; omega) w).mono fun e w' h => ?_
  obtain ⟨r, he, hr, hb⟩ := h
  refine ⟨?_, hb⟩
  have : r = 4294967296 := by
    obtain ⟨h0, _, h1, h2⟩ := hr
    have e : wv 1 0 = 18446744073709551616 := by decide
    rw [e] at h1 h2
    rcases Int.lt_trichotomy r 4294967296 with h | h | h
    · have := Int.mul_le_mul (show r + 1 ≤ 4294967296 by omega) (show r + 1 ≤ 4294967296 by omega) (by omega) (by omega)
      omega
    · exact h
    · have := Int.mul_le_mul (show 4294967297 ≤ r by omega) (show 4294967297 ≤ r by omega) (by omega) (by omega)
      omega
  rw [he, this]
/-- what stays there while the rest is asked -/
def LiveJ (B : Nat) (W : World) (g k : Nat) (w : World) : Prop := Box w g #[.int .u64 1, .int .u64 0] 24 ∧ Box w k #[.int .u64 2, .int .u64 9223372036854775808] 24 ∧ Below B W w ∧ B ≤ w.heap.size
theorem LiveJ.below {B : Nat} {W w w' : World} {g k : Nat} (h : LiveJ B W g k w) (hb : Below w.heap.size w w') : LiveJ B W g k w' :=
  ⟨h.1.below hb h.1.lt, h.2.1.below hb h.2.1.lt, h.2.2.1.trans (hb.mono h.2.2.2), Nat.le_trans h.2.2.2 hb.size⟩

set_option maxHeartbeats 2000000 in
theorem lives2 (w : World) : Calls Try.prog 10 #[] w fun e w' => e = .returned (.bool true) ∧ Below w.heap.size w w' := by
  go_enter Try.func10, Try.ntmps10
  go_wp2_with fail
  refine (live_parse _).mono ?_
  rintro e w1 ⟨rfl, b1⟩
  have X1 := Lib.hid (Box.new w1 #[.int .u64 1, .int .u64 0] 24)
  have B1 := Lib.hid (b1.alloc b1.size (.cells #[.int .u64 1, .int .u64 0] 24))
  have s1 := b1.size
  clear b1
  go_wp2_with fail
  refine (live_parse2 _).mono ?_
  rintro e w2 ⟨rfl, b2⟩
  have X2 := Lib.hid ((X1.out.below b2 X1.out.lt).alloc (.cells #[.int .u64 0, .int .u64 0] 24))
  have B2 := Lib.hid ((B1.out.trans (b2.mono (by have := X1.out.lt; omega))).alloc (by have := b2.size; simp at this; omega) (.cells #[.int .u64 0, .int .u64 0] 24))
  clear b2
  go_wp2_with fail
  refine (live_wdiv _).mono ?_
  rintro e w3 ⟨rfl, b3⟩
  have X3 := Lib.hid ((X2.out.below b3 X2.out.lt).alloc (.cells #[.int .u64 2, .int .u64 9223372036854775808] 24))
  have B3 := Lib.hid ((B2.out.trans (b3.mono (by have := X2.out.lt; omega))).alloc (by have := b3.size; have := X2.out.lt; omega) (.cells #[.int .u64 2, .int .u64 9223372036854775808] 24))
  have Y3 := Lib.hid (Box.new w3 #[.int .u64 2, .int .u64 9223372036854775808] 24)
  clear b3
  go_wp2
  have J : Hid (LiveJ w.heap.size w w1.heap.size w3.heap.size (w3.alloc (.cells #[.int .u64 2, .int .u64 9223372036854775808] 24)).drew) := ⟨X3.out.drew, Y3.out.drew, B3.out.drew, B3.out.drew.size⟩
  clear X1 B1 X2 B2 X3 B3 Y3
  obtain ⟨x0, x1, _, _⟩ := J.out.1.two
  obtain ⟨y0, y1, _, _⟩ := J.out.2.1.two
  go_region_held3 (fun wr => (wr.cell? ⟨w1.heap.size, 0, none⟩ = some (.int .u64 1) ∧ wr.cell? ⟨w1.heap.size, 1, none⟩ = some (.int .u64 0)) ∧ wr.cell? ⟨w3.heap.size, 0, none⟩ = some (.int .u64 2) ∧ wr.cell? ⟨w3.heap.size, 1, none⟩ = some (.int .u64 9223372036854775808)) (go_keep)
    (first
      | (go_at_call 16; ((with_reducible refine (live_wmul _).mono ?_); rintro e w4 ⟨rfl, b4⟩; have J := Lib.hid (J.out.below b4); obtain ⟨x0, x1, _, _⟩ := J.out.1.two; obtain ⟨y0, y1, _, _⟩ := J.out.2.1.two))
      | (go_at_call 24; ((with_reducible refine (live_root _).mono ?_); rintro e w4 ⟨rfl, b4⟩; have J := Lib.hid (J.out.below b4); obtain ⟨x0, x1, _, _⟩ := J.out.1.two; obtain ⟨y0, y1, _, _⟩ := J.out.2.1.two))
      | (go_at_call 29; ((with_reducible refine (live_prods _).mono ?_); rintro e w4 ⟨rfl, b4⟩; have J := Lib.hid (J.out.below b4); obtain ⟨x0, x1, _, _⟩ := J.out.1.two; obtain ⟨y0, y1, _, _⟩ := J.out.2.1.two))
      | (go_at_call 25; ((with_reducible refine (live_text _).mono ?_); rintro e w4 ⟨rfl, b4⟩; have J := Lib.hid (J.out.below b4); obtain ⟨x0, x1, _, _⟩ := J.out.1.two; obtain ⟨y0, y1, _, _⟩ := J.out.2.1.two))
      | (go_at_call 11; ((with_reducible refine (live_wof _).mono ?_); rintro e w4 ⟨rfl, b4⟩; have J := Lib.hid (J.out.below b4); obtain ⟨x0, x1, _, _⟩ := J.out.1.two; obtain ⟨y0, y1, _, _⟩ := J.out.2.1.two))
      | (go_at_call 14; ((with_reducible refine (live_wcmp _).mono ?_); rintro e w4 ⟨rfl, b4⟩; have J := Lib.hid (J.out.below b4); obtain ⟨x0, x1, _, _⟩ := J.out.1.two; obtain ⟨y0, y1, _, _⟩ := J.out.2.1.two)))
  all_goals
    go_wp2
    go_ret
    exact ⟨rfl, J.out.2.2.1⟩
end Go.Proofs.Ytbnpbflndnjmcaa
