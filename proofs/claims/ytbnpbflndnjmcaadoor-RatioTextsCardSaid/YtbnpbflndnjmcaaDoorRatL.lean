/- What the statements of layer 3 ask of every program. -/
import Derived.Test.YtbnpbflndnjmcaaDoorRatB
namespace Go.Proofs.YtbnpbflndnjmcaaDoor
open Go.RowKit

abbrev s32 : ByteArray := ⟨#[45, 51, 47, 50]⟩
theorem i64c {n : Int} (h : -9223372036854775808 ≤ n ∧ n ≤ 9223372036854775807) : I64 n := h
theorem rtxt_32 : rtxt (-3) 2 = s32.data.toList := by
  have hv : Valid (-3) 2 := by decide +kernel
  unfold rtxt itxt
  rw [if_pos hv, if_neg (by decide), if_pos (by decide), if_neg (by decide), txt_small (by decide), txt_small (by decide)]
  rfl
theorem live3_of (w : World) : Calls Tryd.prog 9 #[.int .i64 6, .int .i64 (-4)] w fun e w' => e = .returned (.tuple #[.agg #[.int .i64 (-3), .int .i64 2], .int .i64 0]) ∧ Below w.heap.size w w' := by
  have h := rat_of 6 (-4) (i64c (by omega)) (i64c (by omega)) w
  unfold ofV at h
  rw [show ofP 6 (-4) = -3 by decide +kernel, show ofQ 6 (-4) = 2 by decide +kernel, show ofE 6 (-4) = 0 by decide +kernel] at h
  exact h
theorem live3_add (w : World) : Calls Tryd.prog 15 #[.agg #[.int .i64 1, .int .i64 6], .agg #[.int .i64 1, .int .i64 3]] w fun e w' => e = .returned (.tuple #[.agg #[.int .i64 1, .int .i64 2], .int .i64 0]) ∧ Below w.heap.size w w' := by
  have h := rat_add 1 6 1 3 (i64c (by omega)) (i64c (by omega)) (i64c (by omega)) (i64c (by omega)) w
  unfold doV at h
  rw [show doP 1 6 1 3 (1 * 3 + 1 * 6) (6 * 3) = 1 by decide +kernel, show doQ 1 6 1 3 (1 * 3 + 1 * 6) (6 * 3) = 2 by decide +kernel, show doE 1 6 1 3 (1 * 3 + 1 * 6) (6 * 3) = 0 by decide +kernel] at h
  exact h
theorem live3_part (w : World) : Calls Tryd.prog 26 #[.int .i64 (-7), .agg #[.int .i64 2, .int .i64 3]] w fun e w' => e = .returned (.tuple #[.int .i64 (-5), .int .i64 0]) ∧ Below w.heap.size w w' := by
  have h := rat_part_of (-7) 2 3 (i64c (by omega)) (i64c (by omega)) (i64c (by omega)) w
  unfold paV at h
  rw [show paN (-7) 2 3 = -5 by decide +kernel, show paE (-7) 2 3 = 0 by decide +kernel] at h
  exact h
theorem live3_cmp (w : World) : Calls Tryd.prog 20 #[.agg #[.int .i64 (-3), .int .i64 2], .agg #[.int .i64 1, .int .i64 2]] w fun e w' => e = .returned (.tuple #[.int .i64 (-1), .int .i64 0]) ∧ Below w.heap.size w w' := by
  have h := rat_cmp (-3) 2 1 2 (i64c (by omega)) (i64c (by omega)) (i64c (by omega)) (i64c (by omega)) w
  unfold cmV at h
  rw [show cmN (-3) 2 1 2 = -1 by decide +kernel, show cmE (-3) 2 1 2 = 0 by decide +kernel] at h
  exact h
theorem live3_div (w : World) : Calls Tryd.prog 19 #[.agg #[.int .i64 (-3), .int .i64 2], .agg #[.int .i64 0, .int .i64 1]] w fun e w' => e = .returned (.tuple #[.agg #[.int .i64 0, .int .i64 0], .int .i64 11]) ∧ Below w.heap.size w w' := by
  have h := rat_div (-3) 2 0 1 (i64c (by omega)) (i64c (by omega)) (i64c (by omega)) (i64c (by omega)) w
  unfold doV at h
  rw [show doP (-3) 2 0 1 (-3 * 1) (2 * 0) = 0 by decide +kernel, show doQ (-3) 2 0 1 (-3 * 1) (2 * 0) = 0 by decide +kernel, show doE (-3) 2 0 1 (-3 * 1) (2 * 0) = 11 by decide +kernel] at h
  exact h
theorem live3_parse (w : World) (ht : Tab w) : Calls Tryd.prog 30 #[.string s32] w fun e w' => e = .returned (.tuple #[.agg #[.int .i64 (-3), .int .i64 2], .int .i64 0]) ∧ Below w.heap.size w w' := by
  have h := rat_parse s32 (by decide) w ht
  obtain ⟨h1, h2, h3⟩ := prOk_of (p := -3) (q := 2) (by decide +kernel) rtxt_32
  rw [prV_ok h1, h2, h3] at h
  exact h
theorem live3_floor (w : World) : Calls Tryd.prog 22 #[.agg #[.int .i64 (-3), .int .i64 2]] w fun e w' => e = .returned (.tuple #[.int .i64 (-2), .int .i64 0]) ∧ Below w.heap.size w w' := by
  have h := rat_floor (-3) 2 (i64c (by omega)) (i64c (by omega)) w
  unfold paV at h
  rw [show paN 1 (-3) 2 = -2 by decide +kernel, show paE 1 (-3) 2 = 0 by decide +kernel] at h
  exact h
theorem live3_text (w : World) (ht : Tab w) : Calls Tryd.prog 29 #[.agg #[.int .i64 (-3), .int .i64 2]] w fun e w' => e = .returned (.string s32) ∧ Below w.heap.size w w' := by
  have h := rat_text (-3) 2 (i64c (by omega)) (i64c (by omega)) w ht
  rw [rtxt_32] at h
  exact h
theorem live3_is (w : World) : Calls Tryd.prog 12 #[.agg #[.int .i64 (-3), .int .i64 2]] w fun e w' => e = .returned (.bool true) ∧ Below w.heap.size w w' := by
  have h := rat_is (-3) 2 (i64c (by omega)) (i64c (by omega)) w
  rw [show isB (-3) 2 = true by decide +kernel] at h
  exact h
theorem live3_no (w : World) : Calls Tryd.prog 12 #[.agg #[.int .i64 2, .int .i64 4]] w fun e w' => e = .returned (.bool false) ∧ Below w.heap.size w w' := by
  have h := rat_is 2 4 (i64c (by omega)) (i64c (by omega)) w
  rw [show isB 2 4 = false by decide +kernel] at h
  exact h

set_option maxHeartbeats 4000000 in
theorem lives3 (w : World) (ht : Tab w) : Calls Tryd.prog 11 #[] w fun e w' => e = .returned (.bool true) ∧ Below w.heap.size w w' := by
  have T := Lib.hid ht
  have J := Lib.hid (Keeps.start w)
  clear ht
  go_enter Tryd.func11, Tryd.ntmps11
  go_wp2_with fail
  refine (live3_of _).mono ?_
  rintro e w1 ⟨rfl, b⟩
  have J := Lib.hid ((J.out.below b).alloc #[.int .i64 (-3), .int .i64 2] 23)
  have T := Lib.hid ((T.out.below b).alloc (.cells #[.int .i64 (-3), .int .i64 2] 23))
  clear b
  go_wp2_with fail
  refine (live3_add _).mono ?_
  rintro e w2 ⟨rfl, b⟩
  have J := Lib.hid ((J.out.below b).alloc #[.int .i64 1, .int .i64 2] 23)
  have T := Lib.hid ((T.out.below b).alloc (.cells #[.int .i64 1, .int .i64 2] 23))
  clear b
  go_wp2_with fail
  refine (live3_part _).mono ?_
  rintro e w3 ⟨rfl, b⟩
  have J := Lib.hid (J.out.below b)
  have T := Lib.hid (T.out.below b)
  obtain ⟨y0, y1, _, _⟩ := J.out.head.two
  obtain ⟨x0, x1, _, _⟩ := J.out.tail.head.two
  clear b
  go_wp2_with fail
  refine (live3_cmp _).mono ?_
  rintro e w4 ⟨rfl, b⟩
  have J := Lib.hid (J.out.below b)
  have T := Lib.hid (T.out.below b)
  obtain ⟨y0, y1, _, _⟩ := J.out.head.two
  obtain ⟨x0, x1, _, _⟩ := J.out.tail.head.two
  clear b
  go_wp2_with fail
  refine (live3_div _).mono ?_
  rintro e w5 ⟨rfl, b⟩
  have J := Lib.hid ((J.out.below b).alloc #[.int .i64 0, .int .i64 0] 23)
  have T := Lib.hid ((T.out.below b).alloc (.cells #[.int .i64 0, .int .i64 0] 23))
  clear b
  go_wp2_with fail
  refine (live3_parse _ T.out).mono ?_
  rintro e w6 ⟨rfl, b⟩
  have J := Lib.hid ((J.out.below b).alloc #[.int .i64 (-3), .int .i64 2] 23)
  have T := Lib.hid ((T.out.below b).alloc (.cells #[.int .i64 (-3), .int .i64 2] 23))
  obtain ⟨x0, x1, _, _⟩ := J.out.tail.tail.tail.head.two
  clear b
  go_wp2_with fail
  refine (live3_floor _).mono ?_
  rintro e w7 ⟨rfl, b⟩
  have J := Lib.hid (J.out.below b)
  have T := Lib.hid (T.out.below b)
  obtain ⟨z0, z1, _, _⟩ := J.out.head.two
  obtain ⟨y0, y1, _, _⟩ := J.out.tail.tail.head.two
  obtain ⟨x0, x1, _, _⟩ := J.out.tail.tail.tail.head.two
  clear b
  go_wp2_with fail
  refine (live3_text _ T.out).mono ?_
  rintro e w8 ⟨rfl, b⟩
  have J := Lib.hid (J.out.below b)
  obtain ⟨x0, x1, _, _⟩ := J.out.tail.tail.tail.head.two
  clear b
  go_wp2_with fail
  refine (live3_is _).mono ?_
  rintro e w9 ⟨rfl, b⟩
  have J := Lib.hid (J.out.below b)
  clear b
  go_wp2_with fail
  refine (live3_no _).mono ?_
  rintro e w10 ⟨rfl, b⟩
  go_wp2
  go_ret
  exact ⟨rfl, (J.out.below b).2.1⟩
end Go.Proofs.YtbnpbflndnjmcaaDoor
