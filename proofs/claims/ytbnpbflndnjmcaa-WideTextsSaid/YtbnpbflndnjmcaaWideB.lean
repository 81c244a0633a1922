/- Contracts of copseref02: turn64 and Big: the digits of a wide number. -/
import Derived.Test.YtbnpbflndnjmcaaBigI
import Derived.Test.YtbnpbflndnjmcaaWideW
namespace Go.Proofs.Ytbnpbflndnjmcaa
open Go.RowKit

theorem digs_turn : digs 18446744073709551616 = [0, 0, 0, 0, 1] := by
  have h : val [0, 0, 0, 0, 1] = 18446744073709551616 := by simp [val]
  rw [← h]
  exact digs_val (by intro d hd; simp only [List.mem_cons, List.not_mem_nil, or_false] at hd; omega) (.inr (by simp))
theorem ref_turn64 (w : World) : Calls Try.prog 41 #[] w (Gives 18446744073709551616 w) := by
  have H := Lib.hid digs_turn
  go_enter Try.func41, Try.ntmps41
  go_wp2
  go_ret
  refine ⟨some ⟨w.heap.size, 0, none⟩, 5, ?_, ?_, by unfold maxLen; omega, ?_, (Below.refl _ _).alloc (Nat.le_refl _) _⟩
  · rw [H.out]; rfl
  · rw [H.out]; simp
  · rw [H.out, alloc_size]
    intro _
    refine ⟨⟨w.heap.size, 0, none⟩, rfl, Nat.lt_succ_self _, fun j hj => ?_⟩
    have h1 : (⟨w.heap.size, 0, none⟩ : Addr).add j = ⟨w.heap.size, j, none⟩ := by unfold Addr.add; split <;> simp_all
    rw [h1, (Box.new w _ _).cell j]
    have : j = 0 ∨ j = 1 ∨ j = 2 ∨ j = 3 ∨ j = 4 := by simp at hj; omega
    rcases this with rfl | rfl | rfl | rfl | rfl <;> rfl

set_option maxHeartbeats 1000000 in
theorem ref_big (h l : Int) (hh : U64 h) (hl : U64 l) (w : World) : Calls Try.prog 21 #[.agg #[.int .u64 h, .int .u64 l]] w (Gives (wv h l) w) := by
  have HX := Lib.hid (Box.new w #[.int .u64 h, .int .u64 l] 24).drew
  have hW := ((Below.refl w.heap.size w).alloc (Nat.le_refl _) (.cells #[.int .u64 h, .int .u64 l] 24)).drew
  have HW := Lib.hid hW
  clear hW
  have K1 := Lib.hid (fun W => ref_of h hh W)
  have K2 := Lib.hid (fun W => ref_of l hl W)
  have d1 : (digs h).length ≤ 4 := digs_len _ 4 (by unfold U64 at hh; unfold pw; omega)
  have d2 : (digs l).length ≤ 4 := digs_len _ 4 (by unfold U64 at hl; unfold pw; omega)
  have d3 : (digs 18446744073709551616).length ≤ 5 := by rw [digs_turn]; simp
  have d4 : (digs (h * 18446744073709551616)).length ≤ 8 := digs_len _ 8 (by unfold U64 at hh; unfold pw; omega)
  have V1 : Hid (val (digs h) * val (digs 18446744073709551616) = h * 18446744073709551616) := by
    show _ = _
    rw [val_digs h hh.1, val_digs _ (by omega)]
  have V2 : Hid (val (digs (h * 18446744073709551616)) + val (digs l) = wv h l) := by
    show _ = _
    rw [val_digs l hl.1, val_digs _ (by unfold U64 at hh; omega)]; rfl
  have s0 : w.heap.size < (w.alloc (.cells #[.int .u64 h, .int .u64 l] 24)).heap.size := by simp
  go_enter Try.func21, Try.ntmps21
  go_wp2
  go_region_held3 (fun w1 => w1.cell? ⟨w.heap.size, 0, none⟩ = some (.int .u64 h) ∧ w1.cell? ⟨w.heap.size, 1, none⟩ = some (.int .u64 l)) (go_keep)
    (first
      | (go_at_call 22; ((with_reducible refine (K1.out _).mono ?_); rintro e w1 ⟨A1, c1, rfl, q1, m1, L1, b1⟩; obtain ⟨x0, x1, _, _⟩ := (Box.below HX.out b1 (by simp only [drew_size, alloc_size]; omega)).two; have e1 := HW.out.trans (b1.mono (by simp only [drew_size, alloc_size]; omega)); have t1 : w.heap.size < w1.heap.size := Nat.lt_of_lt_of_le s0 b1.size; have X1 := Lib.hid (Box.below HX.out b1 (by simp only [drew_size, alloc_size]; omega))))
      | (go_at_call 41; refine (ref_turn64 _).mono ?_; rintro e w2 ⟨A2, c2, rfl, q2, m2, L2, b2⟩; obtain ⟨y0, y1, _, _⟩ := (Box.below X1.out b2 t1).two; have X2 := Lib.hid (Box.below X1.out b2 t1); have t2 : w.heap.size < w2.heap.size := Nat.lt_of_lt_of_le t1 b2.size; have e2 := e1.trans (b2.mono (by omega)))
      | (go_at_call 20; refine (ref_times A1 A2 (digs h) (digs 18446744073709551616) c1 c2 _ ((L1.below b2).mono b2.size) L2 (dig_digs _) (dig_digs _) (by omega)).mono ?_; rintro e w3 ⟨A3, c3, rfl, q3, m3, L3, b3⟩; rw [V1.out] at q3 L3 ⊢; obtain ⟨z0, z1, _, _⟩ := (Box.below X2.out b3 t2).two; have X3 := Lib.hid (Box.below X2.out b3 t2); have t3 : w.heap.size < w3.heap.size := Nat.lt_of_lt_of_le t2 b3.size; have e3 := e2.trans (b3.mono (by omega)))
      | (go_at_call 22; ((with_reducible refine (K2.out _).mono ?_); rintro e w4 ⟨A4, c4, rfl, q4, m4, L4, b4⟩; obtain ⟨v0, v1, _, _⟩ := (Box.below X3.out b4 t3).two; have X4 := Lib.hid (Box.below X3.out b4 t3); have t4 : w.heap.size < w4.heap.size := Nat.lt_of_lt_of_le t3 b4.size; have e4 := e3.trans (b4.mono (by omega))))
      | (go_at_call 19; refine (ref_plus A3 A4 (digs (h * 18446744073709551616)) (digs l) c3 c4 _ ((L3.below b4).mono b4.size) L4 (dig_digs _) (dig_digs _) (by omega)).mono ?_; rintro e w5 ⟨A5, c5, rfl, q5, m5, L5, b5⟩; rw [V2.out] at q5 L5 ⊢; obtain ⟨u0, u1, _, _⟩ := (Box.below X4.out b5 t4).two; have e5 := e4.trans (b5.mono (by omega))))
  all_goals
    go_wp2
    go_ret
    exact ⟨A5, c5, rfl, q5, m5, L5, e5⟩
end Go.Proofs.Ytbnpbflndnjmcaa
