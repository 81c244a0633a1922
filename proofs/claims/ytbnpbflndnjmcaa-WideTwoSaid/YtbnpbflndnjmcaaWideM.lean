/- The contract of copseref02.Mul. -/
import Derived.Test.YtbnpbflndnjmcaaWideF
namespace Go.Proofs.Ytbnpbflndnjmcaa
open Go.RowKit

set_option maxHeartbeats 1000000 in
theorem ref_wmul (a b : Int) (ha : U64 a) (hb : U64 b) (w : World) :
    Calls Try.prog 17 #[.int .u64 a, .int .u64 b] w fun e w' => e = .returned (.agg #[.int .u64 (a * b / 18446744073709551616), .int .u64 (a * b % 18446744073709551616)]) ∧ Below w.heap.size w w' := by
  have hab : 0 ≤ a * b ∧ a * b < 340282366920938463463374607431768211456 := by
    unfold U64 at ha hb
    refine ⟨Int.mul_nonneg ha.1 hb.1, ?_⟩
    have := Int.mul_le_mul (show a ≤ 18446744073709551615 by omega) (show b ≤ 18446744073709551615 by omega) hb.1 (by omega)
    omega
  have d1 : (digs a).length ≤ 4 := digs_len _ 4 (by unfold U64 at ha; unfold pw; omega)
  have d2 : (digs b).length ≤ 4 := digs_len _ 4 (by unfold U64 at hb; unfold pw; omega)
  have d3 : (digs (a * b)).length ≤ 8 := digs_len _ 8 (by unfold pw; omega)
  have V1 : Hid (val (digs a) * val (digs b) = a * b) := by show _ = _; rw [val_digs a ha.1, val_digs b hb.1]
  have K1 := Lib.hid (fun W => ref_of a ha W)
  have K2 := Lib.hid (fun W => ref_of b hb W)
  go_enter Try.func17, Try.ntmps17
  go_wp2_with fail
  have HR := Lib.hid (Box.new w #[.int .u64 0, .int .u64 0] 24)
  have hb0 := (Below.refl w.heap.size w).alloc (Nat.le_refl _) (.cells #[.int .u64 0, .int .u64 0] 24)
  refine (K1.out _).mono ?_
  rintro e w1 ⟨A1, c1, rfl, q1, m1, L1, b1⟩
  have e1 := hb0.trans (b1.mono (by simp))
  have R1 := Lib.hid (Box.below HR.out b1 (by simp))
  have t1 : w.heap.size < w1.heap.size := R1.out.lt
  go_wp2_with fail
  refine (K2.out _).mono ?_
  rintro e w2 ⟨A2, c2, rfl, q2, m2, L2, b2⟩
  have e2 := e1.trans (b2.mono (by omega))
  have R2 := Lib.hid (Box.below R1.out b2 t1)
  have t2 : w.heap.size < w2.heap.size := R2.out.lt
  go_wp2_with fail
  refine (ref_times A1 A2 (digs a) (digs b) c1 c2 _ ((L1.below b2).mono b2.size) L2 (dig_digs _) (dig_digs _) (by omega)).mono ?_
  rintro e w3 ⟨A3, c3, rfl, q3, m3, L3, b3⟩
  rw [V1.out] at q3 L3 ⊢
  have e3 := e2.trans (b3.mono (by omega))
  have R3 := Lib.hid (Box.below R2.out b3 t2)
  have t3 : w.heap.size < w3.heap.size := R3.out.lt
  go_wp2_with fail
  refine (ref_wfits (a * b) hab.1 A3 c3 _ L3 (by omega)).mono ?_
  intro e w4 h4
  obtain ⟨rfl, b4⟩ := wfits_of hab.2 h4
  have e4 := e3.trans (b4.mono (by omega))
  have R4 := Lib.hid (Box.below R3.out b4 t3)
  have t4 : w.heap.size < w4.heap.size := R4.out.lt
  obtain ⟨y0, y1, y2, y3⟩ := R4.out.two
  generalize hH : a * b / 18446744073709551616 = h0 at *
  have HH := Lib.hid hH
  clear hH
  generalize hL : a * b % 18446744073709551616 = l0 at *
  have HL := Lib.hid hL
  clear hL
  go_wp2_with fail
  have r0 : ((w4.setCell ⟨w.heap.size, 0, none⟩ (.int .u64 h0)).setCell ⟨w.heap.size, 1, none⟩ (.int .u64 l0)).heap[w.heap.size]? = some (.cells #[.int .u64 h0, .int .u64 l0] 24 (0, 0)) := (heap_setCell_same _ _ _ _ _ _ (heap_setCell_same _ _ _ _ _ _ R4.out)).trans rfl
  obtain ⟨z0, z1, _, _⟩ := Box.two (Box.alloc r0 (.cells #[.int .u64 h0, .int .u64 l0] 24))
  have e5 := (((e4.setCell (p := ⟨w.heap.size, 0, none⟩) (Nat.le_refl _) (.int .u64 h0)).setCell (p := ⟨w.heap.size, 1, none⟩) (Nat.le_refl _) (.int .u64 l0)).alloc (by rw [setCell_size, setCell_size]; omega) (.cells #[.int .u64 h0, .int .u64 l0] 24))
  refine bodyPost_ret (v := .agg #[.int .u64 h0, .int .u64 l0]) ?_ rfl ?_
  · simp [results, Try.results17, go_sem, z0, z1]
  · rw [HH.out, HL.out]
    exact ⟨rfl, e5⟩
end Go.Proofs.Ytbnpbflndnjmcaa
