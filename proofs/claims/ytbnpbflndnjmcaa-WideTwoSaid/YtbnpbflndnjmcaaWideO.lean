/- The contract of copseref02.Sub. -/
import Derived.Test.YtbnpbflndnjmcaaWideN
import Derived.Test.YtbnpbflndnjmcaaBigQ
namespace Go.Proofs.Ytbnpbflndnjmcaa
open Go.RowKit

set_option maxHeartbeats 1000000 in
theorem ref_wsub (h l h2 l2 : Int) (hh : U64 h) (hl : U64 l) (hh2 : U64 h2) (hl2 : U64 l2) (hle : wv h2 l2 ≤ wv h l) (w : World) :
    Calls Try.prog 13 #[.agg #[.int .u64 h, .int .u64 l], .agg #[.int .u64 h2, .int .u64 l2]] w (FitsW (wv h l - wv h2 l2) w) := by
  have hX := Box.new w #[.int .u64 h, .int .u64 l] 24
  have hY := Box.new (w.alloc (.cells #[.int .u64 h, .int .u64 l] 24)) #[.int .u64 h2, .int .u64 l2] 24
  have hW : Below w.heap.size w ((w.alloc (.cells #[.int .u64 h, .int .u64 l] 24)).alloc (.cells #[.int .u64 h2, .int .u64 l2] 24)) := ((Below.refl _ _).alloc (Nat.le_refl _) _).alloc (by simp) _
  have hX := (hX.below ((Below.refl _ _).alloc (Nat.le_refl _) (.cells #[.int .u64 h2, .int .u64 l2] 24)) (by simp))
  rw [alloc_size] at hY
  have hZ := Box.new ((w.alloc (.cells #[.int .u64 h, .int .u64 l] 24)).alloc (.cells #[.int .u64 h2, .int .u64 l2] 24)) #[.int .u64 0, .int .u64 0] 24
  rw [alloc_size, alloc_size] at hZ
  have HX := Lib.hid (hX.alloc (.cells #[.int .u64 0, .int .u64 0] 24))
  have HY := Lib.hid (hY.alloc (.cells #[.int .u64 0, .int .u64 0] 24))
  have HZ := Lib.hid hZ
  have HW := Lib.hid (hW.alloc (by simp; omega) (.cells #[.int .u64 0, .int .u64 0] 24))
  clear hX hY hW hZ
  obtain ⟨x, y, z, hf⟩ := fitsW_val (n := wv h l - wv h2 l2) (by have := (digs_wv h l hh hl).2; have := (digs_wv h2 l2 hh2 hl2).2; omega)
  have d3 : (digs (wv h l - wv h2 l2)).length ≤ 1000 := by
    have a1 : wv h l = h * 18446744073709551616 + l := rfl
    have a2 : wv h2 l2 = h2 * 18446744073709551616 + l2 := rfl
    have := digs_len (wv h l - wv h2 l2) 9 (by unfold U64 at *; unfold pw; omega)
    omega
  have hn0 : 0 ≤ wv h l - wv h2 l2 := by have := (digs_wv h l hh hl).2; have := (digs_wv h2 l2 hh2 hl2).2; omega
  have V := Lib.hid (show val (digs (wv h l)) - val (digs (wv h2 l2)) = wv h l - wv h2 l2 by rw [val_digs _ (digs_wv h l hh hl).2, val_digs _ (digs_wv h2 l2 hh2 hl2).2])
  have HLE : Hid (val (digs (wv h2 l2)) ≤ val (digs (wv h l))) := by show _ ≤ _; rw [val_digs _ (digs_wv h l hh hl).2, val_digs _ (digs_wv h2 l2 hh2 hl2).2]; exact hle
  have HC : Hid (¬ (cmpI (wv h l) (wv h2 l2) < 0)) := by show ¬ _; unfold cmpI; split <;> (try split) <;> omega
  have KC := Lib.hid (fun W => ref_wcmp h l h2 l2 hh hl hh2 hl2 W)
  generalize cmpI (wv h l) (wv h2 l2) = r at *
  have HF := Lib.hid hf
  clear hf
  have K1 := Lib.hid (fun W => ref_big h l hh hl W)
  have K2 := Lib.hid (fun W => ref_big h2 l2 hh2 hl2 W)
  have D1 := digs_wv h l hh hl
  have D2 := digs_wv h2 l2 hh2 hl2
  go_enter Try.func13, Try.ntmps13
  obtain ⟨x0, x1, _, _⟩ := HX.out.two
  obtain ⟨y0, y1, _, _⟩ := HY.out.two
  have hr := HC.out
  go_wp2_with fail
  refine (KC.out _).mono ?_
  rintro e w0 ⟨rfl, b0⟩
  have X0 := Lib.hid (Box.below HX.out b0 (by simp only [alloc_size]; omega)).drew
  have Y0 := Lib.hid (Box.below HY.out b0 (by simp only [alloc_size]; omega)).drew
  have Z0 := Lib.hid (Box.below HZ.out b0 (by simp only [alloc_size]; omega)).drew
  have e0 := (HW.out.trans (b0.mono (by simp only [alloc_size]; omega))).drew
  have t0 : w.heap.size + 1 + 1 < w0.heap.size := Z0.out.lt
  obtain ⟨x0, x1, _, _⟩ := X0.out.two
  obtain ⟨y0, y1, _, _⟩ := Y0.out.two
  obtain ⟨z0, z1, z2, z3⟩ := Z0.out.two
  go_wp2
  go_region_held3 (fun w1 => (w1.cell? ⟨w.heap.size, 0, none⟩ = some (.int .u64 h) ∧ w1.cell? ⟨w.heap.size, 1, none⟩ = some (.int .u64 l)) ∧ w1.cell? ⟨w.heap.size + 1, 0, none⟩ = some (.int .u64 h2) ∧ w1.cell? ⟨w.heap.size + 1, 1, none⟩ = some (.int .u64 l2)) (first | exact keep_off (by omega) (by omega) (by assumption) | go_keep)
    (first
      | (go_at_call 21; ((with_reducible refine (K1.out _).mono ?_); rintro e w1 ⟨A1, c1, rfl, q1, m1, L1, b1⟩; obtain ⟨x0, x1, _, _⟩ := (Box.below X0.out b1 (by simp only [drew_size]; omega)).two; obtain ⟨y0, y1, _, _⟩ := (Box.below Y0.out b1 (by simp only [drew_size]; omega)).two; have Z1 := Lib.hid (Box.below Z0.out b1 (by simp only [drew_size]; omega)); have Y1 := Lib.hid (Box.below Y0.out b1 (by simp only [drew_size]; omega)); have X1 := Lib.hid (Box.below X0.out b1 (by simp only [drew_size]; omega)); have e1 := e0.trans (b1.mono (by simp only [drew_size]; omega)); have t1 : w.heap.size + 1 + 1 < w1.heap.size := Z1.out.lt))
      | (go_at_call 21; ((with_reducible refine (K2.out _).mono ?_); rintro e w2 ⟨A2, c2, rfl, q2, m2, L2, b2⟩; obtain ⟨x0, x1, _, _⟩ := (Box.below X1.out b2 (by omega)).two; obtain ⟨y0, y1, _, _⟩ := (Box.below Y1.out b2 (by omega)).two; have Z2 := Lib.hid (Box.below Z1.out b2 t1); have X2 := Lib.hid (Box.below X1.out b2 (by omega)); have Y2 := Lib.hid (Box.below Y1.out b2 (by omega)); have e2 := e1.trans (b2.mono (by omega)); have t2 : w.heap.size + 1 + 1 < w2.heap.size := Z2.out.lt))
      | (go_at_call 34; refine (ref_minus A1 A2 (digs (wv h l)) (digs (wv h2 l2)) c1 c2 _ ((L1.below b2).mono b2.size) L2 (dig_digs _) (dig_digs _) (by omega) HLE.out).mono ?_; rintro e w3 ⟨A3, c3, rfl, q3, m3, L3, b3⟩; rw [V.out] at q3 L3 ⊢; obtain ⟨x0, x1, _, _⟩ := (Box.below X2.out b3 (by omega)).two; obtain ⟨y0, y1, _, _⟩ := (Box.below Y2.out b3 (by omega)).two; have Z3 := Lib.hid (Box.below Z2.out b3 t2); have X3 := Lib.hid (Box.below X2.out b3 (by omega)); have Y3 := Lib.hid (Box.below Y2.out b3 (by omega)); have e3 := e2.trans (b3.mono (by omega)); have t3 : w.heap.size + 1 + 1 < w3.heap.size := Z3.out.lt)
      | (go_at_call 32; refine (ref_wfits _ hn0 A3 c3 _ L3 d3).mono ?_; intro e w4 h4; obtain ⟨rfl, b4⟩ := (HF.out _ _ _).1 h4; obtain ⟨x0, x1, _, _⟩ := (Box.below X3.out b4 (by omega)).two; obtain ⟨y0, y1, _, _⟩ := (Box.below Y3.out b4 (by omega)).two; have Z4 := Lib.hid (Box.below Z3.out b4 t3); obtain ⟨z0, z1, z2, z3⟩ := Z4.out.two; have e4 := e3.trans (b4.mono (by omega))))
  all_goals
    go_wp2
    have r0 : ((w4.setCell ⟨w.heap.size + 1 + 1, 0, none⟩ (.int .u64 x)).setCell ⟨w.heap.size + 1 + 1, 1, none⟩ (.int .u64 y)).heap[w.heap.size + 1 + 1]? = some (.cells #[.int .u64 x, .int .u64 y] 24 (0, 0)) := (heap_setCell_same _ _ _ _ _ _ (heap_setCell_same _ _ _ _ _ _ Z4.out)).trans rfl
    obtain ⟨k0, k1, _, _⟩ := Box.two r0
    refine bodyPost_ret (v := .tuple #[.agg #[.int .u64 x, .int .u64 y], .int .i64 z]) ?_ rfl ?_
    · simp [results, Try.results13, go_sem, k0, k1]
    · exact (HF.out _ _ _).2 ⟨rfl, (e4.setCell (p := ⟨w.heap.size + 1 + 1, 0, none⟩) (by simp; omega) (.int .u64 x)).setCell (p := ⟨w.heap.size + 1 + 1, 1, none⟩) (by simp; omega) (.int .u64 y)⟩
set_option maxHeartbeats 1000000 in
theorem ref_wsub_lt (h l h2 l2 : Int) (hh : U64 h) (hl : U64 l) (hh2 : U64 h2) (hl2 : U64 l2) (hle : wv h l < wv h2 l2) (w : World) :
    Calls Try.prog 13 #[.agg #[.int .u64 h, .int .u64 l], .agg #[.int .u64 h2, .int .u64 l2]] w fun e w' => e = .returned (.tuple #[.agg #[.int .u64 0, .int .u64 0], .int .i64 10]) ∧ Below w.heap.size w w' := by
  have hX := Box.new w #[.int .u64 h, .int .u64 l] 24
  have hY := Box.new (w.alloc (.cells #[.int .u64 h, .int .u64 l] 24)) #[.int .u64 h2, .int .u64 l2] 24
  have hW : Below w.heap.size w ((w.alloc (.cells #[.int .u64 h, .int .u64 l] 24)).alloc (.cells #[.int .u64 h2, .int .u64 l2] 24)) := ((Below.refl _ _).alloc (Nat.le_refl _) _).alloc (by simp) _
  have hX := (hX.below ((Below.refl _ _).alloc (Nat.le_refl _) (.cells #[.int .u64 h2, .int .u64 l2] 24)) (by simp))
  rw [alloc_size] at hY
  have hZ := Box.new ((w.alloc (.cells #[.int .u64 h, .int .u64 l] 24)).alloc (.cells #[.int .u64 h2, .int .u64 l2] 24)) #[.int .u64 0, .int .u64 0] 24
  rw [alloc_size, alloc_size] at hZ
  have HX := Lib.hid (hX.alloc (.cells #[.int .u64 0, .int .u64 0] 24))
  have HY := Lib.hid (hY.alloc (.cells #[.int .u64 0, .int .u64 0] 24))
  have HZ := Lib.hid hZ
  have HW := Lib.hid (hW.alloc (by simp; omega) (.cells #[.int .u64 0, .int .u64 0] 24))
  clear hX hY hW hZ
  have HC : Hid (cmpI (wv h l) (wv h2 l2) < 0) := by show _ < _; unfold cmpI; split <;> (try split) <;> omega
  have KC := Lib.hid (fun W => ref_wcmp h l h2 l2 hh hl hh2 hl2 W)
  generalize cmpI (wv h l) (wv h2 l2) = r at *
  go_enter Try.func13, Try.ntmps13
  obtain ⟨x0, x1, _, _⟩ := HX.out.two
  obtain ⟨y0, y1, _, _⟩ := HY.out.two
  have hr := HC.out
  go_wp2_with fail
  refine (KC.out _).mono ?_
  rintro e w0 ⟨rfl, b0⟩
  have X0 := Lib.hid (Box.below HX.out b0 (by simp only [alloc_size]; omega))
  have Y0 := Lib.hid (Box.below HY.out b0 (by simp only [alloc_size]; omega))
  have Z0 := Lib.hid (Box.below HZ.out b0 (by simp only [alloc_size]; omega))
  have e0 := (HW.out.trans (b0.mono (by simp only [alloc_size]; omega)))
  have t0 : w.heap.size + 1 + 1 < w0.heap.size := Z0.out.lt
  obtain ⟨x0, x1, _, _⟩ := X0.out.two
  obtain ⟨y0, y1, _, _⟩ := Y0.out.two
  obtain ⟨z0, z1, z2, z3⟩ := Z0.out.two
  go_wp2
  refine bodyPost_ret (v := .tuple #[.agg #[.int .u64 0, .int .u64 0], .int .i64 10]) ?_ rfl ?_
  · have r0 : ((w0.setCell ⟨w.heap.size + 1 + 1, 0, none⟩ (.int .u64 0)).setCell ⟨w.heap.size + 1 + 1, 1, none⟩ (.int .u64 0)).heap[w.heap.size + 1 + 1]? = some (.cells #[.int .u64 0, .int .u64 0] 24 (0, 0)) := (heap_setCell_same _ _ _ _ _ _ (heap_setCell_same _ _ _ _ _ _ Z0.out)).trans rfl
    obtain ⟨k0, k1, _, _⟩ := Box.two r0
    simp [results, Try.results13, go_sem, k0, k1]
  · exact ⟨rfl, (e0.setCell (p := ⟨w.heap.size + 1 + 1, 0, none⟩) (by simp; omega) (.int .u64 0)).setCell (p := ⟨w.heap.size + 1 + 1, 1, none⟩) (by simp; omega) (.int .u64 0)⟩
end Go.Proofs.Ytbnpbflndnjmcaa
