/- Layer 20 (sched): the rows of conditions as the code makes them. -/
import Derived.Test.YtpoemflclbhekaaGreatSchA
import Derived.Great.BuildSlice
import Derived.Laws.CopyOwn
namespace Go.Proofs.YtpoemflclbhekaaGreat
open Go.RowKit
set_option linter.unusedVariables false
set_option linter.unusedSimpArgs false

theorem info_rows : (Tryz.prog.info? 125).map (·.size) = some 33 := by kernel_rfl
set_option maxRecDepth 100000 in
set_option maxHeartbeats 4000000 in
theorem sch_rows (dim win tr sam ev kind part whole tries keep notes : Int) (w : World) : Calls Tryz.prog 80 #[cfV dim win tr sam ev kind part whole tries keep notes] w fun e w' => e = .returned (rowsV (rowT dim win tr sam ev kind part whole tries keep notes)) ∧ Below w.heap.size w w' := by
  have HX := Lib.hid (Box.new w #[.int .i64 dim, .int .i64 win, .int .i64 tr, .int .i64 sam, .int .i64 ev, .int .i64 kind, .int .i64 part, .int .i64 whole, .int .i64 tries, .int .i64 keep, .int .i64 notes] 62)
  have HB := Lib.hid ((Below.refl w.heap.size w).alloc (Nat.le_refl _) (.cells #[.int .i64 dim, .int .i64 win, .int .i64 tr, .int .i64 sam, .int .i64 ev, .int .i64 kind, .int .i64 part, .int .i64 whole, .int .i64 tries, .int .i64 keep, .int .i64 notes] 62))
  go_enter Tryz.func80, Tryz.ntmps80
  go_upto_region 1 with (fail)
  have HY : ∃ (C : Array Value) (wc : World), C.size = 33 ∧ wc = (w.alloc (.cells #[.int .i64 dim, .int .i64 win, .int .i64 tr, .int .i64 sam, .int .i64 ev, .int .i64 kind, .int .i64 part, .int .i64 whole, .int .i64 tries, .int .i64 keep, .int .i64 notes] 62)).alloc (.cells C 125) ∧ C = (List.replicate 33 (Value.int .i64 0)).toArray := ⟨_, _, rfl, rfl, rfl⟩
  obtain ⟨C, wc, hC, hwc, hC2⟩ := HY
  have hX := HX.out.alloc (.cells C 125)
  have hY := Box.new (w.alloc (.cells #[.int .i64 dim, .int .i64 win, .int .i64 tr, .int .i64 sam, .int .i64 ev, .int .i64 kind, .int .i64 part, .int .i64 whole, .int .i64 tries, .int .i64 keep, .int .i64 notes] 62)) C 125
  have hB := HB.out.alloc (B := w.heap.size) (by simp) (.cells C 125)
  rw [← hwc] at hX hY hB
  rw [show (w.alloc (.cells #[.int .i64 dim, .int .i64 win, .int .i64 tr, .int .i64 sam, .int .i64 ev, .int .i64 kind, .int .i64 part, .int .i64 whole, .int .i64 tries, .int .i64 keep, .int .i64 notes] 62)).heap.size = w.heap.size + 1 from by simp] at hY
  simp only [List.replicate, hC2] at hwc
  rw [← hwc]
  clear HX HB hwc hC2
  obtain ⟨y0, y1, y2, y3, y4, y5, y6, y7, y8, y9, y10⟩ := box11 hX
  have HY := Lib.hid hY
  have HB := Lib.hid hB
  clear hX hY hB
  by_cases hw : win ≤ 64
  · have hs := run_storeVar_row (P := Tryz.prog) wc (w.heap.size + 1) 125 125 C #[.int .i64 dim, .int .i64 1, .int .i64 8, .int .i64 win, .int .i64 2, .int .i64 256, .int .i64 tr, .int .i64 1, .int .i64 16, .int .i64 sam, .int .i64 2, .int .i64 win, .int .i64 ev, .int .i64 1, .int .i64 256, .int .i64 kind, .int .i64 1, .int .i64 2, .int .i64 whole, .int .i64 2, .int .i64 1000, .int .i64 part, .int .i64 1, .int .i64 (wrap64 (whole - 1)), .int .i64 tries, .int .i64 1, .int .i64 64, .int .i64 keep, .int .i64 1, .int .i64 64, .int .i64 notes, .int .i64 1, .int .i64 256] HY.out (info_rows.trans rfl) (hC.trans rfl) (by simp [Value.oneCell'])
    simp [go_sem] at hs
    have HZ := Lib.hid (setRow_heap wc (w.heap.size + 1) C #[.int .i64 dim, .int .i64 1, .int .i64 8, .int .i64 win, .int .i64 2, .int .i64 256, .int .i64 tr, .int .i64 1, .int .i64 16, .int .i64 sam, .int .i64 2, .int .i64 win, .int .i64 ev, .int .i64 1, .int .i64 256, .int .i64 kind, .int .i64 1, .int .i64 2, .int .i64 whole, .int .i64 2, .int .i64 1000, .int .i64 part, .int .i64 1, .int .i64 (wrap64 (whole - 1)), .int .i64 tries, .int .i64 1, .int .i64 64, .int .i64 keep, .int .i64 1, .int .i64 64, .int .i64 notes, .int .i64 1, .int .i64 256] 125 (0, 0) HY.out)
    have HB2 := Lib.hid (below_setRow (g := w.heap.size + 1) HB.out (by omega) #[.int .i64 dim, .int .i64 1, .int .i64 8, .int .i64 win, .int .i64 2, .int .i64 256, .int .i64 tr, .int .i64 1, .int .i64 16, .int .i64 sam, .int .i64 2, .int .i64 win, .int .i64 ev, .int .i64 1, .int .i64 256, .int .i64 kind, .int .i64 1, .int .i64 2, .int .i64 whole, .int .i64 2, .int .i64 1000, .int .i64 part, .int .i64 1, .int .i64 (wrap64 (whole - 1)), .int .i64 tries, .int .i64 1, .int .i64 64, .int .i64 keep, .int .i64 1, .int .i64 64, .int .i64 notes, .int .i64 1, .int .i64 256])
    have HR : Hid (rowsV (rowT dim win tr sam ev kind part whole tries keep notes) = .agg #[.int .i64 dim, .int .i64 1, .int .i64 8, .int .i64 win, .int .i64 2, .int .i64 256, .int .i64 tr, .int .i64 1, .int .i64 16, .int .i64 sam, .int .i64 2, .int .i64 win, .int .i64 ev, .int .i64 1, .int .i64 256, .int .i64 kind, .int .i64 1, .int .i64 2, .int .i64 whole, .int .i64 2, .int .i64 1000, .int .i64 part, .int .i64 1, .int .i64 (wrap64 (whole - 1)), .int .i64 tries, .int .i64 1, .int .i64 64, .int .i64 keep, .int .i64 1, .int .i64 64, .int .i64 notes, .int .i64 1, .int .i64 256]) := by
      show _ = _
      simp [rowsV, rowT, Int.min_eq_left hw]
    generalize wc.setRow (w.heap.size + 1) #[.int .i64 dim, .int .i64 1, .int .i64 8, .int .i64 win, .int .i64 2, .int .i64 256, .int .i64 tr, .int .i64 1, .int .i64 16, .int .i64 sam, .int .i64 2, .int .i64 win, .int .i64 ev, .int .i64 1, .int .i64 256, .int .i64 kind, .int .i64 1, .int .i64 2, .int .i64 whole, .int .i64 2, .int .i64 1000, .int .i64 part, .int .i64 1, .int .i64 (wrap64 (whole - 1)), .int .i64 tries, .int .i64 1, .int .i64 64, .int .i64 keep, .int .i64 1, .int .i64 64, .int .i64 notes, .int .i64 1, .int .i64 256] = wd at *
    go_wp2
    refine bodyPost_ret (v := .agg #[.int .i64 dim, .int .i64 1, .int .i64 8, .int .i64 win, .int .i64 2, .int .i64 256, .int .i64 tr, .int .i64 1, .int .i64 16, .int .i64 sam, .int .i64 2, .int .i64 win, .int .i64 ev, .int .i64 1, .int .i64 256, .int .i64 kind, .int .i64 1, .int .i64 2, .int .i64 whole, .int .i64 2, .int .i64 1000, .int .i64 part, .int .i64 1, .int .i64 (wrap64 (whole - 1)), .int .i64 tries, .int .i64 1, .int .i64 64, .int .i64 keep, .int .i64 1, .int .i64 64, .int .i64 notes, .int .i64 1, .int .i64 256]) ?_ rfl ⟨by rw [HR.out], HB2.out⟩
    exact results_cell_row rfl _ _ (w.heap.size + 1) 125 _ (0, 0) _ rfl HZ.out Tryz.underlying125 rfl (info_rows.trans rfl)
  · have hw2 : 64 < win := by omega
    have hs := run_storeVar_row (P := Tryz.prog) wc (w.heap.size + 1) 125 125 C #[.int .i64 dim, .int .i64 1, .int .i64 8, .int .i64 win, .int .i64 2, .int .i64 256, .int .i64 tr, .int .i64 1, .int .i64 16, .int .i64 sam, .int .i64 2, .int .i64 64, .int .i64 ev, .int .i64 1, .int .i64 256, .int .i64 kind, .int .i64 1, .int .i64 2, .int .i64 whole, .int .i64 2, .int .i64 1000, .int .i64 part, .int .i64 1, .int .i64 (wrap64 (whole - 1)), .int .i64 tries, .int .i64 1, .int .i64 64, .int .i64 keep, .int .i64 1, .int .i64 64, .int .i64 notes, .int .i64 1, .int .i64 256] HY.out (info_rows.trans rfl) (hC.trans rfl) (by simp [Value.oneCell'])
    simp [go_sem] at hs
    have HZ := Lib.hid (setRow_heap wc (w.heap.size + 1) C #[.int .i64 dim, .int .i64 1, .int .i64 8, .int .i64 win, .int .i64 2, .int .i64 256, .int .i64 tr, .int .i64 1, .int .i64 16, .int .i64 sam, .int .i64 2, .int .i64 64, .int .i64 ev, .int .i64 1, .int .i64 256, .int .i64 kind, .int .i64 1, .int .i64 2, .int .i64 whole, .int .i64 2, .int .i64 1000, .int .i64 part, .int .i64 1, .int .i64 (wrap64 (whole - 1)), .int .i64 tries, .int .i64 1, .int .i64 64, .int .i64 keep, .int .i64 1, .int .i64 64, .int .i64 notes, .int .i64 1, .int .i64 256] 125 (0, 0) HY.out)
    have HB2 := Lib.hid (below_setRow (g := w.heap.size + 1) HB.out (by omega) #[.int .i64 dim, .int .i64 1, .int .i64 8, .int .i64 win, .int .i64 2, .int .i64 256, .int .i64 tr, .int .i64 1, .int .i64 16, .int .i64 sam, .int .i64 2, .int .i64 64, .int .i64 ev, .int .i64 1, .int .i64 256, .int .i64 kind, .int .i64 1, .int .i64 2, .int .i64 whole, .int .i64 2, .int .i64 1000, .int .i64 part, .int .i64 1, .int .i64 (wrap64 (whole - 1)), .int .i64 tries, .int .i64 1, .int .i64 64, .int .i64 keep, .int .i64 1, .int .i64 64, .int .i64 notes, .int .i64 1, .int .i64 256])
    have HR : Hid (rowsV (rowT dim win tr sam ev kind part whole tries keep notes) = .agg #[.int .i64 dim, .int .i64 1, .int .i64 8, .int .i64 win, .int .i64 2, .int .i64 256, .int .i64 tr, .int .i64 1, .int .i64 16, .int .i64 sam, .int .i64 2, .int .i64 64, .int .i64 ev, .int .i64 1, .int .i64 256, .int .i64 kind, .int .i64 1, .int .i64 2, .int .i64 whole, .int .i64 2, .int .i64 1000, .int .i64 part, .int .i64 1, .int .i64 (wrap64 (whole - 1)), .int .i64 tries, .int .i64 1, .int .i64 64, .int .i64 keep, .int .i64 1, .int .i64 64, .int .i64 notes, .int .i64 1, .int .i64 256]) := by
      show _ = _
      simp [rowsV, rowT, Int.min_eq_right (Int.le_of_lt hw2)]
    generalize wc.setRow (w.heap.size + 1) #[.int .i64 dim, .int .i64 1, .int .i64 8, .int .i64 win, .int .i64 2, .int .i64 256, .int .i64 tr, .int .i64 1, .int .i64 16, .int .i64 sam, .int .i64 2, .int .i64 64, .int .i64 ev, .int .i64 1, .int .i64 256, .int .i64 kind, .int .i64 1, .int .i64 2, .int .i64 whole, .int .i64 2, .int .i64 1000, .int .i64 part, .int .i64 1, .int .i64 (wrap64 (whole - 1)), .int .i64 tries, .int .i64 1, .int .i64 64, .int .i64 keep, .int .i64 1, .int .i64 64, .int .i64 notes, .int .i64 1, .int .i64 256] = wd at *
    go_wp2
    refine bodyPost_ret (v := .agg #[.int .i64 dim, .int .i64 1, .int .i64 8, .int .i64 win, .int .i64 2, .int .i64 256, .int .i64 tr, .int .i64 1, .int .i64 16, .int .i64 sam, .int .i64 2, .int .i64 64, .int .i64 ev, .int .i64 1, .int .i64 256, .int .i64 kind, .int .i64 1, .int .i64 2, .int .i64 whole, .int .i64 2, .int .i64 1000, .int .i64 part, .int .i64 1, .int .i64 (wrap64 (whole - 1)), .int .i64 tries, .int .i64 1, .int .i64 64, .int .i64 keep, .int .i64 1, .int .i64 64, .int .i64 notes, .int .i64 1, .int .i64 256]) ?_ rfl ⟨by rw [HR.out], HB2.out⟩
    exact results_cell_row rfl _ _ (w.heap.size + 1) 125 _ (0, 0) _ rfl HZ.out Tryz.underlying125 rfl (info_rows.trans rfl)
end Go.Proofs.YtpoemflclbhekaaGreat
