/- Layer 20 (sched): Right, of the code and of the reference. -/
import Derived.Test.YtpoemflclbhekaaGreatSchB
namespace Go.Proofs.YtpoemflclbhekaaGreat
open Go.RowKit
set_option linter.unusedVariables false
set_option linter.unusedSimpArgs false

set_option maxRecDepth 100000 in
theorem rows_index (dim win tr sam ev kind part whole tries keep notes : Int) (k : Nat) (hk : k < 11) (W : World) : (Instr.index 125 (rowsV (rowT dim win tr sam ev kind part whole tries keep notes)) (.int .i64 k)).run Tryz.prog W = .ok (.agg #[.int .i64 ((rowT dim win tr sam ev kind part whole tries keep notes).getD k (0, 0, 0)).1, .int .i64 ((rowT dim win tr sam ev kind part whole tries keep notes).getD k (0, 0, 0)).2.1, .int .i64 ((rowT dim win tr sam ev kind part whole tries keep notes).getD k (0, 0, 0)).2.2]) W := by
  have : k = 0 ∨ k = 1 ∨ k = 2 ∨ k = 3 ∨ k = 4 ∨ k = 5 ∨ k = 6 ∨ k = 7 ∨ k = 8 ∨ k = 9 ∨ k = 10 := by omega
  rcases this with rfl | rfl | rfl | rfl | rfl | rfl | rfl | rfl | rfl | rfl | rfl <;> rfl
theorem below_one {w wr w2 : World} {o : Obj} (hb : Below w.heap.size w wr) (b2 : Below (wr.alloc o).heap.size (wr.alloc o) w2) : Below w.heap.size w w2 := by
  have H0 := hb.alloc hb.size o
  exact H0.trans (b2.mono H0.size)
set_option maxRecDepth 100000 in
set_option maxHeartbeats 4000000 in
theorem sch_Right (dim win tr sam ev kind part whole tries keep notes : Int) (hwh : I64 whole) (w : World) : Calls Tryz.prog 61 #[cfV dim win tr sam ev kind part whole tries keep notes] w fun e w' => e = .returned (.bool (decide (CfOk dim win tr sam ev kind part whole tries keep notes))) ∧ Below w.heap.size w w' := by
  have HX := Lib.hid (Box.new w #[.int .i64 dim, .int .i64 win, .int .i64 tr, .int .i64 sam, .int .i64 ev, .int .i64 kind, .int .i64 part, .int .i64 whole, .int .i64 tries, .int .i64 keep, .int .i64 notes] 62)
  obtain ⟨y0, y1, y2, y3, y4, y5, y6, y7, y8, y9, y10⟩ := box11 HX.out
  have HB := Lib.hid ((Below.refl w.heap.size w).alloc (Nat.le_refl _) (.cells #[.int .i64 dim, .int .i64 win, .int .i64 tr, .int .i64 sam, .int .i64 ev, .int .i64 kind, .int .i64 part, .int .i64 whole, .int .i64 tries, .int .i64 keep, .int .i64 notes] 62))
  have K1 := Lib.hid (fun W => sch_rows dim win tr sam ev kind part whole tries keep notes W)
  have HI := Lib.hid (rows_index dim win tr sam ev kind part whole tries keep notes)
  have HQ : Hid (decide (CfOk dim win tr sam ev kind part whole tries keep notes) = true ↔ ∀ k, k < 11 → RowOk ((rowT dim win tr sam ev kind part whole tries keep notes).getD k (0, 0, 0))) := by
    show _ ↔ _
    rw [decide_eq_true_iff]
    exact rows_ok hwh
  generalize decide (CfOk dim win tr sam ev kind part whole tries keep notes) = q at *
  generalize rowsV (rowT dim win tr sam ev kind part whole tries keep notes) = V at *
  generalize rowT dim win tr sam ev kind part whole tries keep notes = L at *
  clear hwh
  go_enter Tryz.func61, Tryz.ntmps61
  go_wp2_with fail
  refine (K1.out _).mono ?_
  rintro e w1 ⟨rfl, b1⟩
  have hb1 : Below w.heap.size w w1 := HB.out.trans (b1.mono HB.out.size)
  clear b1 HX y0 y1 y2 y3 y4 y5 y6 y7 y8 y9 y10 HB K1
  go_wp2
  go_loopw [7] (fun i wr => ∃ k : Nat, k ≤ 11 ∧ i = .int .i64 k ∧ Below w.heap.size w wr ∧ Hid (∀ j, j < k → RowOk (L.getD j (0, 0, 0)))) (fun i _ => 11 - (intOf i).toNat)
  case atStart => exact ⟨0, by omega, rfl, hb1, fun j hj => absurd hj (by omega)⟩
  case round =>
    obtain ⟨k, hk, rfl, hb, HJ⟩ := hrel
    by_cases hlt : k < 11
    · have hI := HI.out k hlt
      have hki : (k : Int) < 11 := by omega
      have hr0 : Hid (RowOk (L.getD k (0, 0, 0)) ↔ (L.getD k (0, 0, 0)).2.1 ≤ (L.getD k (0, 0, 0)).1 ∧ (L.getD k (0, 0, 0)).1 ≤ (L.getD k (0, 0, 0)).2.2) := Iff.rfl
      by_cases hr : RowOk (L.getD k (0, 0, 0))
      · have hd := decide_eq_true (hr0.out.1 hr)
        have HJ' : Hid (∀ j, j < k + 1 → RowOk (L.getD j (0, 0, 0))) := by
          intro j hj
          rcases Nat.lt_succ_iff_lt_or_eq.1 hj with h | rfl
          · exact HJ.out j h
          · exact hr
        clear hr hr0 HQ
        generalize (L.getD k (0, 0, 0)).1 = n at *
        generalize (L.getD k (0, 0, 0)).2.1 = lo at *
        generalize (L.getD k (0, 0, 0)).2.2 = hi at *
        have K2 := Lib.hid (fun W => sch_holds n lo hi W)
        rw [hd] at K2
        go_wp2_with fail
        refine (K2.out _).mono ?_
        rintro e w2 ⟨rfl, b2⟩
        have hb3 := below_one hb b2
        clear b2
        go_wp2
        exact ⟨⟨k + 1, by omega, by go_num, hb3, HJ'⟩, by simp [intOf]; omega⟩
      · have hd := decide_eq_false (fun h => hr (hr0.out.2 h))
        have hq : q = false := by
          cases h : q with
          | false => rfl
          | true => exact absurd (HQ.out.1 h k hlt) hr
        subst hq
        clear hr hr0 HQ
        generalize (L.getD k (0, 0, 0)).1 = n at *
        generalize (L.getD k (0, 0, 0)).2.1 = lo at *
        generalize (L.getD k (0, 0, 0)).2.2 = hi at *
        have K2 := Lib.hid (fun W => sch_holds n lo hi W)
        rw [hd] at K2
        go_wp2_with fail
        refine (K2.out _).mono ?_
        rintro e w2 ⟨rfl, b2⟩
        have hb3 := below_one hb b2
        clear b2
        go_wp2
        go_ret
        exact ⟨rfl, hb3⟩
    · have hq : q = true := HQ.out.2 fun j hj => HJ.out j (by omega)
      subst hq
      go_wp2
      go_ret
      exact ⟨rfl, hb⟩
end Go.Proofs.YtpoemflclbhekaaGreat
