/- Layer 20 (sched): which ways to work are right: the contracts of Right, of the code and of the reference. -/
import Derived.Test.YtpoemflclbhekaaGreatSchM
import Derived.Test.YtpoemflclbhekaaGreatVecT
namespace Go.Proofs.YtpoemflclbhekaaGreat
open Go.RowKit
set_option linter.unusedVariables false
set_option linter.unusedSimpArgs false

abbrev cfV (dim win tr sam ev kind part whole tries keep notes : Int) : Value := .agg #[.int .i64 dim, .int .i64 win, .int .i64 tr, .int .i64 sam, .int .i64 ev, .int .i64 kind, .int .i64 part, .int .i64 whole, .int .i64 tries, .int .i64 keep, .int .i64 notes]
theorem box11 {w : World} {g : Nat} {dim win tr sam ev kind part whole tries keep notes : Value} {t : TypeId} (h : Box w g #[dim, win, tr, sam, ev, kind, part, whole, tries, keep, notes] t) :
    w.cell? ⟨g, 0, none⟩ = some dim ∧ w.cell? ⟨g, 1, none⟩ = some win ∧ w.cell? ⟨g, 2, none⟩ = some tr ∧ w.cell? ⟨g, 3, none⟩ = some sam ∧ w.cell? ⟨g, 4, none⟩ = some ev ∧ w.cell? ⟨g, 5, none⟩ = some kind ∧ w.cell? ⟨g, 6, none⟩ = some part ∧ w.cell? ⟨g, 7, none⟩ = some whole ∧ w.cell? ⟨g, 8, none⟩ = some tries ∧ w.cell? ⟨g, 9, none⟩ = some keep ∧ w.cell? ⟨g, 10, none⟩ = some notes :=
  ⟨(h.cell 0).trans rfl, (h.cell 1).trans rfl, (h.cell 2).trans rfl, (h.cell 3).trans rfl, (h.cell 4).trans rfl, (h.cell 5).trans rfl, (h.cell 6).trans rfl, (h.cell 7).trans rfl, (h.cell 8).trans rfl, (h.cell 9).trans rfl, (h.cell 10).trans rfl⟩
/-- the rows of conditions -/
def rowT (dim win tr sam ev kind part whole tries keep notes : Int) : List (Int × Int × Int) :=
  [(dim, 1, 8), (win, 2, 256), (tr, 1, 16), (sam, 2, min win 64), (ev, 1, 256), (kind, 1, 2), (whole, 2, 1000), (part, 1, wrap64 (whole - 1)), (tries, 1, 64), (keep, 1, 64), (notes, 1, 256)]
def rowsV (l : List (Int × Int × Int)) : Value := .agg (l.flatMap fun x => [.int .i64 x.1, .int .i64 x.2.1, .int .i64 x.2.2]).toArray
def RowOk (x : Int × Int × Int) : Prop := x.2.1 ≤ x.1 ∧ x.1 ≤ x.2.2
instance (x : Int × Int × Int) : Decidable (RowOk x) := by unfold RowOk; infer_instance
theorem rows_ok {dim win tr sam ev kind part whole tries keep notes : Int} (hw : I64 whole) : CfOk dim win tr sam ev kind part whole tries keep notes ↔ ∀ k, k < 11 → RowOk ((rowT dim win tr sam ev kind part whole tries keep notes).getD k (0, 0, 0)) := by
  unfold I64 at hw
  constructor
  · intro h k hk
    unfold CfOk at h
    have : k = 0 ∨ k = 1 ∨ k = 2 ∨ k = 3 ∨ k = 4 ∨ k = 5 ∨ k = 6 ∨ k = 7 ∨ k = 8 ∨ k = 9 ∨ k = 10 := by omega
    rcases this with rfl | rfl | rfl | rfl | rfl | rfl | rfl | rfl | rfl | rfl | rfl <;> (simp only [rowT, List.getD_cons_succ, List.getD_cons_zero, RowOk, wrap64]; omega)
  · intro h
    have h0 := h 0 (by omega)
    have h1 := h 1 (by omega)
    have h2 := h 2 (by omega)
    have h3 := h 3 (by omega)
    have h4 := h 4 (by omega)
    have h5 := h 5 (by omega)
    have h6 := h 6 (by omega)
    have h7 := h 7 (by omega)
    have h8 := h 8 (by omega)
    have h9 := h 9 (by omega)
    have h10 := h 10 (by omega)
    simp only [rowT, List.getD_cons_succ, List.getD_cons_zero, RowOk, wrap64] at h0 h1 h2 h3 h4 h5 h6 h7 h8 h9 h10
    unfold CfOk
    omega
set_option maxRecDepth 100000 in
theorem sch_holds (n lo hi : Int) (w : World) : Calls Tryz.prog 81 #[.agg #[.int .i64 n, .int .i64 lo, .int .i64 hi]] w fun e w' => e = .returned (.bool (decide (lo ≤ n ∧ n ≤ hi))) ∧ Below w.heap.size w w' := by
  have HX := Lib.hid (Box.new w #[.int .i64 n, .int .i64 lo, .int .i64 hi] 124)
  have y0 := (HX.out.cell 0).trans rfl
  have y1 := (HX.out.cell 1).trans rfl
  have y2 := (HX.out.cell 2).trans rfl
  have HB := Lib.hid ((Below.refl w.heap.size w).alloc (Nat.le_refl _) (.cells #[.int .i64 n, .int .i64 lo, .int .i64 hi] 124))
  go_enter Tryz.func81, Tryz.ntmps81
  go_wp2
  all_goals
    go_ret
    refine ⟨?_, HB.out⟩
    refine congrArg (fun b => Ending.returned (.bool b)) (?_ : (_ : Bool) = _)
    rw [Bool.eq_iff_iff]
    simp
    try omega
end Go.Proofs.YtpoemflclbhekaaGreat
