/- Layer 20 (sched): Turns, of the code and of the reference; Due of both; which births may be. -/
import Derived.Test.YtmfgegebnjpanaaSchE
import Derived.Deep.RegionHeld3
namespace Go.Proofs.Ytmfgegebnjpanaa
open Go.RowKit
set_option linter.unusedVariables false
set_option linter.unusedSimpArgs false

set_option maxRecDepth 100000 in
set_option maxHeartbeats 4000000 in
theorem sch_upTo (dim win tr sam ev kind part whole tries keep notes t : Int) (w : World) (hev : 1 ≤ ev ∧ ev ≤ 256) (hs : 2 ≤ sam ∧ sam ≤ 64) (ht : inC t) :
    Calls Try.prog 108 #[cfV dim win tr sam ev kind part whole tries keep notes, .int .i64 t] w fun e w' => e = .returned (.int .i64 (upV sam ev t)) ∧ Below w.heap.size w w' := by
  have HX := Lib.hid (Box.new w #[.int .i64 dim, .int .i64 win, .int .i64 tr, .int .i64 sam, .int .i64 ev, .int .i64 kind, .int .i64 part, .int .i64 whole, .int .i64 tries, .int .i64 keep, .int .i64 notes] 88)
  obtain ⟨y0, y1, y2, y3, y4, y5, y6, y7, y8, y9, y10⟩ := box11 HX.out
  have HB := Lib.hid ((Below.refl w.heap.size w).alloc (Nat.le_refl _) (.cells #[.int .i64 dim, .int .i64 win, .int .i64 tr, .int .i64 sam, .int .i64 ev, .int .i64 kind, .int .i64 part, .int .i64 whole, .int .i64 tries, .int .i64 keep, .int .i64 notes] 88))
  unfold inC at ht
  have hw1 : IntKind.i64.wrap (sam - 1) = sam - 1 := by rw [IntKind.wrap_i64]; omega
  have hT : t.tdiv ev = t / ev := Int.tdiv_eq_ediv_of_nonneg ht.1
  have hS : (sam - 1).tdiv ev = (sam - 1) / ev := Int.tdiv_eq_ediv_of_nonneg (by omega)
  have hT1 : 0 ≤ t / ev := Int.ediv_nonneg ht.1 (by omega)
  have hT2 : t / ev ≤ t := Int.ediv_le_self _ ht.1
  have hS1 : 0 ≤ (sam - 1) / ev := Int.ediv_nonneg (by omega) (by omega)
  have hS2 : (sam - 1) / ev ≤ sam - 1 := Int.ediv_le_self _ (by omega)
  have HU : Hid (upV sam ev t = max 0 (t / ev - (sam - 1) / ev)) := rfl
  generalize upV sam ev t = U at *
  generalize t / ev = TT at *
  generalize (sam - 1) / ev = SS at *
  have hw2 : IntKind.i64.wrap (TT - SS) = TT - SS := by rw [IntKind.wrap_i64]; omega
  have hev0 : (ev == 0) = false := by simp; omega
  have hev1 : ¬ ev = 0 := by omega
  have hev2 : ¬ ev = -1 := by omega
  rcases Int.lt_trichotomy 0 (TT - SS) with h | h | h
  · obtain rfl : U = TT - SS := by rw [HU.out]; omega
    go_enter Try.func108, Try.ntmps108
    go_wp2
    go_region
    all_goals
      go_wp2
      go_ret
      exact ⟨rfl, below_drewN2 HB.out _⟩
  · obtain rfl : U = TT - SS := by rw [HU.out]; omega
    go_enter Try.func108, Try.ntmps108
    go_wp2
    go_region
    all_goals
      go_wp2
      go_ret
      exact ⟨rfl, below_drewN2 HB.out _⟩
  · obtain rfl : U = 0 := by rw [HU.out]; omega
    go_enter Try.func108, Try.ntmps108
    go_wp2
    go_region
    all_goals
      go_wp2
      go_ret
      exact ⟨rfl, below_drewN2 HB.out _⟩
end Go.Proofs.Ytmfgegebnjpanaa
