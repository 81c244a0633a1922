/- Layer 20 (sched): Turns, of the code and of the reference; Due of both; which births may be. -/
import Derived.Test.YtmfgegebnjpanaaSchF
import Derived.Deep.RegionHeld3
import Derived.Deep.RegionWith
namespace Go.Proofs.Ytmfgegebnjpanaa
open Go.RowKit
set_option linter.unusedVariables false
set_option linter.unusedSimpArgs false

theorem upV_bd {sam ev b : Int} (h : 1 ≤ ev) (hs : 2 ≤ sam) (hb : inC b) : 0 ≤ upV sam ev b ∧ upV sam ev b ≤ 1099511627776 := by
  unfold inC at hb
  have h1 : b / ev ≤ b := Int.ediv_le_self _ hb.1
  have h2 : 0 ≤ b / ev := Int.ediv_nonneg hb.1 (by omega)
  have h3 : 0 ≤ (sam - 1) / ev := Int.ediv_nonneg (by omega) (by omega)
  unfold upV
  omega
set_option maxRecDepth 100000 in
set_option maxHeartbeats 8000000 in
theorem sch_Turns (dim win tr sam ev kind part whole tries keep notes : Int) (hwh : I64 whole) (a b : Int) (w : World) :
    Calls Try.prog 64 #[cfV dim win tr sam ev kind part whole tries keep notes, .int .i64 a, .int .i64 b] w fun e w' => e = .returned (tuV (decide (CfOk dim win tr sam ev kind part whole tries keep notes)) sam ev a b) ∧ Below w.heap.size w w' := by
  have HX := Lib.hid (Box.new w #[.int .i64 dim, .int .i64 win, .int .i64 tr, .int .i64 sam, .int .i64 ev, .int .i64 kind, .int .i64 part, .int .i64 whole, .int .i64 tries, .int .i64 keep, .int .i64 notes] 88)
  obtain ⟨y0, y1, y2, y3, y4, y5, y6, y7, y8, y9, y10⟩ := box11 HX.out
  have HB := Lib.hid ((Below.refl w.heap.size w).alloc (Nat.le_refl _) (.cells #[.int .i64 dim, .int .i64 win, .int .i64 tr, .int .i64 sam, .int .i64 ev, .int .i64 kind, .int .i64 part, .int .i64 whole, .int .i64 tries, .int .i64 keep, .int .i64 notes] 88))
  have K1 := Lib.hid (fun g W hg => check20_two dim win tr sam ev kind part whole tries keep notes hwh a b g W hg)
  by_cases hok : CfOk dim win tr sam ev kind part whole tries keep notes
  · rw [okB.1 hok] at K1 ⊢
    by_cases hn : inC a ∧ inC b
    · rw [(ck_two a b).1 hn] at K1
      unfold tuV
      rw [(tu_ok (sam := sam) (ev := ev) hn).1, (tu_ok (sam := sam) (ev := ev) hn).2]
      have hev : 1 ≤ ev ∧ ev ≤ 256 := by unfold CfOk at hok; omega
      have hsa : 2 ≤ sam ∧ sam ≤ 64 := by unfold CfOk at hok; omega
      have KA := Lib.hid (fun W => sch_upTo dim win tr sam ev kind part whole tries keep notes a W hev hsa hn.1)
      have KB := Lib.hid (fun W => sch_upTo dim win tr sam ev kind part whole tries keep notes b W hev hsa hn.2)
      have ha1 := upV_bd hev.1 hsa.1 hn.1
      have hb1 := upV_bd hev.1 hsa.1 hn.2
      have HT : Hid (turnsV sam ev a b = max 0 (upV sam ev b - upV sam ev a)) := rfl
      generalize turnsV sam ev a b = U at *
      generalize upV sam ev a = X at *
      generalize upV sam ev b = Y at *
      have hw2 : IntKind.i64.wrap (Y - X) = Y - X := by rw [IntKind.wrap_i64]; omega
      clear hok hn hwh
      rcases Int.lt_trichotomy 0 (Y - X) with h | h | h
      · obtain rfl : U = Y - X := by rw [HT.out]; omega
        go_enter Try.func64, Try.ntmps64
        go_wp2_with fail
        refine (K1.out _ _ (by simp)).mono ?_
        rintro e w1 ⟨rfl, b1⟩
        have HX1 := Lib.hid (HX.out.below b1 HX.out.lt)
        have HB1 := Lib.hid (HB.out.trans (b1.mono HB.out.size))
        clear b1 y0 y1 y2 y3 y4 y5 y6 y7 y8 y9 y10 HX HB K1
        obtain ⟨y0, y1, y2, y3, y4, y5, y6, y7, y8, y9, y10⟩ := box11 HX1.out
        go_wp2
        have HX1 := Lib.hid (HX1.out.drewN 1)
        have HB1 := Lib.hid (below_drewN2 HB1.out 1)
        clear y0 y1 y2 y3 y4 y5 y6 y7 y8 y9 y10
        obtain ⟨y0, y1, y2, y3, y4, y5, y6, y7, y8, y9, y10⟩ := box11 HX1.out
        rw [show w1.drewN 1 = w1.drew from rfl] at *
        go_region_held3 (fun W => W.cell? ⟨w.heap.size, 0, none⟩ = some (.int .i64 dim) ∧ W.cell? ⟨w.heap.size, 1, none⟩ = some (.int .i64 win) ∧ W.cell? ⟨w.heap.size, 2, none⟩ = some (.int .i64 tr) ∧ W.cell? ⟨w.heap.size, 3, none⟩ = some (.int .i64 sam) ∧ W.cell? ⟨w.heap.size, 4, none⟩ = some (.int .i64 ev) ∧ W.cell? ⟨w.heap.size, 5, none⟩ = some (.int .i64 kind) ∧ W.cell? ⟨w.heap.size, 6, none⟩ = some (.int .i64 part) ∧ W.cell? ⟨w.heap.size, 7, none⟩ = some (.int .i64 whole) ∧ W.cell? ⟨w.heap.size, 8, none⟩ = some (.int .i64 tries) ∧ W.cell? ⟨w.heap.size, 9, none⟩ = some (.int .i64 keep) ∧ W.cell? ⟨w.heap.size, 10, none⟩ = some (.int .i64 notes)) (go_keep)
          (first
            | (go_at_call_of 108 b; refine (KB.out _).mono ?_; rintro e w5 ⟨rfl, b5⟩; have HX1 := Lib.hid (HX1.out.below b5 HX1.out.lt); have HB1 := Lib.hid (HB1.out.trans (b5.mono HB1.out.size)); obtain ⟨y0, y1, y2, y3, y4, y5, y6, y7, y8, y9, y10⟩ := box11 HX1.out; clear b5)
            | (go_at_call_of 108 a; refine (KA.out _).mono ?_; rintro e w5 ⟨rfl, b5⟩; have HX1 := Lib.hid (HX1.out.below b5 HX1.out.lt); have HB1 := Lib.hid (HB1.out.trans (b5.mono HB1.out.size)); obtain ⟨y0, y1, y2, y3, y4, y5, y6, y7, y8, y9, y10⟩ := box11 HX1.out; clear b5))
        all_goals
          go_wp2
          go_ret2
          exact ⟨rfl, HB1.out⟩
      · obtain rfl : U = 0 := by rw [HT.out]; omega
        have hw2 : IntKind.i64.wrap (Y - X) = 0 := by rw [hw2]; omega
        have h0 : Y - X = 0 := h.symm
        clear h
        go_enter Try.func64, Try.ntmps64
        go_wp2_with fail
        refine (K1.out _ _ (by simp)).mono ?_
        rintro e w1 ⟨rfl, b1⟩
        have HX1 := Lib.hid (HX.out.below b1 HX.out.lt)
        have HB1 := Lib.hid (HB.out.trans (b1.mono HB.out.size))
        clear b1 y0 y1 y2 y3 y4 y5 y6 y7 y8 y9 y10 HX HB K1
        obtain ⟨y0, y1, y2, y3, y4, y5, y6, y7, y8, y9, y10⟩ := box11 HX1.out
        go_wp2
        have HX1 := Lib.hid (HX1.out.drewN 1)
        have HB1 := Lib.hid (below_drewN2 HB1.out 1)
        clear y0 y1 y2 y3 y4 y5 y6 y7 y8 y9 y10
        obtain ⟨y0, y1, y2, y3, y4, y5, y6, y7, y8, y9, y10⟩ := box11 HX1.out
        rw [show w1.drewN 1 = w1.drew from rfl] at *
        go_region_held3 (fun W => W.cell? ⟨w.heap.size, 0, none⟩ = some (.int .i64 dim) ∧ W.cell? ⟨w.heap.size, 1, none⟩ = some (.int .i64 win) ∧ W.cell? ⟨w.heap.size, 2, none⟩ = some (.int .i64 tr) ∧ W.cell? ⟨w.heap.size, 3, none⟩ = some (.int .i64 sam) ∧ W.cell? ⟨w.heap.size, 4, none⟩ = some (.int .i64 ev) ∧ W.cell? ⟨w.heap.size, 5, none⟩ = some (.int .i64 kind) ∧ W.cell? ⟨w.heap.size, 6, none⟩ = some (.int .i64 part) ∧ W.cell? ⟨w.heap.size, 7, none⟩ = some (.int .i64 whole) ∧ W.cell? ⟨w.heap.size, 8, none⟩ = some (.int .i64 tries) ∧ W.cell? ⟨w.heap.size, 9, none⟩ = some (.int .i64 keep) ∧ W.cell? ⟨w.heap.size, 10, none⟩ = some (.int .i64 notes)) (go_keep)
          (first
            | (go_at_call_of 108 b; refine (KB.out _).mono ?_; rintro e w5 ⟨rfl, b5⟩; have HX1 := Lib.hid (HX1.out.below b5 HX1.out.lt); have HB1 := Lib.hid (HB1.out.trans (b5.mono HB1.out.size)); obtain ⟨y0, y1, y2, y3, y4, y5, y6, y7, y8, y9, y10⟩ := box11 HX1.out; clear b5)
            | (go_at_call_of 108 a; refine (KA.out _).mono ?_; rintro e w5 ⟨rfl, b5⟩; have HX1 := Lib.hid (HX1.out.below b5 HX1.out.lt); have HB1 := Lib.hid (HB1.out.trans (b5.mono HB1.out.size)); obtain ⟨y0, y1, y2, y3, y4, y5, y6, y7, y8, y9, y10⟩ := box11 HX1.out; clear b5))
        all_goals
          go_wp2
          go_ret2
          exact ⟨rfl, HB1.out⟩
      · obtain rfl : U = 0 := by rw [HT.out]; omega
        go_enter Try.func64, Try.ntmps64
        go_wp2_with fail
        refine (K1.out _ _ (by simp)).mono ?_
        rintro e w1 ⟨rfl, b1⟩
        have HX1 := Lib.hid (HX.out.below b1 HX.out.lt)
        have HB1 := Lib.hid (HB.out.trans (b1.mono HB.out.size))
        clear b1 y0 y1 y2 y3 y4 y5 y6 y7 y8 y9 y10 HX HB K1
        obtain ⟨y0, y1, y2, y3, y4, y5, y6, y7, y8, y9, y10⟩ := box11 HX1.out
        go_wp2
        have HX1 := Lib.hid (HX1.out.drewN 1)
        have HB1 := Lib.hid (below_drewN2 HB1.out 1)
        clear y0 y1 y2 y3 y4 y5 y6 y7 y8 y9 y10
        obtain ⟨y0, y1, y2, y3, y4, y5, y6, y7, y8, y9, y10⟩ := box11 HX1.out
        rw [show w1.drewN 1 = w1.drew from rfl] at *
        go_region_held3 (fun W => W.cell? ⟨w.heap.size, 0, none⟩ = some (.int .i64 dim) ∧ W.cell? ⟨w.heap.size, 1, none⟩ = some (.int .i64 win) ∧ W.cell? ⟨w.heap.size, 2, none⟩ = some (.int .i64 tr) ∧ W.cell? ⟨w.heap.size, 3, none⟩ = some (.int .i64 sam) ∧ W.cell? ⟨w.heap.size, 4, none⟩ = some (.int .i64 ev) ∧ W.cell? ⟨w.heap.size, 5, none⟩ = some (.int .i64 kind) ∧ W.cell? ⟨w.heap.size, 6, none⟩ = some (.int .i64 part) ∧ W.cell? ⟨w.heap.size, 7, none⟩ = some (.int .i64 whole) ∧ W.cell? ⟨w.heap.size, 8, none⟩ = some (.int .i64 tries) ∧ W.cell? ⟨w.heap.size, 9, none⟩ = some (.int .i64 keep) ∧ W.cell? ⟨w.heap.size, 10, none⟩ = some (.int .i64 notes)) (go_keep)
          (first
            | (go_at_call_of 108 b; refine (KB.out _).mono ?_; rintro e w5 ⟨rfl, b5⟩; have HX1 := Lib.hid (HX1.out.below b5 HX1.out.lt); have HB1 := Lib.hid (HB1.out.trans (b5.mono HB1.out.size)); obtain ⟨y0, y1, y2, y3, y4, y5, y6, y7, y8, y9, y10⟩ := box11 HX1.out; clear b5)
            | (go_at_call_of 108 a; refine (KA.out _).mono ?_; rintro e w5 ⟨rfl, b5⟩; have HX1 := Lib.hid (HX1.out.below b5 HX1.out.lt); have HB1 := Lib.hid (HB1.out.trans (b5.mono HB1.out.size)); obtain ⟨y0, y1, y2, y3, y4, y5, y6, y7, y8, y9, y10⟩ := box11 HX1.out; clear b5))
        all_goals
          go_wp2
          go_ret2
          exact ⟨rfl, HB1.out⟩
    · rw [(ck_two a b).2 hn] at K1
      unfold tuV
      rw [(tu_bad (sam := sam) (ev := ev) hn).1, (tu_bad (sam := sam) (ev := ev) hn).2]
      clear hok hn hwh
      go_enter Try.func64, Try.ntmps64
      go_wp2_with fail
      refine (K1.out _ _ (by simp)).mono ?_
      rintro e w1 ⟨rfl, b1⟩
      have HX1 := Lib.hid (HX.out.below b1 HX.out.lt)
      have HB1 := Lib.hid (HB.out.trans (b1.mono HB.out.size))
      clear b1 y0 y1 y2 y3 y4 y5 y6 y7 y8 y9 y10 HX HB K1
      obtain ⟨y0, y1, y2, y3, y4, y5, y6, y7, y8, y9, y10⟩ := box11 HX1.out
      go_wp2
      go_ret2
      exact ⟨rfl, HB1.out⟩
  · rw [okB.2 hok] at K1 ⊢
    rw [ckN_no] at K1
    unfold tuV
    rw [(tu_no (sam := sam) (ev := ev) (a := a) (b := b)).1, (tu_no (sam := sam) (ev := ev) (a := a) (b := b)).2]
    clear hok hwh
    go_enter Try.func64, Try.ntmps64
    go_wp2_with fail
    refine (K1.out _ _ (by simp)).mono ?_
    rintro e w1 ⟨rfl, b1⟩
    have HX1 := Lib.hid (HX.out.below b1 HX.out.lt)
    have HB1 := Lib.hid (HB.out.trans (b1.mono HB.out.size))
    clear b1 y0 y1 y2 y3 y4 y5 y6 y7 y8 y9 y10 HX HB K1
    obtain ⟨y0, y1, y2, y3, y4, y5, y6, y7, y8, y9, y10⟩ := box11 HX1.out
    go_wp2
    go_ret2
    exact ⟨rfl, HB1.out⟩
end Go.Proofs.Ytmfgegebnjpanaa
