/- Layer 20 (sched): the reference's Turns; which births may be; Due of both. -/
import Derived.Test.YtmfgegebnjpanaaSchF
namespace Go.Proofs.Ytmfgegebnjpanaa
open Go.RowKit
set_option linter.unusedVariables false
set_option linter.unusedSimpArgs false

set_option maxRecDepth 100000 in
set_option maxHeartbeats 8000000 in
theorem ref20_Turns (dim win tr sam ev kind part whole tries keep notes : Int) (a b : Int) (w : World) :
    Calls Try.prog 65 #[cfV dim win tr sam ev kind part whole tries keep notes, .int .i64 a, .int .i64 b] w fun e w' => e = .returned (tuV (decide (CfOk dim win tr sam ev kind part whole tries keep notes)) sam ev a b) ∧ Below w.heap.size w w' := by
  have HX := Lib.hid (Box.new w #[.int .i64 dim, .int .i64 win, .int .i64 tr, .int .i64 sam, .int .i64 ev, .int .i64 kind, .int .i64 part, .int .i64 whole, .int .i64 tries, .int .i64 keep, .int .i64 notes] 88)
  obtain ⟨y0, y1, y2, y3, y4, y5, y6, y7, y8, y9, y10⟩ := box11 HX.out
  have HB := Lib.hid ((Below.refl w.heap.size w).alloc (Nat.le_refl _) (.cells #[.int .i64 dim, .int .i64 win, .int .i64 tr, .int .i64 sam, .int .i64 ev, .int .i64 kind, .int .i64 part, .int .i64 whole, .int .i64 tries, .int .i64 keep, .int .i64 notes] 88))
  have K1 := Lib.hid (fun W => ref20_Right dim win tr sam ev kind part whole tries keep notes W)
  by_cases hok : CfOk dim win tr sam ev kind part whole tries keep notes
  · have K2 := Lib.hid (fun W => ref20_Next dim win tr sam ev kind part whole tries keep notes a W)
    rw [okB.1 hok] at K1 K2 ⊢
    have KA := Lib.hid (fun W => ref20_in a 0 1099511627776 W)
    have KB := Lib.hid (fun W => ref20_in b 0 1099511627776 W)
    by_cases ha : inC a
    · rw [show decide (0 ≤ a ∧ a ≤ 1099511627776) = true from decide_eq_true ha] at KA
      by_cases hb : inC b
      · rw [show decide (0 ≤ b ∧ b ≤ 1099511627776) = true from decide_eq_true hb] at KB
        unfold tuV
        rw [(tu_ok (sam := sam) (ev := ev) ⟨ha, hb⟩).1, (tu_ok (sam := sam) (ev := ev) ⟨ha, hb⟩).2]
        unfold nxV at K2
        rw [(nx_ok (sam := sam) (ev := ev) ha).1, (nx_ok (sam := sam) (ev := ev) ha).2] at K2
        have hev : 1 ≤ ev ∧ ev ≤ 256 := by unfold CfOk at hok; omega
        have hsa : 2 ≤ sam ∧ sam ≤ 64 := by unfold CfOk at hok; omega
        have hnb := next_bd (sam := sam) (n := a) hev.1
        have HT := Lib.hid (turns_ref (sam := sam) (a := a) (b := b) hev.1)
        unfold inC at ha hb
        generalize nextV sam ev a = X at *
        generalize turnsV sam ev a b = U at *
        clear hok
        by_cases hX : b < X
        · obtain rfl : (0 : Int) = U := by have := HT.out; rw [if_pos hX] at this; exact this
          clear HT
          go_enter Try.func65, Try.ntmps65
          go_wp2_with fail
          refine (K1.out _).mono ?_
          rintro e w1 ⟨rfl, b1⟩
          have HX1 := Lib.hid (HX.out.below b1 HX.out.lt)
          have HB1 := Lib.hid (HB.out.trans (b1.mono HB.out.size))
          clear b1 y0 y1 y2 y3 y4 y5 y6 y7 y8 y9 y10 HX HB K1
          obtain ⟨y0, y1, y2, y3, y4, y5, y6, y7, y8, y9, y10⟩ := box11 HX1.out
          go_wp2_with (go_at_call 105; (first | with_reducible refine (KA.out _).mono ?_ | with_reducible refine (KB.out _).mono ?_); rintro e w1 ⟨rfl, rfl⟩)
          refine (K2.out _).mono ?_
          rintro e w2 ⟨rfl, b2⟩
          have HB2 := Lib.hid (HB1.out.trans (b2.mono HB1.out.size))
          clear b2 y0 y1 y2 y3 y4 y5 y6 y7 y8 y9 y10
          go_wp2
          go_ret2
          exact ⟨rfl, HB2.out⟩
        · have HT' : Hid ((b - X) / ev + 1 = U) := by have := HT.out; rw [if_neg hX] at this; exact this
          have hq1 : 0 ≤ (b - X) / ev := Int.ediv_nonneg (by omega) (by omega)
          have hq2 : (b - X) / ev ≤ b - X := Int.ediv_le_self _ (by omega)
          have hd : (b - X).tdiv ev = (b - X) / ev := Int.tdiv_eq_ediv_of_nonneg (by omega)
          generalize (b - X) / ev = q at *
          have hU := HT'.out
          subst hU
          clear HT HT'
          go_enter Try.func65, Try.ntmps65
          go_wp2_with fail
          refine (K1.out _).mono ?_
          rintro e w1 ⟨rfl, b1⟩
          have HX1 := Lib.hid (HX.out.below b1 HX.out.lt)
          have HB1 := Lib.hid (HB.out.trans (b1.mono HB.out.size))
          clear b1 y0 y1 y2 y3 y4 y5 y6 y7 y8 y9 y10 HX HB K1
          obtain ⟨y0, y1, y2, y3, y4, y5, y6, y7, y8, y9, y10⟩ := box11 HX1.out
          go_wp2_with (go_at_call 105; (first | with_reducible refine (KA.out _).mono ?_ | with_reducible refine (KB.out _).mono ?_); rintro e w1 ⟨rfl, rfl⟩)
          refine (K2.out _).mono ?_
          rintro e w2 ⟨rfl, b2⟩
          have HX2 := Lib.hid (HX1.out.below b2 HX1.out.lt)
          have HB2 := Lib.hid (HB1.out.trans (b2.mono HB1.out.size))
          clear b2 y0 y1 y2 y3 y4 y5 y6 y7 y8 y9 y10
          obtain ⟨y0, y1, y2, y3, y4, y5, y6, y7, y8, y9, y10⟩ := box11 HX2.out
          go_wp2
          go_ret2
          exact ⟨rfl, HB2.out⟩
      · rw [show decide (0 ≤ b ∧ b ≤ 1099511627776) = false from decide_eq_false hb] at KB
        unfold tuV
        rw [(tu_bad (sam := sam) (ev := ev) fun h => hb h.2).1, (tu_bad (sam := sam) (ev := ev) fun h => hb h.2).2]
        clear hok ha hb
        go_enter Try.func65, Try.ntmps65
        go_wp2_with fail
        refine (K1.out _).mono ?_
        rintro e w1 ⟨rfl, b1⟩
        have HX1 := Lib.hid (HX.out.below b1 HX.out.lt)
        have HB1 := Lib.hid (HB.out.trans (b1.mono HB.out.size))
        clear b1 y0 y1 y2 y3 y4 y5 y6 y7 y8 y9 y10 HX HB K1
        obtain ⟨y0, y1, y2, y3, y4, y5, y6, y7, y8, y9, y10⟩ := box11 HX1.out
        go_wp2_with (go_at_call 105; (first | with_reducible refine (KA.out _).mono ?_ | with_reducible refine (KB.out _).mono ?_); rintro e w1 ⟨rfl, rfl⟩)
        go_ret2
        exact ⟨rfl, HB1.out⟩
    · rw [show decide (0 ≤ a ∧ a ≤ 1099511627776) = false from decide_eq_false ha] at KA
      unfold tuV
      rw [(tu_bad (sam := sam) (ev := ev) fun h => ha h.1).1, (tu_bad (sam := sam) (ev := ev) fun h => ha h.1).2]
      clear hok ha
      go_enter Try.func65, Try.ntmps65
      go_wp2_with fail
      refine (K1.out _).mono ?_
      rintro e w1 ⟨rfl, b1⟩
      have HX1 := Lib.hid (HX.out.below b1 HX.out.lt)
      have HB1 := Lib.hid (HB.out.trans (b1.mono HB.out.size))
      clear b1 y0 y1 y2 y3 y4 y5 y6 y7 y8 y9 y10 HX HB K1
      obtain ⟨y0, y1, y2, y3, y4, y5, y6, y7, y8, y9, y10⟩ := box11 HX1.out
      go_wp2_with (go_at_call 105; refine (KA.out _).mono ?_; rintro e w1 ⟨rfl, rfl⟩)
      go_ret2
      exact ⟨rfl, HB1.out⟩
  · rw [okB.2 hok] at K1 ⊢
    unfold tuV
    rw [(tu_no (sam := sam) (ev := ev) (a := a) (b := b)).1, (tu_no (sam := sam) (ev := ev) (a := a) (b := b)).2]
    clear hok
    go_enter Try.func65, Try.ntmps65
    go_wp2_with fail
    refine (K1.out _).mono ?_
    rintro e w1 ⟨rfl, b1⟩
    have HX1 := Lib.hid (HX.out.below b1 HX.out.lt)
    have HB1 := Lib.hid (HB.out.trans (b1.mono HB.out.size))
    clear b1 y0 y1 y2 y3 y4 y5 y6 y7 y8 y9 y10 HX HB K1
    obtain ⟨y0, y1, y2, y3, y4, y5, y6, y7, y8, y9, y10⟩ := box11 HX1.out
    go_wp2
    go_ret2
    exact ⟨rfl, HB1.out⟩

end Go.Proofs.Ytmfgegebnjpanaa
