/- ItmL ItmM ItmN -/
import Derived.Test.YtpoemflclbhekaaItmCd
import Derived.Test.YtpoemflclbhekaaBinRf
import Derived.Deep.RegionWith

/-! Layer 22 (item): requests as bytes, in the reference; form, SameAsk. -/
namespace Go.Proofs.Ytpoemflclbhekaa
open Go.RowKit
set_option linter.unusedVariables false
set_option linter.unusedSimpArgs false

set_option maxRecDepth 100000 in
set_option maxHeartbeats 8000000 in
theorem ref_Ask (k id n m : Int) (X : List Int) (A : Option Addr) (c : Nat) (w : World) (hA : Lies w w.heap.size A X) : Calls Try.prog 24 #[.agg #[.int .i64 k, .int .i64 id, .slice A X.length c, .int .i64 n, .int .i64 m]] w (GivesY (aW k id n m X) w) := by
  have hb1 := (Below.refl w.heap.size w).alloc (Nat.le_refl _) (.cells #[.int .i64 k, .int .i64 id, .slice A X.length c, .int .i64 n, .int .i64 m] 41)
  have HX := Lib.hid (Box.new w #[.int .i64 k, .int .i64 id, .slice A X.length c, .int .i64 n, .int .i64 m] 41)
  have KR := Lib.hid (ref_RightAsk k id n m X A c _ (((hA.below hb1).mono hb1.size)))
  have HB := Lib.hid hb1
  have HS : Hid (w.heap.size + 1 ≤ (w.alloc (.cells #[.int .i64 k, .int .i64 id, .slice A X.length c, .int .i64 n, .int .i64 m] 41)).heap.size) := by show _ ≤ _; rw [alloc_size']; exact Nat.le_refl _
  unfold aW
  by_cases hr : rightA k id n m X = true
  case neg =>
    rw [if_neg hr]
    have hr2 : rightA k id n m X = false := by simpa using hr
    rw [hr2] at KR
    clear hr hr2 hA hb1
    generalize X.length = N at *
    go_enter Try.func24, Try.ntmps24
    go_wp2_with fail
    refine (KR.out).mono ?_
    rintro e w1 ⟨rfl, b1⟩
    have HB1 := Lib.hid (HB.out.trans (b1.mono HB.out.size))
    clear b1
    go_wp2
    go_ret
    exact ⟨⟨_, rfl, OwnsY.nil _ _⟩, HB1.out⟩
  rw [if_pos hr]
  rw [hr] at KR
  obtain ⟨⟨k1, k2⟩, hX8, ⟨i1, i2⟩, ⟨n1, n2⟩, ⟨m1, m2⟩, hXr, -⟩ := (right_iff ..).mp hr
  obtain ⟨jk, rfl⟩ := Int.eq_ofNat_of_zero_le (show 0 ≤ k by omega)
  obtain ⟨ji, rfl⟩ := Int.eq_ofNat_of_zero_le i1
  obtain ⟨jn, rfl⟩ := Int.eq_ofNat_of_zero_le n1
  obtain ⟨jm, rfl⟩ := Int.eq_ofNat_of_zero_le m1
  unfold aB
  simp only [Int.toNat_natCast]
  have KU : Hid (∀ (W : World) (j : Nat), j ≤ 1099511627776 → Calls Try.prog 93 #[.int .u64 (j : Nat)] W fun e w' => (∃ A c, e = .returned (.slice A (uB j).length c) ∧ LiesY w' w'.heap.size A (uB j) ∧ (A = none → c = 0) ∧ OwnsY w' W.heap.size (.slice A (uB j).length c) (uB j)) ∧ Below W.heap.size W w') := fun W j hj => (ref_UY j W (by omega)).mono fun e w' h => by
    obtain ⟨⟨v, rfl, g1⟩, g2⟩ := h
    obtain ⟨A1, c1, rfl, q1, q2, q3, q4, -⟩ := g1.lies
    exact ⟨⟨A1, c1, rfl, q3, q4, g1⟩, g2⟩
  have KL : Hid (∀ (W : World), Below w.heap.size w W → Calls Try.prog 102 #[.slice A X.length c] W fun e w' => (∃ A c, e = .returned (.slice A (lB X).length c) ∧ LiesY w' w'.heap.size A (lB X) ∧ (A = none → c = 0)) ∧ Below W.heap.size W w') := fun W hW => (ref_LY X A c W ((hA.below hW).mono hW.size) (by omega) (fun x hx => by have := hXr x hx; unfold I64; omega)).mono fun e w' h => by
    obtain ⟨⟨v, rfl, g1⟩, g2⟩ := h
    obtain ⟨A1, c1, rfl, q1, q2, q3, q4, -⟩ := g1.lies
    exact ⟨⟨A1, c1, rfl, q3, q4⟩, g2⟩
  have KN := Lib.hid (fun W => ref_names (jk : Int) W)
  have HK9 : Hid ((uB jk).length ≤ 9) := (uB_len (by omega)).2
  have HI9 : Hid ((uB ji).length ≤ 9) := (uB_len (by omega)).2
  have HN9 : Hid ((uB jn).length ≤ 9) := (uB_len (by omega)).2
  have HM9 : Hid ((uB jm).length ≤ 9) := (uB_len (by omega)).2
  have HL9 : Hid ((lB X).length ≤ 9 + 9 * X.length) := by
    show _ ≤ _
    have h2 := (uB_len (n := X.length) (by omega)).2
    have h3 := flat_iB X (fun x hx => by have := hXr x hx; unfold I64; omega)
    unfold lB
    rw [List.length_append]
    omega
  have HX8 := Lib.hid hX8
  have ek : (jk : Int) % 18446744073709551616 = (jk : Int) := by omega
  have ei : (ji : Int) % 18446744073709551616 = (ji : Int) := by omega
  have en : (jn : Int) % 18446744073709551616 = (jn : Int) := by omega
  have em : (jm : Int) % 18446744073709551616 = (jm : Int) := by omega
  have b0 : jk ≤ 1099511627776 := by omega
  have b1 : ji ≤ 1099511627776 := by omega
  have b2 : jn ≤ 1099511627776 := by omega
  have b3 : jm ≤ 1099511627776 := by omega
  clear hA hb1 hXr hr
  generalize lB X = XL at *
  generalize X.length = NX at *
  rcases pats (jk : Int) with ⟨p1, p2, p3, p4⟩ | ⟨p1, p2, p3, p4⟩ | ⟨p1, p2, p3, p4⟩ | ⟨p1, p2, p3, p4⟩ | ⟨p1, p2, p3, p4⟩
  · rw [p1, p2, p3, p4] at KN
    rw [p1, p2, p3, p4]
    simp only [if_true, if_false, Bool.false_eq_true, List.append_nil]
    clear p1 p2 p3 p4
    go_enter Try.func24, Try.ntmps24
    go_wp2_with fail
    refine (KR.out).mono ?_
    rintro e w1 ⟨rfl, g2⟩
    have HXW := Lib.hid (HX.out.below g2 HX.out.lt)
    have HBW := Lib.hid (HB.out.trans (g2.mono HB.out.size))
    have HSW := Lib.hid (Nat.le_trans HS.out g2.size)
    clear g2
    obtain ⟨x0, x1, x2, x3, x4⟩ := HXW.out.five
    go_wp2_with fail
    refine (KU.out w1 jk b0).mono ?_
    rintro e w2 ⟨⟨A1, c1, rfl, -, -, g1⟩, g2⟩
    have HO := Lib.hid (ownY_le g1 HSW.out)
    have HXW := Lib.hid (HXW.out.below g2 HXW.out.lt)
    have HBW := Lib.hid (HBW.out.trans (g2.mono HBW.out.size))
    have HSW := Lib.hid (Nat.le_trans HSW.out g2.size)
    clear g1 g2 x0 x1 x2 x3 x4
    obtain ⟨x0, x1, x2, x3, x4⟩ := HXW.out.five
    go_wp2_with fail
    refine (KN.out _).mono ?_
    rintro e wq ⟨rfl, rfl⟩
    go_wp2_with fail
    refine (KU.out _ ji b1).mono ?_
    rintro e wi ⟨⟨Ay, cy, rfl, y1, y2, -⟩, g2⟩
    have HY := Lib.hid y1
    have HYc := Lib.hid y2
    have HO := Lib.hid (HO.out.below g2)
    have HXW := Lib.hid (HXW.out.below g2 HXW.out.lt)
    have HBW := Lib.hid (HBW.out.trans (g2.mono HBW.out.size))
    have HSW := Lib.hid (Nat.le_trans HSW.out g2.size)
    have HLN : Hid ((uB jk).length + (uB ji).length ≤ 1000000000) := by show _ ≤ _; exact (by have := HK9.out; have := HI9.out; have := HN9.out; have := HM9.out; have := HL9.out; have := HX8.out; (try simp only [List.length_append]); omega)
    clear y1 y2 g2 x0 x1 x2 x3 x4
    go_wp2_with (at_builtin; refine app_own (B := w.heap.size + 1) rfl (.tmp 24) (.tmp 28) rfl _ (uB jk) (uB ji) Ay cy (uB ji).length rfl rfl rfl HYc.out HO.out HY.out HSW.out HLN.out ?_; intro vi wib g1 g2; have HO := Lib.hid g1; have HXW := Lib.hid (HXW.out.below g2 (Nat.lt_succ_self _)); have HBW := Lib.hid (HBW.out.trans (g2.mono (Nat.le_succ _))); have HSW := Lib.hid (Nat.le_trans HSW.out g2.size); clear g1 g2; obtain ⟨x0, x1, x2, x3, x4⟩ := HXW.out.five)
    refine (KL.out _ HBW.out).mono ?_
    rintro e wx ⟨⟨Ay, cy, rfl, y1, y2⟩, g2⟩
    have HY := Lib.hid y1
    have HYc := Lib.hid y2
    have HO := Lib.hid (HO.out.below g2)
    have HXW := Lib.hid (HXW.out.below g2 HXW.out.lt)
    have HBW := Lib.hid (HBW.out.trans (g2.mono HBW.out.size))
    have HSW := Lib.hid (Nat.le_trans HSW.out g2.size)
    have HLN : Hid ((uB jk ++ uB ji).length + (XL).length ≤ 1000000000) := by show _ ≤ _; exact (by have := HK9.out; have := HI9.out; have := HN9.out; have := HM9.out; have := HL9.out; have := HX8.out; (try simp only [List.length_append]); omega)
    clear y1 y2 g2 x0 x1 x2 x3 x4
    go_wp2_with (at_builtin; refine app_own (B := w.heap.size + 1) rfl (.tmp 31) (.tmp 34) rfl vi (uB jk ++ uB ji) (XL) Ay cy (XL).length rfl rfl rfl HYc.out HO.out HY.out HSW.out HLN.out ?_; intro vx wxb g1 g2; have HO := Lib.hid g1; have HXW := Lib.hid (HXW.out.below g2 (Nat.lt_succ_self _)); have HBW := Lib.hid (HBW.out.trans (g2.mono (Nat.le_succ _))); have HSW := Lib.hid (Nat.le_trans HSW.out g2.size); clear g1 g2; obtain ⟨x0, x1, x2, x3, x4⟩ := HXW.out.five)
    go_ret
    exact ⟨⟨_, rfl, ownY_le HO.out (Nat.le_succ _)⟩, HBW.out⟩
  · rw [p1, p2, p3, p4] at KN
    rw [p1, p2, p3, p4]
    simp only [if_true, if_false, Bool.false_eq_true, List.append_nil]
    clear p1 p2 p3 p4
    go_enter Try.func24, Try.ntmps24
    go_wp2_with fail
    refine (KR.out).mono ?_
    rintro e w1 ⟨rfl, g2⟩
    have HXW := Lib.hid (HX.out.below g2 HX.out.lt)
    have HBW := Lib.hid (HB.out.trans (g2.mono HB.out.size))
    have HSW := Lib.hid (Nat.le_trans HS.out g2.size)
    clear g2
    obtain ⟨x0, x1, x2, x3, x4⟩ := HXW.out.five
    go_wp2_with fail
    refine (KU.out w1 jk b0).mono ?_
    rintro e w2 ⟨⟨A1, c1, rfl, -, -, g1⟩, g2⟩
    have HO := Lib.hid (ownY_le g1 HSW.out)
    have HXW := Lib.hid (HXW.out.below g2 HXW.out.lt)
    have HBW := Lib.hid (HBW.out.trans (g2.mono HBW.out.size))
    have HSW := Lib.hid (Nat.le_trans HSW.out g2.size)
    clear g1 g2 x0 x1 x2 x3 x4
    obtain ⟨x0, x1, x2, x3, x4⟩ := HXW.out.five
    go_wp2_with fail
    refine (KN.out _).mono ?_
    rintro e wq ⟨rfl, rfl⟩
    go_wp2_with fail
    refine (KL.out _ HBW.out).mono ?_
    rintro e wx ⟨⟨Ay, cy, rfl, y1, y2⟩, g2⟩
    have HY := Lib.hid y1
    have HYc := Lib.hid y2
    have HO := Lib.hid (HO.out.below g2)
    have HXW := Lib.hid (HXW.out.below g2 HXW.out.lt)
    have HBW := Lib.hid (HBW.out.trans (g2.mono HBW.out.size))
    have HSW := Lib.hid (Nat.le_trans HSW.out g2.size)
    have HLN : Hid ((uB jk).length + (XL).length ≤ 1000000000) := by show _ ≤ _; exact (by have := HK9.out; have := HI9.out; have := HN9.out; have := HM9.out; have := HL9.out; have := HX8.out; (try simp only [List.length_append]); omega)
    clear y1 y2 g2 x0 x1 x2 x3 x4
    go_wp2_with (at_builtin; refine app_own (B := w.heap.size + 1) rfl (.tmp 31) (.tmp 34) rfl _ (uB jk) (XL) Ay cy (XL).length rfl rfl rfl HYc.out HO.out HY.out HSW.out HLN.out ?_; intro vx wxb g1 g2; have HO := Lib.hid g1; have HXW := Lib.hid (HXW.out.below g2 (Nat.lt_succ_self _)); have HBW := Lib.hid (HBW.out.trans (g2.mono (Nat.le_succ _))); have HSW := Lib.hid (Nat.le_trans HSW.out g2.size); clear g1 g2; obtain ⟨x0, x1, x2, x3, x4⟩ := HXW.out.five)
    go_ret
    exact ⟨⟨_, rfl, ownY_le HO.out (Nat.le_succ _)⟩, HBW.out⟩
  · rw [p1, p2, p3, p4] at KN
    rw [p1, p2, p3, p4]
    simp only [if_true, if_false, Bool.false_eq_true, List.append_nil]
    clear p1 p2 p3 p4
    go_enter Try.func24, Try.ntmps24
    go_wp2_with fail
    refine (KR.out).mono ?_
    rintro e w1 ⟨rfl, g2⟩
    have HXW := Lib.hid (HX.out.below g2 HX.out.lt)
    have HBW := Lib.hid (HB.out.trans (g2.mono HB.out.size))
    have HSW := Lib.hid (Nat.le_trans HS.out g2.size)
    clear g2
    obtain ⟨x0, x1, x2, x3, x4⟩ := HXW.out.five
    go_wp2_with fail
    refine (KU.out w1 jk b0).mono ?_
    rintro e w2 ⟨⟨A1, c1, rfl, -, -, g1⟩, g2⟩
    have HO := Lib.hid (ownY_le g1 HSW.out)
    have HXW := Lib.hid (HXW.out.below g2 HXW.out.lt)
    have HBW := Lib.hid (HBW.out.trans (g2.mono HBW.out.size))
    have HSW := Lib.hid (Nat.le_trans HSW.out g2.size)
    clear g1 g2 x0 x1 x2 x3 x4
    obtain ⟨x0, x1, x2, x3, x4⟩ := HXW.out.five
    go_wp2_with fail
    refine (KN.out _).mono ?_
    rintro e wq ⟨rfl, rfl⟩
    go_wp2_with fail
    refine (KU.out _ jn b2).mono ?_
    rintro e wn ⟨⟨Ay, cy, rfl, y1, y2, -⟩, g2⟩
    have HY := Lib.hid y1
    have HYc := Lib.hid y2
    have HO := Lib.hid (HO.out.below g2)
    have HXW := Lib.hid (HXW.out.below g2 HXW.out.lt)
    have HBW := Lib.hid (HBW.out.trans (g2.mono HBW.out.size))
    have HSW := Lib.hid (Nat.le_trans HSW.out g2.size)
    have HLN : Hid ((uB jk).length + (uB jn).length ≤ 1000000000) := by show _ ≤ _; exact (by have := HK9.out; have := HI9.out; have := HN9.out; have := HM9.out; have := HL9.out; have := HX8.out; (try simp only [List.length_append]); omega)
    clear y1 y2 g2 x0 x1 x2 x3 x4
    go_wp2_with (at_builtin; refine app_own (B := w.heap.size + 1) rfl (.tmp 37) (.tmp 41) rfl _ (uB jk) (uB jn) Ay cy (uB jn).length rfl rfl rfl HYc.out HO.out HY.out HSW.out HLN.out ?_; intro vn wnb g1 g2; have HO := Lib.hid g1; have HXW := Lib.hid (HXW.out.below g2 (Nat.lt_succ_self _)); have HBW := Lib.hid (HBW.out.trans (g2.mono (Nat.le_succ _))); have HSW := Lib.hid (Nat.le_trans HSW.out g2.size); clear g1 g2; obtain ⟨x0, x1, x2, x3, x4⟩ := HXW.out.five)
    refine (KU.out _ jm b3).mono ?_
    rintro e wm ⟨⟨Ay, cy, rfl, y1, y2, -⟩, g2⟩
    have HY := Lib.hid y1
    have HYc := Lib.hid y2
    have HO := Lib.hid (HO.out.below g2)
    have HXW := Lib.hid (HXW.out.below g2 HXW.out.lt)
    have HBW := Lib.hid (HBW.out.trans (g2.mono HBW.out.size))
    have HSW := Lib.hid (Nat.le_trans HSW.out g2.size)
    have HLN : Hid ((uB jk ++ uB jn).length + (uB jm).length ≤ 1000000000) := by show _ ≤ _; exact (by have := HK9.out; have := HI9.out; have := HN9.out; have := HM9.out; have := HL9.out; have := HX8.out; (try simp only [List.length_append]); omega)
    clear y1 y2 g2 x0 x1 x2 x3 x4
    go_wp2_with (at_builtin; refine app_own (B := w.heap.size + 1) rfl (.tmp 44) (.tmp 48) rfl vn (uB jk ++ uB jn) (uB jm) Ay cy (uB jm).length rfl rfl rfl HYc.out HO.out HY.out HSW.out HLN.out ?_; intro vm wmb g1 g2; have HO := Lib.hid g1; have HXW := Lib.hid (HXW.out.below g2 (Nat.lt_succ_self _)); have HBW := Lib.hid (HBW.out.trans (g2.mono (Nat.le_succ _))); have HSW := Lib.hid (Nat.le_trans HSW.out g2.size); clear g1 g2; obtain ⟨x0, x1, x2, x3, x4⟩ := HXW.out.five)
    go_ret
    exact ⟨⟨_, rfl, ownY_le HO.out (Nat.le_succ _)⟩, HBW.out⟩
  · rw [p1, p2, p3, p4] at KN
    rw [p1, p2, p3, p4]
    simp only [if_true, if_false, Bool.false_eq_true, List.append_nil]
    clear p1 p2 p3 p4
    go_enter Try.func24, Try.ntmps24
    go_wp2_with fail
    refine (KR.out).mono ?_
    rintro e w1 ⟨rfl, g2⟩
    have HXW := Lib.hid (HX.out.below g2 HX.out.lt)
    have HBW := Lib.hid (HB.out.trans (g2.mono HB.out.size))
    have HSW := Lib.hid (Nat.le_trans HS.out g2.size)
    clear g2
    obtain ⟨x0, x1, x2, x3, x4⟩ := HXW.out.five
    go_wp2_with fail
    refine (KU.out w1 jk b0).mono ?_
    rintro e w2 ⟨⟨A1, c1, rfl, -, -, g1⟩, g2⟩
    have HO := Lib.hid (ownY_le g1 HSW.out)
    have HXW := Lib.hid (HXW.out.below g2 HXW.out.lt)
    have HBW := Lib.hid (HBW.out.trans (g2.mono HBW.out.size))
    have HSW := Lib.hid (Nat.le_trans HSW.out g2.size)
    clear g1 g2 x0 x1 x2 x3 x4
    obtain ⟨x0, x1, x2, x3, x4⟩ := HXW.out.five
    go_wp2_with fail
    refine (KN.out _).mono ?_
    rintro e wq ⟨rfl, rfl⟩
    go_wp2_with fail
    refine (KU.out _ jn b2).mono ?_
    rintro e wn ⟨⟨Ay, cy, rfl, y1, y2, -⟩, g2⟩
    have HY := Lib.hid y1
    have HYc := Lib.hid y2
    have HO := Lib.hid (HO.out.below g2)
    have HXW := Lib.hid (HXW.out.below g2 HXW.out.lt)
    have HBW := Lib.hid (HBW.out.trans (g2.mono HBW.out.size))
    have HSW := Lib.hid (Nat.le_trans HSW.out g2.size)
    have HLN : Hid ((uB jk).length + (uB jn).length ≤ 1000000000) := by show _ ≤ _; exact (by have := HK9.out; have := HI9.out; have := HN9.out; have := HM9.out; have := HL9.out; have := HX8.out; (try simp only [List.length_append]); omega)
    clear y1 y2 g2 x0 x1 x2 x3 x4
    go_wp2_with (at_builtin; refine app_own (B := w.heap.size + 1) rfl (.tmp 37) (.tmp 41) rfl _ (uB jk) (uB jn) Ay cy (uB jn).length rfl rfl rfl HYc.out HO.out HY.out HSW.out HLN.out ?_; intro vn wnb g1 g2; have HO := Lib.hid g1; have HXW := Lib.hid (HXW.out.below g2 (Nat.lt_succ_self _)); have HBW := Lib.hid (HBW.out.trans (g2.mono (Nat.le_succ _))); have HSW := Lib.hid (Nat.le_trans HSW.out g2.size); clear g1 g2; obtain ⟨x0, x1, x2, x3, x4⟩ := HXW.out.five)
    go_ret
    exact ⟨⟨_, rfl, ownY_le HO.out (Nat.le_succ _)⟩, HBW.out⟩
  · rw [p1, p2, p3, p4] at KN
    rw [p1, p2, p3, p4]
    simp only [if_true, if_false, Bool.false_eq_true, List.append_nil]
    clear p1 p2 p3 p4
    go_enter Try.func24, Try.ntmps24
    go_wp2_with fail
    refine (KR.out).mono ?_
    rintro e w1 ⟨rfl, g2⟩
    have HXW := Lib.hid (HX.out.below g2 HX.out.lt)
    have HBW := Lib.hid (HB.out.trans (g2.mono HB.out.size))
    have HSW := Lib.hid (Nat.le_trans HS.out g2.size)
    clear g2
    obtain ⟨x0, x1, x2, x3, x4⟩ := HXW.out.five
    go_wp2_with fail
    refine (KU.out w1 jk b0).mono ?_
    rintro e w2 ⟨⟨A1, c1, rfl, -, -, g1⟩, g2⟩
    have HO := Lib.hid (ownY_le g1 HSW.out)
    have HXW := Lib.hid (HXW.out.below g2 HXW.out.lt)
    have HBW := Lib.hid (HBW.out.trans (g2.mono HBW.out.size))
    have HSW := Lib.hid (Nat.le_trans HSW.out g2.size)
    clear g1 g2 x0 x1 x2 x3 x4
    obtain ⟨x0, x1, x2, x3, x4⟩ := HXW.out.five
    go_wp2_with fail
    refine (KN.out _).mono ?_
    rintro e wq ⟨rfl, rfl⟩
    go_wp2
    go_ret
    exact ⟨⟨_, rfl, ownY_le HO.out (Nat.le_succ _)⟩, HBW.out⟩
end Go.Proofs.Ytpoemflclbhekaa

/-! Layer 22 (item): form, SameAsk, stands. -/
namespace Go.Proofs.Ytpoemflclbhekaa
open Go.RowKit
set_option linter.unusedVariables false
set_option linter.unusedSimpArgs false

set_option maxRecDepth 100000 in
set_option maxHeartbeats 4000000 in
theorem ref_form (A : Option Addr) (N c k : Nat) (e : Int) (q : Bool) (w : World) : Calls Try.prog 98 #[.agg #[.slice A N c, .int .i64 (k : Nat), .int .i64 e], .bool q] w fun r w' => r = .returned (.agg #[.slice A N c, .int .i64 (k : Nat), .int .i64 (chkF q e)]) ∧ Below w.heap.size w w' := by
  obtain ⟨hX, hX0, hW⟩ := box_r w A N c (k : Nat) e
  have KF := Lib.hid (fun W => ref_Fail21 A N c k e 211 W)
  have HX := Lib.hid hX
  have HX0 := Lib.hid hX0
  have HW := Lib.hid hW
  clear hX hX0 hW
  cases q
  · rw [show chkF false e = failE e 211 from rfl]
    generalize failE e 211 = E at *
    go_enter Try.func98, Try.ntmps98
    go_wp2_with fail
    refine (KF.out _).mono ?_
    rintro r w1 ⟨rfl, h2⟩
    have hb := HX.out.below h2 HX.out.lt
    have HB := Lib.hid (HW.out.trans (h2.mono HW.out.size))
    clear h2
    obtain ⟨x0, x1, x2, y0, y1, y2⟩ := hb.three
    go_wp2
    have s0 := (hb.set 0 (.slice A N c)).cell 0
    have s1 := ((hb.set 0 (.slice A N c)).set 1 (.int .i64 (k : Nat))).cell 1
    have s2 := (((hb.set 0 (.slice A N c)).set 1 (.int .i64 (k : Nat))).set 2 (.int .i64 E)).cell 2
    refine bodyPost_ret (v := .agg #[.slice A N c, .int .i64 (k : Nat), .int .i64 E]) (by simp [results, Try.results98, go_sem, s0, s1, s2]) rfl ⟨rfl, ?_⟩
    exact ((HB.out.setCell (by simp) _).setCell (by simp) _).setCell (by simp) _
  · rw [show chkF true e = e from rfl]
    clear KF
    obtain ⟨x0, x1, x2, y0, y1, y2⟩ := HX.out.three
    obtain ⟨z0, z1, z2, -, -, -⟩ := HX0.out.three
    go_enter Try.func98, Try.ntmps98
    go_wp2
    have s0 := (HX.out.set 0 (.slice A N c)).cell 0
    have s1 := ((HX.out.set 0 (.slice A N c)).set 1 (.int .i64 (k : Nat))).cell 1
    have s2 := (((HX.out.set 0 (.slice A N c)).set 1 (.int .i64 (k : Nat))).set 2 (.int .i64 e)).cell 2
    first
      | (refine bodyPost_ret (v := .agg #[.slice A N c, .int .i64 (k : Nat), .int .i64 e]) (by simp [results, Try.results98, go_sem, s0, s1, s2]) rfl ⟨rfl, ?_⟩; exact ((HW.out.setCell (by simp) _).setCell (by simp) _).setCell (by simp) _)
      | (refine bodyPost_ret (v := .agg #[.slice A N c, .int .i64 (k : Nat), .int .i64 e]) (by simp [results, Try.results98, go_sem, s0, s1, s2]) rfl ⟨rfl, ?_⟩; exact ((Below.refl w.heap.size w).alloc (Nat.le_refl _) _).alloc (by rw [alloc_size']; omega) _)
set_option maxRecDepth 100000 in
set_option maxHeartbeats 4000000 in
theorem ref_SameAsk (k id n m : Int) (X : List Int) (A A2 : Option Addr) (c c2 : Nat) (w : World) (hA : Lies w w.heap.size A X) (hA2 : Lies w w.heap.size A2 X) (hX : X.length ≤ 9223372036854775807) : Calls Try.prog 29 #[.agg #[.int .i64 k, .int .i64 id, .slice A X.length c, .int .i64 n, .int .i64 m], .agg #[.int .i64 k, .int .i64 id, .slice A2 X.length c2, .int .i64 n, .int .i64 m]] w fun e w' => e = .returned (.bool true) ∧ Below w.heap.size w w' := by
  have hb1 := (Below.refl w.heap.size w).alloc (Nat.le_refl _) (.cells #[.int .i64 k, .int .i64 id, .slice A X.length c, .int .i64 n, .int .i64 m] 41)
  have hb2 := hb1.alloc hb1.size (.cells #[.int .i64 k, .int .i64 id, .slice A2 X.length c2, .int .i64 n, .int .i64 m] 41)
  have KS := Lib.hid (ref_same1 A A2 X X c c2 _ _ ((hA.below hb2).mono hb2.size) ((hA2.below hb2).mono hb2.size) (by omega) (by omega))
  rw [decide_eq_true rfl] at KS
  have HB := Lib.hid hb2
  clear hA hA2 hX hb1 hb2
  generalize X.length = N at *
  go_enter Try.func29, Try.ntmps29
  go_wp2_with fail
  refine (KS.out).mono ?_
  rintro e w1 ⟨rfl, h2⟩
  have HB2 := Lib.hid (HB.out.trans ((belq22 h2).mono HB.out.size))
  clear h2
  go_wp2
  go_ret
  exact ⟨rfl, HB2.out⟩
set_option maxRecDepth 100000 in
set_option maxHeartbeats 4000000 in
theorem law_stands (b : List Int) (A : Option Addr) (N c : Nat) (B g k : Nat) (e : Int) (w : World) (hR : RdAt w B g b k e) : Calls Try.prog 22 #[.pointer (some ⟨g, 0, none⟩), .agg #[.slice A N c, .int .i64 (k : Nat), .int .i64 e]] w fun r w' => r = .returned (.bool true) ∧ Below w.heap.size w w' := by
  have hb1 := (Below.refl w.heap.size w).alloc (Nat.le_refl _) (.cells #[.slice A N c, .int .i64 (k : Nat), .int .i64 e] 34)
  have HR := hR.below hb1
  have bx := Box.new w #[.slice A N c, .int .i64 (k : Nat), .int .i64 e] 34
  obtain ⟨v0, v1, v2, -, -, -⟩ := bx.three
  have k1 : ∀ (W : World), RdAt W B g b k e → ∀ n, Calls Try.prog 58 #[.pointer (some ⟨g, 0, none⟩)] (W.drewN n) fun e' w' => e' = .returned (.int .i64 (k : Nat)) ∧ ∃ m, w' = (W.drewN n).drewN m := fun W h n => (rd_At (h.drewN n)).mono fun e' w' q => ⟨q.1, 0, q.2.symm⟩
  have k3 : ∀ (W : World), RdAt W B g b k e → ∀ n, Calls Try.prog 55 #[.pointer (some ⟨g, 0, none⟩)] (W.drewN n) fun e' w' => e' = .returned (.int .i64 e) ∧ ∃ m, w' = (W.drewN n).drewN m := fun W h n => (rd_Err (h.drewN n)).mono fun e' w' q => ⟨q.1, 0, q.2.symm⟩
  have K1 := Lib.hid (k1 _ HR)
  have K3 := Lib.hid (k3 _ HR)
  clear k1 k3
  have HB := Lib.hid hb1
  clear hR HR hb1 bx
  generalize hw2 : w.alloc (.cells #[.slice A N c, .int .i64 (k : Nat), .int .i64 e] 34) = w2 at *
  have HW2 := Lib.hid hw2
  clear hw2
  go_enter Try.func22, Try.ntmps22
  go_wp2
  rw [HW2.out]
  go_quiet (first | (go_at_call 58; exact Calls.quiet_of (K1.out _)) | (go_at_call 55; exact Calls.quiet_of (K3.out _)))
  go_wp2
  go_ret
  exact ⟨rfl, below_drewN2 HB.out _⟩
end Go.Proofs.Ytpoemflclbhekaa

/-! Layer 22 (item): requests read, in the reference: GetAsk. -/
namespace Go.Proofs.Ytpoemflclbhekaa
open Go.RowKit
set_option linter.unusedVariables false
set_option linter.unusedSimpArgs false

theorem rdL_at {b : List Int} (hb : byt b) : ∀ (j k : Nat) (e : Int) (L : List Int), k ≤ b.length → (rdL b j (k, e) L).1.1 ≤ b.length
  | 0, k, e, L, hk => by rw [rdL_end (s := (k, e)) (.inl rfl)]; exact hk
  | j + 1, k, e, L, hk => by
    by_cases he : e = 0
    · subst he
      rw [rdL_step]
      exact rdL_at hb j (rU b k 0).1.1 (rU b k 0).1.2 _ (rU_at hb hk)
    · rw [rdL_end (s := (k, e)) (.inr he)]; exact hk
theorem rL_at {b : List Int} (hb : byt b) {k : Nat} (hk : k ≤ b.length) (e m : Int) : (rL b k e m).1.1 ≤ b.length := by
  by_cases h : (rL b k e m).1.2 = 0
  · have h1 := rdL_at hb (rN b k e m).2 (rN b k e m).1.1 (rN b k e m).1.2 [] (rN_at hb hk e m)
    unfold rL at h ⊢
    split
    · exact hk
    · exact h1
  · rw [(rL_err h).1]; exact hk
theorem box_drewI {w : World} {g : Nat} {cs : Array Value} {t : TypeId} (h : Box w g cs t) : Box w.drew g cs t := h
def GivesRA (A : Option Addr) (N c : Nat) (out : (Nat × Int) × (Nat × Nat × List Int × Nat × Nat)) (w : World) (r : Ending) (w' : World) : Prop :=
  (∃ A2 c2, r = .returned (.tuple #[.agg #[.slice A N c, .int .i64 (out.1.1 : Nat), .int .i64 out.1.2], .agg #[.int .i64 (out.2.1 : Nat), .int .i64 (out.2.2.1 : Nat), .slice A2 out.2.2.2.1.length c2, .int .i64 (out.2.2.2.2.1 : Nat), .int .i64 (out.2.2.2.2.2 : Nat)]]) ∧ Lies w' w'.heap.size A2 out.2.2.2.1) ∧ Below w.heap.size w w'
end Go.Proofs.Ytpoemflclbhekaa
