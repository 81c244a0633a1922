/- Statement ItemSeens: whatever the input is, the Go function returns true and each argument reads as it did. No condition. -/
import Derived.Test.YtpoemflclbhekaaGreatRows
import Derived.Test.YtpoemflclbhekaaGreatSeeH
import Derived.Test.YtpoemflclbhekaaGreatItmLv
import Derived.Test.YtpoemflclbhekaaGreatItmO
import Derived.Test.YtpoemflclbhekaaGreatBinO
import Derived.Test.YtpoemflclbhekaaGreatBinP
import Derived.Test.YtpoemflclbhekaaGreatRegJ
import Derived.Test.YtpoemflclbhekaaGreatVecT
import Derived.Test.YtpoemflclbhekaaGreatBase
import Derived.ProofKit
import Derived.OpenShut
import Derived.IntWalk
namespace Go.Proofs.YtpoemflclbhekaaGreat.itemSeens
open Go.ChangeShapes Go.WideShapes Go.ChangeAt Go.RowKit
set_option linter.unusedVariables false

theorem own : ownKnob Tryz.prog.godebug = none := by kernel_rfl
theorem laid : laidOutB Tryz.prog = true := by kernel_rfl

section
def PSee4 : List (List Nat) := [[], [], [], [1, 2], [], [], [4, 5, 3], [3, 6, 6], [0, 7, 7], [8], [9, 8], [10], [10], [11, 12, 10, 10], [10], [10], [14, 15, 13, 10], [13, 16, 10], [10, 17]]
def ESee4 (B n5 : Nat) (A5 : Option Addr) (c5 : Nat) (A1 : Option Addr) (N c1 : Nat) (V : Value) (l D : List Int) (R : Bool) (dim : Int) : EJ :=
  [(none, fun _ y => y = .slice A5 n5 c5), (some 3, fun X y => ∃ g, y = .slice (some ⟨g, 0, none⟩) 0 0 ∧ B ≤ g ∧ Box X g #[] 5), (none, fun _ y => y = .slice A1 N c1), (some 7, fun X y => OwnsY X B y l), (none, fun _ y => y = V), (none, fun _ y => y = .int .i64 dim), (some 7, fun X y => ∃ A c, y = .slice A D.length c ∧ LiesY X X.heap.size A D ∧ (A = none → c = 0)), (none, fun X y => OwnsY X B y (l ++ D)), (none, fun _ y => y = .bool true), (none, fun _ y => y = .bool false), (none, fun _ y => y = .bool false), (none, fun _ y => y = V), (none, fun _ y => y = .int .i64 dim), (none, fun _ y => y = .bool R), (none, fun _ y => y = V), (none, fun _ y => y = .int .i64 dim), (none, fun _ y => y = .bool R), (none, fun _ y => y = .bool false), (none, fun _ y => y = .bool false)]
theorem eSee4_st (B n5 : Nat) (A5 : Option Addr) (c5 : Nat) (A1 : Option Addr) (N c1 : Nat) (V : Value) (l D : List Int) (R : Bool) (dim : Int) : StE (ESee4 B n5 A5 c5 A1 N c1 V l D R dim) := by
  intro p hp X X' v hb h
  simp only [ESee4, List.mem_cons, List.not_mem_nil, or_false] at hp
  rcases hp with rfl | rfl | rfl | rfl | rfl | rfl | rfl | rfl | rfl | rfl | rfl | rfl | rfl | rfl | rfl | rfl | rfl | rfl | rfl
  · exact h
  · obtain ⟨g, e, hg, hbx⟩ := h
    exact ⟨g, e, hg, hbx.below hb hbx.lt⟩
  · exact h
  · exact OwnsY.below h hb
  · exact h
  · exact h
  · obtain ⟨A, c, e, h1, h2⟩ := h
    exact ⟨A, c, e, h1.up hb, h2⟩
  · exact OwnsY.below h hb
  · exact h
  · exact h
  · exact h
  · exact h
  · exact h
  · exact h
  · exact h
  · exact h
  · exact h
  · exact h
  · exact h
def PSee11 : List (List Nat) := [[], [], [0, 1], [2, 2], [3], [3], [4, 5, 3, 3], [3, 6], [7, 6], [8], [9, 8], [10, 8], [11, 8, 8], [12], [12], [13, 14, 12, 12], [12], [12], [17, 12], [16, 18, 12], [15, 19, 15, 12], [12, 20, 8], [8, 21], [22, 20], [23, 23], [23, 24], [25, 24, 0, 1, 2, 3, 4, 5, 6, 7, 8, 9, 10, 11, 12, 13, 14, 15, 16, 17, 18, 19, 20, 21, 22, 23, 24, 25]]
def ESee11a (VY VZ pv RV p9 p16 : Value) (e1 : Int) (kk : Nat) (A1 : Option Addr) (N c1 : Nat) (D : List Int) (dim : Int) : EJ :=
  [(none, fun _ y => y = VY), (none, fun _ y => y = VZ), (none, fun _ y => y = .bool true), (none, fun _ y => y = .bool true), (none, fun _ y => y = pv), (none, fun _ y => y = RV), (none, fun _ y => y = .bool true), (none, fun _ y => y = .bool true), (none, fun _ y => y = .bool true), (none, fun _ y => y = p9), (none, fun _ y => y = .int .i64 e1), (none, fun _ y => y = .bool false), (none, fun _ y => y = .bool false), (none, fun _ y => y = VZ), (none, fun _ y => y = .int .i64 dim), (none, fun X y => ∃ A c, y = .slice A kk c ∧ LiesY X X.heap.size A D), (none, fun _ y => y = .slice A1 N c1), (none, fun _ y => y = p16), (none, fun _ y => y = .int .i64 (kk : Nat)), (none, fun _ y => y = .slice A1 kk c1), (none, fun _ y => y = .bool true), (none, fun _ y => y = .bool true), (none, fun _ y => y = .bool true), (none, fun _ y => y = .bool true), (none, fun _ y => y = .bool true), (none, fun _ y => y = .bool true), (none, fun _ y => y = .bool true)]
theorem eSee11a_st (VY VZ pv RV p9 p16 : Value) (e1 : Int) (kk : Nat) (A1 : Option Addr) (N c1 : Nat) (D : List Int) (dim : Int) : StE (ESee11a VY VZ pv RV p9 p16 e1 kk A1 N c1 D dim) := by
  intro p hp X X' v hb h
  simp only [ESee11a, List.mem_cons, List.not_mem_nil, or_false] at hp
  rcases hp with rfl | rfl | rfl | rfl | rfl | rfl | rfl | rfl | rfl | rfl | rfl | rfl | rfl | rfl | rfl | rfl | rfl | rfl | rfl | rfl | rfl | rfl | rfl | rfl | rfl | rfl | rfl
  · exact h
  · exact h
  · exact h
  · exact h
  · exact h
  · exact h
  · exact h
  · exact h
  · exact h
  · exact h
  · exact h
  · exact h
  · exact h
  · exact h
  · exact h
  · obtain ⟨A, c, e, h1⟩ := h
    exact ⟨A, c, e, h1.up hb⟩
  · exact h
  · exact h
  · exact h
  · exact h
  · exact h
  · exact h
  · exact h
  · exact h
  · exact h
  · exact h
  · exact h
def ESee11b (VY VZ pv RV p9 p16 : Value) (e1 : Int) (kk : Nat) (A1 : Option Addr) (N c1 : Nat) (D : List Int) (dim : Int) : EJ :=
  [(none, fun _ y => y = VY), (none, fun _ y => y = VZ), (none, fun _ y => y = .bool true), (none, fun _ y => y = .bool true), (none, fun _ y => y = pv), (none, fun _ y => y = RV), (none, fun _ y => y = .bool true), (none, fun _ y => y = .bool true), (none, fun _ y => y = .bool true), (none, fun _ y => y = p9), (none, fun _ y => y = .int .i64 e1), (none, fun _ y => y = .bool true), (none, fun _ y => y = .bool true), (none, fun _ _ => True), (none, fun _ _ => True), (none, fun _ _ => True), (none, fun _ _ => True), (none, fun _ _ => True), (none, fun _ _ => True), (none, fun _ _ => True), (none, fun _ _ => True), (none, fun _ y => y = .bool true), (none, fun _ y => y = .bool true), (none, fun _ y => y = .bool true), (none, fun _ y => y = .bool true), (none, fun _ y => y = .bool true), (none, fun _ y => y = .bool true)]
theorem eSee11b_st (VY VZ pv RV p9 p16 : Value) (e1 : Int) (kk : Nat) (A1 : Option Addr) (N c1 : Nat) (D : List Int) (dim : Int) : StE (ESee11b VY VZ pv RV p9 p16 e1 kk A1 N c1 D dim) := by
  intro p hp X X' v hb h
  simp only [ESee11b, List.mem_cons, List.not_mem_nil, or_false] at hp
  rcases hp with rfl | rfl | rfl | rfl | rfl | rfl | rfl | rfl | rfl | rfl | rfl | rfl | rfl | rfl | rfl | rfl | rfl | rfl | rfl | rfl | rfl | rfl | rfl | rfl | rfl | rfl | rfl
  · exact h
  · exact h
  · exact h
  · exact h
  · exact h
  · exact h
  · exact h
  · exact h
  · exact h
  · exact h
  · exact h
  · exact h
  · exact h
  · exact h
  · exact h
  · exact h
  · exact h
  · exact h
  · exact h
  · exact h
  · exact h
  · exact h
  · exact h
  · exact h
  · exact h
  · exact h
  · exact h
theorem len19' {vs : List Value} (h : vs.length = 19) : ∃ y0 y1 y2 y3 y4 y5 y6 y7 y8 y9 y10 y11 y12 y13 y14 y15 y16 y17 y18, vs = [y0, y1, y2, y3, y4, y5, y6, y7, y8, y9, y10, y11, y12, y13, y14, y15, y16, y17, y18] := by
  match vs, h with
  | y0 :: y1 :: y2 :: y3 :: y4 :: y5 :: y6 :: y7 :: y8 :: y9 :: y10 :: y11 :: y12 :: y13 :: y14 :: y15 :: y16 :: y17 :: y18 :: [], _ => exact ⟨y0, y1, y2, y3, y4, y5, y6, y7, y8, y9, y10, y11, y12, y13, y14, y15, y16, y17, y18, rfl⟩
theorem len27' {vs : List Value} (h : vs.length = 27) : ∃ y0 y1 y2 y3 y4 y5 y6 y7 y8 y9 y10 y11 y12 y13 y14 y15 y16 y17 y18 y19 y20 y21 y22 y23 y24 y25 y26, vs = [y0, y1, y2, y3, y4, y5, y6, y7, y8, y9, y10, y11, y12, y13, y14, y15, y16, y17, y18, y19, y20, y21, y22, y23, y24, y25, y26] := by
  match vs, h with
  | y0 :: y1 :: y2 :: y3 :: y4 :: y5 :: y6 :: y7 :: y8 :: y9 :: y10 :: y11 :: y12 :: y13 :: y14 :: y15 :: y16 :: y17 :: y18 :: y19 :: y20 :: y21 :: y22 :: y23 :: y24 :: y25 :: y26 :: [], _ => exact ⟨y0, y1, y2, y3, y4, y5, y6, y7, y8, y9, y10, y11, y12, y13, y14, y15, y16, y17, y18, y19, y20, y21, y22, y23, y24, y25, y26, rfl⟩
end
set_option maxRecDepth 2000000 in
set_option maxHeartbeats 16000000 in
theorem walk (id : Int) (A0 : Option Addr) (X : List Int) (c0 : Nat) (p q : Int) (sc : Bool) {w : World} (hX : Lies w w.heap.size A0 X) (hXc : X.length ≤ c0) (hc0 : c0 ≤ 9223372036854775807) (hsp : I64 p) (hsq : I64 q) (dim : Int) (hdim : I64 dim)
    (A1 : Option Addr) (b : List Int) (c1 : Nat) (hA : LiesY w w.heap.size A1 b) (hb : byt b) (hbc : b.length ≤ c1) (hc1 : c1 ≤ 9223372036854775807) (hAc : A1 = none → c1 = 0) (_ : World) :
    Calls Tryz.prog 4 #[.agg #[.int .i64 id, .slice A0 X.length c0, .int .i64 p, .int .i64 q, .bool sc], .int .i64 dim, .slice A1 b.length c1] w fun e w' => e = .returned (.bool true) ∧ Below w.heap.size w w' := by
  have hb1 := (Below.refl w.heap.size w).alloc (Nat.le_refl _) (.cells #[.int .i64 id, .slice A0 X.length c0, .int .i64 p, .int .i64 q, .bool sc] 41)
  have HXB := Lib.hid (Box.new w #[.int .i64 id, .slice A0 X.length c0, .int .i64 p, .int .i64 q, .bool sc] 41)
  have HB := Lib.hid hb1
  by_cases hbig : 600 < b.length ∨ 20 < X.length
  · have hg1 : (600 : Int) < (b.length : Int) ∨ ¬ (600 : Int) < (b.length : Int) ∧ (20 : Int) < (X.length : Int) := by omega
    clear hb1 hA hb hAc hX hbig
    generalize b.length = N at *
    generalize X.length = NX at *
    obtain ⟨x0, x1, x2, x3, x4⟩ := HXB.out.five
    rcases hg1 with hlg | ⟨hlg, hlg2⟩
    all_goals
      go_enter Tryz.func4, Tryz.ntmps4
      go_wp2_with fail
      refine (lives22 _).mono ?_
      rintro e wl ⟨rfl, bl⟩
      have HB := Lib.hid (HB.out.trans (bl.mono HB.out.size))
      clear bl
      go_wp2
      go_ret
      exact ⟨rfl, HB.out⟩
  have hN6 : b.length ≤ 600 := by omega
  have hX2 : X.length ≤ 20 := by omega
  have hlg : ¬ (600 : Int) < (b.length : Int) := by omega
  have hlg2 : ¬ (20 : Int) < (X.length : Int) := by omega
  clear hbig
  have hXW : ∀ W, Below w.heap.size w W → Lies W W.heap.size A0 X := fun W h => (hX.below h).mono h.size
  have KPA : Hid (∀ W, Below w.heap.size w W → Calls Tryz.prog 13 #[.slice A1 b.length c1, .agg #[.int .i64 id, .slice A0 X.length c0, .int .i64 p, .int .i64 q, .bool sc], .int .i64 dim] W (GivesY (b ++ eW id X p q sc dim) W)) := fun W h => it_PutSeen id X A0 c0 p q sc dim hsp hsq b A1 c1 W (hXW W h) (by omega) hXc (hA.up h) hAc (by omega)
  have KRF0 : Hid (∀ W, Below w.heap.size w W → Calls Tryz.prog 14 #[.agg #[.int .i64 id, .slice A0 X.length c0, .int .i64 p, .int .i64 q, .bool sc], .int .i64 dim] W (GivesY (eW id X p q sc dim) W)) := fun W h => ref_Seen id X A0 c0 p q sc dim W (hXW W h)
  have KRI0 : Hid (∀ W, Below w.heap.size w W → Calls Tryz.prog 15 #[.agg #[.int .i64 id, .slice A0 X.length c0, .int .i64 p, .int .i64 q, .bool sc], .int .i64 dim] W fun e w' => e = .returned (.bool (rsB id X p q sc dim)) ∧ Below W.heap.size W w') := fun W h => it_RightSeen id X A0 c0 p q sc dim hsp hsq W (hXW W h) (by omega) hXc
  have KRR0 : Hid (∀ W, Below w.heap.size w W → Calls Tryz.prog 16 #[.agg #[.int .i64 id, .slice A0 X.length c0, .int .i64 p, .int .i64 q, .bool sc], .int .i64 dim] W fun e w' => e = .returned (.bool (rsB id X p q sc dim)) ∧ Below W.heap.size W w') := fun W h => ref_RightSeen id X A0 c0 p q sc dim W (hXW W h)
  have KF := Lib.hid (fun W (h : LiesY W W.heap.size A1 b) => bin_From b A1 c1 W h hAc (by omega) hb)
  have KG := Lib.hid (fun W B g (h : RdAt W B g b 0 0) => it_GetSeen b B g 0 0 dim W h)
  have KRG : Hid (∀ W, LiesY W W.heap.size A1 b → Calls Tryz.prog 18 #[.agg #[.slice A1 b.length c1, .int .i64 0, .int .i64 0], .int .i64 dim] W (GivesRE A1 b.length c1 (gE b (0, 0) dim) W)) := fun W h => ref_GetSeen b A1 c1 0 0 dim W h hb (by omega) (Nat.zero_le _)
  have HONE : Hid ((gE b (0, 0) dim).1.2 = 0 → 0 < (gE b (0, 0) dim).1.1 ∧ (gE b (0, 0) dim).1.1 ≤ b.length ∧ eW (gE b (0, 0) dim).2.1 (gE b (0, 0) dim).2.2.1 (gE b (0, 0) dim).2.2.2.1 (gE b (0, 0) dim).2.2.2.2.1 (gE b (0, 0) dim).2.2.2.2.2 dim = b.take (gE b (0, 0) dim).1.1) := gE_one hb dim
  have HXL : Hid ((gE b (0, 0) dim).2.2.1.length ≤ 1000) := Nat.le_trans (gE_len b (0, 0) dim) (by omega)
  have HDL : Hid ((eW id X p q sc dim).length ≤ 1000) := by
    show _ ≤ _
    exact Nat.le_trans (eW_len id X p q sc dim) (by omega)
  have HA0 := Lib.hid hA
  have HA1 := Lib.hid (hA.up hb1)
  have HAc := Lib.hid hAc
  have HN6 := Lib.hid hN6
  have HNC := Lib.hid hbc
  have HT : Hid (∀ W A, LiesY W W.heap.size A b → ∀ j, LiesY W W.heap.size A (b.take j)) := fun W A h j => h.take j
  clear hb1 hA hb hAc hX hXW hX2
  unfold GivesE at KG
  unfold GivesRE at KRG
  generalize gE b (0, 0) dim = out at *
  obtain ⟨⟨kk, e1⟩, id2, X2, p2, q2, sc2⟩ := out
  simp only at KG KRG HONE HXL
  generalize eW id X p q sc dim = D at *
  generalize rsB id X p q sc dim = R at *
  generalize X.length = NX at *
  generalize hN : b.length = N at *
  have HN := Lib.hid hN
  clear hN
  obtain ⟨x0, x1, x2, x3, x4⟩ := HXB.out.five
  unfold GivesY at KPA
  go_enter Tryz.func4, Tryz.ntmps4
  go_wp2_with fail
  refine (KPA.out _ HB.out).mono ?_
  rintro e W0 ⟨⟨v, rfl, h1⟩, h2⟩
  obtain ⟨A5, c5, rfl, -, -, g3, -, -⟩ := h1.lies
  have HP5 := Lib.hid g3
  have HXB := Lib.hid (HXB.out.below h2 HXB.out.lt)
  have HA1 := Lib.hid (HA1.out.up h2)
  have HB := Lib.hid (HB.out.trans (h2.mono HB.out.size))
  have KRF : Hid (∀ W, Below W0.heap.size W0 W → Calls Tryz.prog 14 #[.agg #[.int .i64 id, .slice A0 NX c0, .int .i64 p, .int .i64 q, .bool sc], .int .i64 dim] W (GivesY D W)) := fun W h => KRF0.out W (HB.out.trans (h.mono HB.out.size))
  have KRI : Hid (∀ W, Below W0.heap.size W0 W → Calls Tryz.prog 15 #[.agg #[.int .i64 id, .slice A0 NX c0, .int .i64 p, .int .i64 q, .bool sc], .int .i64 dim] W fun e w' => e = .returned (.bool R) ∧ Below W.heap.size W w') := fun W h => KRI0.out W (HB.out.trans (h.mono HB.out.size))
  have KRR : Hid (∀ W, Below W0.heap.size W0 W → Calls Tryz.prog 16 #[.agg #[.int .i64 id, .slice A0 NX c0, .int .i64 p, .int .i64 q, .bool sc], .int .i64 dim] W fun e w' => e = .returned (.bool R) ∧ Below W.heap.size W w') := fun W h => KRR0.out W (HB.out.trans (h.mono HB.out.size))
  have KSM : Hid (∀ A A' c c' W, LiesY W W.heap.size A (b ++ D) → LiesY W W.heap.size A' (b ++ D) → Calls Tryz.prog 7 #[.slice A (b ++ D).length c, .slice A' (b ++ D).length c'] W fun e w' => e = .returned (.bool true) ∧ W = w') := fun A A' c c' W h1 h2 => ref_SameY (b ++ D) A A' c c' W.heap.size W h1 h2
  have HD := Lib.hid HDL.out
  clear h1 h2 g3 KPA KRF0 KRI0 KRR0 x0 x1 x2 x3 x4
  unfold GivesY at KRF
  generalize hn5 : (b ++ D).length = n5 at *
  have HN5 := Lib.hid hn5
  clear hn5
  go_wp2
  refine wp_region_steps (GJ PSee4 (ESee4 W0.heap.size n5 A5 c5 A1 N c1 (.agg #[.int .i64 id, .slice A0 NX c0, .int .i64 p, .int .i64 q, .bool sc]) b D R dim) (fun X => Below W0.heap.size W0 X)) PSee4 (by kernel_rfl) (by kernel_rfl) (by kernel_rfl) (by kernel_rfl) ?_ ?_ ?_ ?_
  · exact fun f g vs X hfg h => GJ.congr (n := 19) (by decide) (by decide) (by simp [ESee4]) (by simp [ESee4]) hfg h
  · intro vs _
    exact GJ.start ((Below.refl _ _).drew)
  · refine ⟨?_, ?_, ?_, ?_, ?_, ?_, ?_, ?_, ?_, ?_, ?_, ?_, ?_, ?_, ?_, ?_, ?_, ?_, ?_, trivial⟩
    all_goals
      intro f vs X hlen hf hp hj K hK
      obtain ⟨y0, y1, y2, y3, y4, y5, y6, y7, y8, y9, y10, y11, y12, y13, y14, y15, y16, y17, y18, rfl⟩ := len19' hlen
      clear hlen
      have HJ := Lib.hid hj
      clear hj
    · rw [if_pos (by rfl)]
      simp only [putAll, Act.put, List.setIfInBounds_toArray, List.set_cons_zero, List.set_cons_succ] at hK ⊢
      go_simp
      refine hK _ X ?_
      exact HJ.out.step (i := 0) rfl hp (by simp) _ rfl rfl
    · rw [if_pos (by rfl)]
      simp only [putAll, Act.put, List.setIfInBounds_toArray, List.set_cons_zero, List.set_cons_succ] at hK ⊢
      go_simp
      refine hK _ _ ?_
      have q3 := (Below.refl X.heap.size X).alloc (Nat.le_refl _) (.cells #[] 5)
      exact HJ.out.below (i := 1) rfl hp (by simp) _ (HJ.out.1.trans (q3.mono HJ.out.1.size)) rfl ⟨_, rfl, HJ.out.1.size, Box.new X _ _⟩ (eSee4_st _ _ _ _ _ _ _ _ _ _ _ _) q3
    · rw [if_pos (by rfl)]
      simp only [putAll, Act.put, List.setIfInBounds_toArray, List.set_cons_zero, List.set_cons_succ] at hK ⊢
      go_simp
      refine hK _ X ?_
      exact HJ.out.step (i := 2) rfl hp (by simp) _ rfl rfl
    · simp only [putAll, Act.put, List.setIfInBounds_toArray, List.set_cons_zero, List.set_cons_succ] at hK ⊢
      obtain ⟨g0, e0, hg0, hb0⟩ := HJ.out.get (i := 1) rfl (hp 1 (by simp)) (fun k e => by cases e; exact hf)
      have e1 : y1 = .slice (some ⟨g0, 0, none⟩) 0 0 := e0
      clear e0
      subst e1
      have eq2 : y2 = .slice A1 N c1 := HJ.out.get (i := 2) rfl (hp 2 (by simp)) (fun k e => by cases e)
      subst eq2
      rw [if_pos (by rfl)]
      refine app_ownO (B := W0.heap.size) (.tmp 27) (.tmp 28) rfl _ [] b A1 c1 N rfl rfl HN.out HAc.out (own_mt hb0 hg0) (HA1.out.below HJ.out.1) HJ.out.1.size (by have := HN6.out; simp; omega) ?_
      intro v' w' h1 h2
      refine hK _ w' ?_
      refine HJ.out.move (i := 3) rfl hp (by simp) v' (HJ.out.1.trans h2) rfl (by simpa using h1) ?_
      intro j u C y he hj hji hu hk hc
      have hj16 : j < 19 := by have := (List.getElem?_eq_some_iff.1 he).1; simpa [ESee4] using this
      match j, hj16, he with
      | 0, _, he => cases he; exact hc
      | 1, _, he => exact absurd rfl (by cases he; exact hu)
      | 2, _, he => cases he; exact hc
      | 3, _, he => exact absurd rfl hji
      | 4, _, he => cases he; exact hc
      | 5, _, he => cases he; exact hc
      | 6, _, he => exact absurd (HJ.out.pre (i := 6) (j := 3) rfl hj (by simp)) (by rw [hf]; simp)
      | 7, _, he => exact absurd (HJ.out.pre (i := 7) (j := 3) rfl hj (by simp)) (by rw [hf]; simp)
      | 8, _, he => cases he; exact hc
      | 9, _, he => cases he; exact hc
      | 10, _, he => cases he; exact hc
      | 11, _, he => cases he; exact hc
      | 12, _, he => cases he; exact hc
      | 13, _, he => cases he; exact hc
      | 14, _, he => cases he; exact hc
      | 15, _, he => cases he; exact hc
      | 16, _, he => cases he; exact hc
      | 17, _, he => cases he; exact hc
      | 18, _, he => cases he; exact hc
    · rw [if_pos (by rfl)]
      simp only [putAll, Act.put, List.setIfInBounds_toArray, List.set_cons_zero, List.set_cons_succ] at hK ⊢
      obtain ⟨x0, x1, x2, x3, x4⟩ := (HXB.out.below HJ.out.1 HXB.out.lt).five
      go_simp
      refine hK _ X ?_
      exact HJ.out.step (i := 4) rfl hp (by simp) _ rfl rfl
    · rw [if_pos (by rfl)]
      simp only [putAll, Act.put, List.setIfInBounds_toArray, List.set_cons_zero, List.set_cons_succ] at hK ⊢
      go_simp
      refine hK _ X ?_
      exact HJ.out.step (i := 5) rfl hp (by simp) _ rfl rfl
    · simp only [putAll, Act.put, List.setIfInBounds_toArray, List.set_cons_zero, List.set_cons_succ] at hK ⊢
      have eq4 : y4 = .agg #[.int .i64 id, .slice A0 NX c0, .int .i64 p, .int .i64 q, .bool sc] := HJ.out.get (i := 4) rfl (hp 4 (by simp)) (fun k e => by cases e)
      subst eq4
      have eq5 : y5 = .int .i64 dim := HJ.out.get (i := 5) rfl (hp 5 (by simp)) (fun k e => by cases e)
      subst eq5
      rw [if_pos (by rfl)]
      go_simp
      refine (KRF.out X HJ.out.1).mono ?_
      rintro e w3 ⟨⟨v, rfl, h1⟩, q3⟩
      obtain ⟨A6, c6, rfl, -, -, g3, g4, -⟩ := h1.lies
      refine hK _ w3 ?_
      exact HJ.out.below (i := 6) rfl hp (by simp) _ (HJ.out.1.trans (q3.mono HJ.out.1.size)) rfl (⟨A6, c6, rfl, g3, g4⟩) (eSee4_st _ _ _ _ _ _ _ _ _ _ _ _) q3
    · simp only [putAll, Act.put, List.setIfInBounds_toArray, List.set_cons_zero, List.set_cons_succ] at hK ⊢
      have ho : OwnsY X W0.heap.size y3 b := HJ.out.get (i := 3) rfl (hp 3 (by simp)) (fun k e => by cases e; exact hf)
      obtain ⟨A6, c6, e6, h6, n6⟩ := HJ.out.get (i := 6) rfl (hp 6 (by simp)) (fun k e => by cases e; exact hf)
      subst e6
      rw [if_pos (by rfl)]
      refine app_ownO (B := W0.heap.size) (.tmp 29) (.tmp 32) rfl y3 b D A6 c6 D.length rfl rfl rfl n6 ho h6 HJ.out.1.size (by have := HN6.out; have := HN.out; have := HD.out; omega) ?_
      intro v' w' h1 h2
      refine hK _ w' ?_
      refine HJ.out.move (i := 7) rfl hp (by simp) v' (HJ.out.1.trans h2) rfl h1 ?_
      intro j u C y he hj hji hu hk hc
      have hj16 : j < 19 := by have := (List.getElem?_eq_some_iff.1 he).1; simpa [ESee4] using this
      match j, hj16, he with
      | 0, _, he => cases he; exact hc
      | 1, _, he => cases he; exact absurd (hk 3 rfl) (by rw [hp 3 (by simp)]; simp)
      | 2, _, he => cases he; exact hc
      | 3, _, he => exact absurd rfl (by cases he; exact hu)
      | 4, _, he => cases he; exact hc
      | 5, _, he => cases he; exact hc
      | 6, _, he => exact absurd rfl (by cases he; exact hu)
      | 7, _, he => exact absurd rfl hji
      | 8, _, he => cases he; exact hc
      | 9, _, he => cases he; exact hc
      | 10, _, he => cases he; exact hc
      | 11, _, he => cases he; exact hc
      | 12, _, he => cases he; exact hc
      | 13, _, he => cases he; exact hc
      | 14, _, he => cases he; exact hc
      | 15, _, he => cases he; exact hc
      | 16, _, he => cases he; exact hc
      | 17, _, he => cases he; exact hc
      | 18, _, he => cases he; exact hc
    · simp only [putAll, Act.put, List.setIfInBounds_toArray, List.set_cons_zero, List.set_cons_succ] at hK ⊢
      have eq0 : y0 = .slice A5 n5 c5 := HJ.out.get (i := 0) rfl (hp 0 (by simp)) (fun k e => by cases e)
      subst eq0
      have ho : OwnsY X W0.heap.size y7 (b ++ D) := HJ.out.get (i := 7) rfl (hp 7 (by simp)) (fun k e => by cases e)
      obtain ⟨A7, c7, e7, -, -, g7, -, -⟩ := ho.lies
      rw [HN5.out] at e7
      subst e7
      rw [if_pos (by rfl)]
      go_simp
      refine (KSM.out A5 A7 c5 c7 X (HP5.out.up HJ.out.1) g7).mono ?_
      rintro e w3 ⟨rfl, rfl⟩
      refine hK _ _ ?_
      exact HJ.out.step (i := 8) rfl hp (by simp) _ rfl rfl
    · simp only [putAll, Act.put, List.setIfInBounds_toArray, List.set_cons_zero, List.set_cons_succ] at hK ⊢
      have eq8 : y8 = .bool true := HJ.out.get (i := 8) rfl (hp 8 (by simp)) (fun k e => by cases e)
      subst eq8
      rw [if_pos (by rfl)]
      go_simp
      refine hK _ X ?_
      exact HJ.out.step (i := 9) rfl hp (by simp) _ rfl rfl
    · simp only [putAll, Act.put, List.setIfInBounds_toArray, List.set_cons_zero, List.set_cons_succ] at hK ⊢
      have eq9 : y9 = .bool false := HJ.out.get (i := 9) rfl (hp 9 (by simp)) (fun k e => by cases e)
      subst eq9
      rw [if_pos (by rfl)]
      go_simp
      refine hK _ X ?_
      exact HJ.out.step (i := 10) rfl hp (by simp) _ rfl rfl
    · simp only [putAll, Act.put, List.setIfInBounds_toArray, List.set_cons_zero, List.set_cons_succ] at hK ⊢
      have eq10 : y10 = .bool false := HJ.out.get (i := 10) rfl (hp 10 (by simp)) (fun k e => by cases e)
      subst eq10
      rw [if_pos (by rfl)]
      obtain ⟨x0, x1, x2, x3, x4⟩ := (HXB.out.below HJ.out.1 HXB.out.lt).five
      go_simp
      refine hK _ X ?_
      exact HJ.out.step (i := 11) rfl hp (by simp) _ rfl rfl
    · simp only [putAll, Act.put, List.setIfInBounds_toArray, List.set_cons_zero, List.set_cons_succ] at hK ⊢
      have eq10 : y10 = .bool false := HJ.out.get (i := 10) rfl (hp 10 (by simp)) (fun k e => by cases e)
      subst eq10
      rw [if_pos (by rfl)]
      go_simp
      refine hK _ X ?_
      exact HJ.out.step (i := 12) rfl hp (by simp) _ rfl rfl
    · simp only [putAll, Act.put, List.setIfInBounds_toArray, List.set_cons_zero, List.set_cons_succ] at hK ⊢
      have eq10 : y10 = .bool false := HJ.out.get (i := 10) rfl (hp 10 (by simp)) (fun k e => by cases e)
      subst eq10
      have eq11 : y11 = .agg #[.int .i64 id, .slice A0 NX c0, .int .i64 p, .int .i64 q, .bool sc] := HJ.out.get (i := 11) rfl (hp 11 (by simp)) (fun k e => by cases e)
      subst eq11
      have eq12 : y12 = .int .i64 dim := HJ.out.get (i := 12) rfl (hp 12 (by simp)) (fun k e => by cases e)
      subst eq12
      rw [if_pos (by rfl)]
      go_simp
      refine (KRI.out X HJ.out.1).mono ?_
      rintro e w3 ⟨rfl, q3⟩
      refine hK _ w3 ?_
      exact HJ.out.below (i := 13) rfl hp (by simp) _ (HJ.out.1.trans (q3.mono HJ.out.1.size)) rfl (rfl) (eSee4_st _ _ _ _ _ _ _ _ _ _ _ _) q3
    · simp only [putAll, Act.put, List.setIfInBounds_toArray, List.set_cons_zero, List.set_cons_succ] at hK ⊢
      have eq10 : y10 = .bool false := HJ.out.get (i := 10) rfl (hp 10 (by simp)) (fun k e => by cases e)
      subst eq10
      rw [if_pos (by rfl)]
      obtain ⟨x0, x1, x2, x3, x4⟩ := (HXB.out.below HJ.out.1 HXB.out.lt).five
      go_simp
      refine hK _ X ?_
      exact HJ.out.step (i := 14) rfl hp (by simp) _ rfl rfl
    · simp only [putAll, Act.put, List.setIfInBounds_toArray, List.set_cons_zero, List.set_cons_succ] at hK ⊢
      have eq10 : y10 = .bool false := HJ.out.get (i := 10) rfl (hp 10 (by simp)) (fun k e => by cases e)
      subst eq10
      rw [if_pos (by rfl)]
      go_simp
      refine hK _ X ?_
      exact HJ.out.step (i := 15) rfl hp (by simp) _ rfl rfl
    · simp only [putAll, Act.put, List.setIfInBounds_toArray, List.set_cons_zero, List.set_cons_succ] at hK ⊢
      have eq10 : y10 = .bool false := HJ.out.get (i := 10) rfl (hp 10 (by simp)) (fun k e => by cases e)
      subst eq10
      have eq14 : y14 = .agg #[.int .i64 id, .slice A0 NX c0, .int .i64 p, .int .i64 q, .bool sc] := HJ.out.get (i := 14) rfl (hp 14 (by simp)) (fun k e => by cases e)
      subst eq14
      have eq15 : y15 = .int .i64 dim := HJ.out.get (i := 15) rfl (hp 15 (by simp)) (fun k e => by cases e)
      subst eq15
      rw [if_pos (by rfl)]
      go_simp
      refine (KRR.out X HJ.out.1).mono ?_
      rintro e w3 ⟨rfl, q3⟩
      refine hK _ w3 ?_
      exact HJ.out.below (i := 16) rfl hp (by simp) _ (HJ.out.1.trans (q3.mono HJ.out.1.size)) rfl (rfl) (eSee4_st _ _ _ _ _ _ _ _ _ _ _ _) q3
    · simp only [putAll, Act.put, List.setIfInBounds_toArray, List.set_cons_zero, List.set_cons_succ] at hK ⊢
      have eq10 : y10 = .bool false := HJ.out.get (i := 10) rfl (hp 10 (by simp)) (fun k e => by cases e)
      subst eq10
      have eq13 : y13 = .bool R := HJ.out.get (i := 13) rfl (hp 13 (by simp)) (fun k e => by cases e)
      subst eq13
      have eq16 : y16 = .bool R := HJ.out.get (i := 16) rfl (hp 16 (by simp)) (fun k e => by cases e)
      subst eq16
      rw [if_pos (by rfl)]
      cases R <;> (go_simp; refine hK _ X ?_; exact HJ.out.step (i := 17) rfl hp (by simp) _ rfl rfl)
    · simp only [putAll, Act.put, List.setIfInBounds_toArray, List.set_cons_zero, List.set_cons_succ] at hK ⊢
      have eq10 : y10 = .bool false := HJ.out.get (i := 10) rfl (hp 10 (by simp)) (fun k e => by cases e)
      subst eq10
      have eq17 : y17 = .bool false := HJ.out.get (i := 17) rfl (hp 17 (by simp)) (fun k e => by cases e)
      subst eq17
      rw [if_pos (by rfl)]
      go_simp
      refine hK _ X ?_
      exact HJ.out.step (i := 18) rfl hp (by simp) _ rfl rfl
  · intro vs X hl hj
    obtain ⟨y0, y1, y2, y3, y4, y5, y6, y7, y8, y9, y10, y11, y12, y13, y14, y15, y16, y17, y18, rfl⟩ := len19' hl
    have e18 : y18 = .bool false := hj.get (i := 18) rfl rfl (fun k e => by cases e)
    subst e18
    have HBX := Lib.hid hj.1
    clear hj hl
    simp only [putAll, Act.put, List.setIfInBounds_toArray, List.set_cons_zero, List.set_cons_succ]
    go_upto_region 6 with fail
    have HXB := Lib.hid (HXB.out.below HBX.out HXB.out.lt)
    have HA1 := Lib.hid (HA1.out.up HBX.out)
    have HB := Lib.hid (HB.out.trans (HBX.out.mono HB.out.size))
    clear HBX HP5 KRF KRI KRR KSM HXB
    go_wp2_with fail
    refine (KF.out X HA1.out).mono ?_
    rintro e W1 ⟨⟨g, rfl, h1⟩, h2⟩
    have HR := Lib.hid h1
    have HA1 := Lib.hid (HA1.out.up h2)
    have hlow : w.heap.size ≤ X.heap.size := HB.out.size
    have HB := Lib.hid (HB.out.trans (h2.mono HB.out.size))
    clear h1 h2
    generalize X.heap.size = Bg at *
    have hgB := HR.out.lt.2.1
    have K := Lib.hid (KG.out _ _ _ HR.out)
    go_wp2_with fail
    refine (K.out).mono ?_
    rintro e W2 ⟨Ay, cy, rfl, hy, h1, h2⟩
    have HR := Lib.hid h1
    have hlowb := h2.low (B := w.heap.size) (by omega) HB.out.size
    have HAy := Lib.hid ((HA0.out.below (HB.out.trans hlowb)).mono (HB.out.trans hlowb).size)
    have HB := Lib.hid (HB.out.trans hlowb)
    have hal := (Below.refl W2.heap.size W2).alloc (Nat.le_refl _) (.cells #[.int .i64 id2, .slice Ay X2.length cy, .int .i64 p2, .int .i64 q2, .bool sc2] 41)
    have HY := Lib.hid (Box.new W2 #[.int .i64 id2, .slice Ay X2.length cy, .int .i64 p2, .int .i64 q2, .bool sc2] 41)
    have HYL := Lib.hid ((hy.below hal).mono hal.size)
    have HR := Lib.hid (HR.out.below hal)
    clear HA1
    have HA1 := Lib.hid (HAy.out.up hal)
    have HB := Lib.hid (HB.out.trans (hal.mono HB.out.size))
    clear h1 h2 hlowb hal hy K KG KF HAy
    go_upto_region 10 with fail
    generalize W2.alloc (.cells #[.int .i64 id2, .slice Ay X2.length cy, .int .i64 p2, .int .i64 q2, .bool sc2] 41) = W3 at *
    generalize W2.heap.size = Y7 at *
    have K := Lib.hid (KRG.out W3 HA1.out)
    go_wp2_with fail
    refine (K.out).mono ?_
    rintro e W4 ⟨⟨Az, cz, rfl, hz⟩, h2⟩
    have hal := (Below.refl W4.heap.size W4).alloc (Nat.le_refl _) (.cells #[.slice A1 N c1, .int .i64 (kk : Nat), .int .i64 e1] 34)
    have hal2 := hal.alloc hal.size (.cells #[.int .i64 id2, .slice Az X2.length cz, .int .i64 p2, .int .i64 q2, .bool sc2] 41)
    have HRB := Lib.hid ((Box.new W4 #[.slice A1 N c1, .int .i64 (kk : Nat), .int .i64 e1] 34).alloc (.cells #[.int .i64 id2, .slice Az X2.length cz, .int .i64 p2, .int .i64 q2, .bool sc2] 41))
    have hzb := Box.new (W4.alloc (.cells #[.slice A1 N c1, .int .i64 (kk : Nat), .int .i64 e1] 34)) #[.int .i64 id2, .slice Az X2.length cz, .int .i64 p2, .int .i64 q2, .bool sc2] 41
    rw [alloc_size'] at hzb
    have HZ := Lib.hid hzb
    have hb2 := h2.trans (hal2.mono h2.size)
    have HY := Lib.hid (HY.out.below hb2 HY.out.lt)
    have HYL := Lib.hid ((HYL.out.below hb2).mono hb2.size)
    have HZL := Lib.hid ((hz.below hal2).mono hal2.size)
    have HR := Lib.hid (HR.out.below hb2)
    have HA1 := Lib.hid (HA1.out.up hb2)
    have HB := Lib.hid (HB.out.trans (hb2.mono HB.out.size))
    clear h2 hal hal2 hzb hb2 hz K KRG
    go_upto_region 11 with fail
    generalize (W4.alloc (.cells #[.slice A1 N c1, .int .i64 (kk : Nat), .int .i64 e1] 34)).alloc (.cells #[.int .i64 id2, .slice Az X2.length cz, .int .i64 p2, .int .i64 q2, .bool sc2] 41) = W0 at *
    generalize W4.heap.size = R8 at *
    have KSA : Hid (∀ W, Below W0.heap.size W0 W → Calls Tryz.prog 19 #[.agg #[.int .i64 id2, .slice Ay X2.length cy, .int .i64 p2, .int .i64 q2, .bool sc2], .agg #[.int .i64 id2, .slice Az X2.length cz, .int .i64 p2, .int .i64 q2, .bool sc2]] W fun e w' => e = .returned (.bool true) ∧ Below W.heap.size W w') := fun W h => ref_SameSeen id2 p2 q2 sc2 Ay Az X2 cy cz W ((HYL.out.below h).mono h.size) ((HZL.out.below h).mono h.size) HXL.out
    have KR0 : Hid (∀ W, Below W0.heap.size W0 W → Calls Tryz.prog 14 #[.agg #[.int .i64 id2, .slice Az X2.length cz, .int .i64 p2, .int .i64 q2, .bool sc2], .int .i64 dim] W (GivesY (eW id2 X2 p2 q2 sc2 dim) W)) := fun W h => ref_Seen id2 X2 Az cz p2 q2 sc2 dim W ((HZL.out.below h).mono h.size)
    by_cases he : e1 = 0
    · obtain ⟨p1, p2, p3⟩ := HONE.out he
      have hn := HN.out
      have hkn : kk ≤ N := p2
      have p2b : kk ≤ b.length := by rw [hn]; exact p2
      rw [p3] at KR0
      have HKK : Hid ((b.take kk).length = kk) := by show _ = _; rw [List.length_take]; omega
      have KR2 := Lib.hid KR0.out
      have KS2 : Hid (∀ A A' c c' W, LiesY W W.heap.size A (b.take kk) → LiesY W W.heap.size A' b → Calls Tryz.prog 7 #[.slice A kk c, .slice A' kk c'] W fun e w' => e = .returned (.bool true) ∧ W = w') := fun A A' c c' W h1 h2 => by
        have := ref_SameY (b.take kk) A A' c c' W.heap.size W h1 (h2.take kk)
        rw [List.length_take, Nat.min_eq_left p2b] at this
        exact this
      obtain ⟨ad, eA, -⟩ := HA1.out (by omega)
      subst eA
      have f1 : ¬ (kk : Int) < 0 := by omega
      have f1b : (0 : Int) ≤ (kk : Int) := by omega
      have f2 : ¬ (N : Int) < (kk : Int) := by omega
      have f2b : (kk : Int) ≤ (N : Int) := by omega
      have hnc := HNC.out
      have f3 : (kk : Int) ≤ (c1 : Int) := by omega
      have f4 : ¬ c1 = 0 := by omega
      have HE11 : (Value.bool (e1 != 0)) = .bool false := by rw [he]; rfl
      clear KR0 p1 p2 p2b p3 hn HONE hkn hnc
      generalize b.take kk = D2 at *
      generalize X2.length = NX2 at *
      subst he
      go_wp2
      refine wp_region_steps (GJ PSee11 (ESee11a (.agg #[.int .i64 id2, .slice Ay NX2 cy, .int .i64 p2, .int .i64 q2, .bool sc2]) (.agg #[.int .i64 id2, .slice Az NX2 cz, .int .i64 p2, .int .i64 q2, .bool sc2]) (.pointer (some ⟨g, 0, none⟩)) (.agg #[.slice (some ad) N c1, .int .i64 (kk : Nat), .int .i64 0]) (.pointer (some ⟨R8, 2, none⟩)) (.pointer (some ⟨R8, 1, none⟩)) 0 kk (some ad) N c1 D2 dim) (fun X => Below W0.heap.size W0 X)) PSee11 (by kernel_rfl) (by kernel_rfl) (by kernel_rfl) (by kernel_rfl) ?_ ?_ ?_ ?_
      · exact fun f g vs X hfg h => GJ.congr (n := 27) (by decide) (by decide) (by simp [ESee11a]) (by simp [ESee11a]) hfg h
      · intro vs _
        exact GJ.start ((Below.refl _ _).drew)
      · refine ⟨?_, ?_, ?_, ?_, ?_, ?_, ?_, ?_, ?_, ?_, ?_, ?_, ?_, ?_, ?_, ?_, ?_, ?_, ?_, ?_, ?_, ?_, ?_, ?_, ?_, ?_, ?_, trivial⟩
        all_goals
          intro f vs X hlen hf hp hj K hK
          obtain ⟨y0, y1, y2, y3, y4, y5, y6, y7, y8, y9, y10, y11, y12, y13, y14, y15, y16, y17, y18, y19, y20, y21, y22, y23, y24, y25, y26, rfl⟩ := len27' hlen
          clear hlen
          have HJ := Lib.hid hj
          clear hj
        · rw [if_pos (by rfl)]
          simp only [putAll, Act.put, List.setIfInBounds_toArray, List.set_cons_zero, List.set_cons_succ] at hK ⊢
          obtain ⟨x0, x1, x2, x3, x4⟩ := (HY.out.below HJ.out.1 HY.out.lt).five
          go_simp
          refine hK _ X ?_
          exact HJ.out.step (i := 0) rfl hp (by simp) _ rfl rfl
        · rw [if_pos (by rfl)]
          simp only [putAll, Act.put, List.setIfInBounds_toArray, List.set_cons_zero, List.set_cons_succ] at hK ⊢
          obtain ⟨x0, x1, x2, x3, x4⟩ := (HZ.out.below HJ.out.1 HZ.out.lt).five
          go_simp
          refine hK _ X ?_
          exact HJ.out.step (i := 1) rfl hp (by simp) _ rfl rfl
        · simp only [putAll, Act.put, List.setIfInBounds_toArray, List.set_cons_zero, List.set_cons_succ] at hK ⊢
          have eq0 : y0 = .agg #[.int .i64 id2, .slice Ay NX2 cy, .int .i64 p2, .int .i64 q2, .bool sc2] := HJ.out.get (i := 0) rfl (hp 0 (by simp)) (fun k e => by cases e)
          subst eq0
          have eq1 : y1 = .agg #[.int .i64 id2, .slice Az NX2 cz, .int .i64 p2, .int .i64 q2, .bool sc2] := HJ.out.get (i := 1) rfl (hp 1 (by simp)) (fun k e => by cases e)
          subst eq1
          rw [if_pos (by rfl)]
          go_simp
          refine (KSA.out X HJ.out.1).mono ?_
          rintro e w3 ⟨rfl, q3⟩
          refine hK _ w3 ?_
          exact HJ.out.below (i := 2) rfl hp (by simp) _ (HJ.out.1.trans (q3.mono HJ.out.1.size)) rfl (rfl) (eSee11a_st _ _ _ _ _ _ _ _ _ _ _ _ _) q3
        · simp only [putAll, Act.put, List.setIfInBounds_toArray, List.set_cons_zero, List.set_cons_succ] at hK ⊢
          have eq2 : y2 = .bool true := HJ.out.get (i := 2) rfl (hp 2 (by simp)) (fun k e => by cases e)
          subst eq2
          rw [if_pos (by rfl)]
          go_simp
          refine hK _ X ?_
          exact HJ.out.step (i := 3) rfl hp (by simp) _ rfl rfl
        · simp only [putAll, Act.put, List.setIfInBounds_toArray, List.set_cons_zero, List.set_cons_succ] at hK ⊢
          have eq3 : y3 = .bool true := HJ.out.get (i := 3) rfl (hp 3 (by simp)) (fun k e => by cases e)
          subst eq3
          rw [if_pos (by rfl)]
          go_simp
          refine hK _ X ?_
          exact HJ.out.step (i := 4) rfl hp (by simp) _ rfl rfl
        · simp only [putAll, Act.put, List.setIfInBounds_toArray, List.set_cons_zero, List.set_cons_succ] at hK ⊢
          have eq3 : y3 = .bool true := HJ.out.get (i := 3) rfl (hp 3 (by simp)) (fun k e => by cases e)
          subst eq3
          rw [if_pos (by rfl)]
          obtain ⟨x0, x1, x2, -, -, -⟩ := (HRB.out.below HJ.out.1 HRB.out.lt).three
          go_simp
          refine hK _ X ?_
          exact HJ.out.step (i := 5) rfl hp (by simp) _ rfl rfl
        · simp only [putAll, Act.put, List.setIfInBounds_toArray, List.set_cons_zero, List.set_cons_succ] at hK ⊢
          have eq3 : y3 = .bool true := HJ.out.get (i := 3) rfl (hp 3 (by simp)) (fun k e => by cases e)
          subst eq3
          have eq4 : y4 = .pointer (some ⟨g, 0, none⟩) := HJ.out.get (i := 4) rfl (hp 4 (by simp)) (fun k e => by cases e)
          subst eq4
          have eq5 : y5 = .agg #[.slice (some ad) N c1, .int .i64 (kk : Nat), .int .i64 0] := HJ.out.get (i := 5) rfl (hp 5 (by simp)) (fun k e => by cases e)
          subst eq5
          rw [if_pos (by rfl)]
          go_simp
          refine (law_stands b (some ad) N c1 Bg g kk 0 X (HR.out.below HJ.out.1)).mono ?_
          rintro e w3 ⟨rfl, q3⟩
          refine hK _ w3 ?_
          exact HJ.out.below (i := 6) rfl hp (by simp) _ (HJ.out.1.trans (q3.mono HJ.out.1.size)) rfl (rfl) (eSee11a_st _ _ _ _ _ _ _ _ _ _ _ _ _) q3
        · simp only [putAll, Act.put, List.setIfInBounds_toArray, List.set_cons_zero, List.set_cons_succ] at hK ⊢
          have eq3 : y3 = .bool true := HJ.out.get (i := 3) rfl (hp 3 (by simp)) (fun k e => by cases e)
          subst eq3
          have eq6 : y6 = .bool true := HJ.out.get (i := 6) rfl (hp 6 (by simp)) (fun k e => by cases e)
          subst eq6
          rw [if_pos (by rfl)]
          go_simp
          refine hK _ X ?_
          exact HJ.out.step (i := 7) rfl hp (by simp) _ rfl rfl
        · simp only [putAll, Act.put, List.setIfInBounds_toArray, List.set_cons_zero, List.set_cons_succ] at hK ⊢
          have eq7 : y7 = .bool true := HJ.out.get (i := 7) rfl (hp 7 (by simp)) (fun k e => by cases e)
          subst eq7
          rw [if_pos (by rfl)]
          go_simp
          refine hK _ X ?_
          exact HJ.out.step (i := 8) rfl hp (by simp) _ rfl rfl
        · simp only [putAll, Act.put, List.setIfInBounds_toArray, List.set_cons_zero, List.set_cons_succ] at hK ⊢
          have eq8 : y8 = .bool true := HJ.out.get (i := 8) rfl (hp 8 (by simp)) (fun k e => by cases e)
          subst eq8
          rw [if_pos (by rfl)]
          go_simp
          refine hK _ X ?_
          exact HJ.out.step (i := 9) rfl hp (by simp) _ rfl rfl
        · simp only [putAll, Act.put, List.setIfInBounds_toArray, List.set_cons_zero, List.set_cons_succ] at hK ⊢
          have eq8 : y8 = .bool true := HJ.out.get (i := 8) rfl (hp 8 (by simp)) (fun k e => by cases e)
          subst eq8
          have eq9 : y9 = .pointer (some ⟨R8, 2, none⟩) := HJ.out.get (i := 9) rfl (hp 9 (by simp)) (fun k e => by cases e)
          subst eq9
          rw [if_pos (by rfl)]
          obtain ⟨x0, x1, x2, -, -, -⟩ := (HRB.out.below HJ.out.1 HRB.out.lt).three
          go_simp
          refine hK _ X ?_
          exact HJ.out.step (i := 10) rfl hp (by simp) _ rfl rfl
        · simp only [putAll, Act.put, List.setIfInBounds_toArray, List.set_cons_zero, List.set_cons_succ] at hK ⊢
          have eq8 : y8 = .bool true := HJ.out.get (i := 8) rfl (hp 8 (by simp)) (fun k e => by cases e)
          subst eq8
          have eq10 : y10 = .int .i64 0 := HJ.out.get (i := 10) rfl (hp 10 (by simp)) (fun k e => by cases e)
          subst eq10
          rw [if_pos (by rfl)]
          go_simp
          refine hK _ X ?_
          exact HJ.out.step (i := 11) rfl hp (by simp) _ rfl rfl
        · simp only [putAll, Act.put, List.setIfInBounds_toArray, List.set_cons_zero, List.set_cons_succ] at hK ⊢
          have eq8 : y8 = .bool true := HJ.out.get (i := 8) rfl (hp 8 (by simp)) (fun k e => by cases e)
          subst eq8
          have eq11 : y11 = .bool false := HJ.out.get (i := 11) rfl (hp 11 (by simp)) (fun k e => by cases e)
          subst eq11
          rw [if_pos (by rfl)]
          go_simp
          refine hK _ X ?_
          exact HJ.out.step (i := 12) rfl hp (by simp) _ rfl rfl
        · simp only [putAll, Act.put, List.setIfInBounds_toArray, List.set_cons_zero, List.set_cons_succ] at hK ⊢
          have eq12 : y12 = .bool false := HJ.out.get (i := 12) rfl (hp 12 (by simp)) (fun k e => by cases e)
          subst eq12
          rw [if_pos (by rfl)]
          obtain ⟨x0, x1, x2, x3, x4⟩ := (HZ.out.below HJ.out.1 HZ.out.lt).five
          go_simp
          refine hK _ X ?_
          exact HJ.out.step (i := 13) rfl hp (by simp) _ rfl rfl
        · simp only [putAll, Act.put, List.setIfInBounds_toArray, List.set_cons_zero, List.set_cons_succ] at hK ⊢
          have eq12 : y12 = .bool false := HJ.out.get (i := 12) rfl (hp 12 (by simp)) (fun k e => by cases e)
          subst eq12
          rw [if_pos (by rfl)]
          go_simp
          refine hK _ X ?_
          exact HJ.out.step (i := 14) rfl hp (by simp) _ rfl rfl
        · simp only [putAll, Act.put, List.setIfInBounds_toArray, List.set_cons_zero, List.set_cons_succ] at hK ⊢
          have eq12 : y12 = .bool false := HJ.out.get (i := 12) rfl (hp 12 (by simp)) (fun k e => by cases e)
          subst eq12
          have eq13 : y13 = .agg #[.int .i64 id2, .slice Az NX2 cz, .int .i64 p2, .int .i64 q2, .bool sc2] := HJ.out.get (i := 13) rfl (hp 13 (by simp)) (fun k e => by cases e)
          subst eq13
          have eq14 : y14 = .int .i64 dim := HJ.out.get (i := 14) rfl (hp 14 (by simp)) (fun k e => by cases e)
          subst eq14
          rw [if_pos (by rfl)]
          go_simp
          refine (KR2.out X HJ.out.1).mono ?_
          rintro e w3 ⟨⟨v, rfl, h1⟩, q3⟩
          obtain ⟨A6, c6, rfl, -, -, g3, -, -⟩ := h1.lies
          have hkk := HKK.out
          rw [hkk]
          refine hK _ w3 ?_
          exact HJ.out.below (i := 15) rfl hp (by simp) _ (HJ.out.1.trans (q3.mono HJ.out.1.size)) rfl (⟨A6, c6, rfl, g3⟩) (eSee11a_st _ _ _ _ _ _ _ _ _ _ _ _ _) q3
        · simp only [putAll, Act.put, List.setIfInBounds_toArray, List.set_cons_zero, List.set_cons_succ] at hK ⊢
          have eq12 : y12 = .bool false := HJ.out.get (i := 12) rfl (hp 12 (by simp)) (fun k e => by cases e)
          subst eq12
          rw [if_pos (by rfl)]
          go_simp
          refine hK _ X ?_
          exact HJ.out.step (i := 16) rfl hp (by simp) _ rfl rfl
        · simp only [putAll, Act.put, List.setIfInBounds_toArray, List.set_cons_zero, List.set_cons_succ] at hK ⊢
          have eq12 : y12 = .bool false := HJ.out.get (i := 12) rfl (hp 12 (by simp)) (fun k e => by cases e)
          subst eq12
          rw [if_pos (by rfl)]
          go_simp
          refine hK _ X ?_
          exact HJ.out.step (i := 17) rfl hp (by simp) _ rfl rfl
        · simp only [putAll, Act.put, List.setIfInBounds_toArray, List.set_cons_zero, List.set_cons_succ] at hK ⊢
          have eq12 : y12 = .bool false := HJ.out.get (i := 12) rfl (hp 12 (by simp)) (fun k e => by cases e)
          subst eq12
          have eq17 : y17 = .pointer (some ⟨R8, 1, none⟩) := HJ.out.get (i := 17) rfl (hp 17 (by simp)) (fun k e => by cases e)
          subst eq17
          rw [if_pos (by rfl)]
          obtain ⟨x0, x1, x2, -, -, -⟩ := (HRB.out.below HJ.out.1 HRB.out.lt).three
          go_simp
          refine hK _ X ?_
          exact HJ.out.step (i := 18) rfl hp (by simp) _ rfl rfl
        · simp only [putAll, Act.put, List.setIfInBounds_toArray, List.set_cons_zero, List.set_cons_succ] at hK ⊢
          have eq12 : y12 = .bool false := HJ.out.get (i := 12) rfl (hp 12 (by simp)) (fun k e => by cases e)
          subst eq12
          have eq16 : y16 = .slice (some ad) N c1 := HJ.out.get (i := 16) rfl (hp 16 (by simp)) (fun k e => by cases e)
          subst eq16
          have eq18 : y18 = .int .i64 (kk : Nat) := HJ.out.get (i := 18) rfl (hp 18 (by simp)) (fun k e => by cases e)
          subst eq18
          rw [if_pos (by rfl)]
          go_simp
          refine hK _ X ?_
          exact HJ.out.step (i := 19) rfl hp (by simp) _ rfl rfl
        · simp only [putAll, Act.put, List.setIfInBounds_toArray, List.set_cons_zero, List.set_cons_succ] at hK ⊢
          have eq12 : y12 = .bool false := HJ.out.get (i := 12) rfl (hp 12 (by simp)) (fun k e => by cases e)
          subst eq12
          obtain ⟨A6, c6, e6, h6⟩ := HJ.out.get (i := 15) rfl (hp 15 (by simp)) (fun k e => by cases e)
          have e15 : y15 = .slice A6 kk c6 := e6
          clear e6
          subst e15
          have eq19 : y19 = .slice (some ad) kk c1 := HJ.out.get (i := 19) rfl (hp 19 (by simp)) (fun k e => by cases e)
          subst eq19
          rw [if_pos (by rfl)]
          go_simp
          refine (KS2.out A6 (some ad) c6 c1 X h6 (HA1.out.up HJ.out.1)).mono ?_
          rintro e w3 ⟨rfl, rfl⟩
          refine hK _ _ ?_
          exact HJ.out.step (i := 20) rfl hp (by simp) _ rfl rfl
        · simp only [putAll, Act.put, List.setIfInBounds_toArray, List.set_cons_zero, List.set_cons_succ] at hK ⊢
          have eq8 : y8 = .bool true := HJ.out.get (i := 8) rfl (hp 8 (by simp)) (fun k e => by cases e)
          subst eq8
          have eq12 : y12 = .bool false := HJ.out.get (i := 12) rfl (hp 12 (by simp)) (fun k e => by cases e)
          subst eq12
          have eq20 : y20 = .bool true := HJ.out.get (i := 20) rfl (hp 20 (by simp)) (fun k e => by cases e)
          subst eq20
          rw [if_pos (by rfl)]
          go_simp
          refine hK _ X ?_
          exact HJ.out.step (i := 21) rfl hp (by simp) _ rfl rfl
        · simp only [putAll, Act.put, List.setIfInBounds_toArray, List.set_cons_zero, List.set_cons_succ] at hK ⊢
          have eq8 : y8 = .bool true := HJ.out.get (i := 8) rfl (hp 8 (by simp)) (fun k e => by cases e)
          subst eq8
          have eq21 : y21 = .bool true := HJ.out.get (i := 21) rfl (hp 21 (by simp)) (fun k e => by cases e)
          subst eq21
          rw [if_pos (by rfl)]
          go_simp
          refine hK _ X ?_
          exact HJ.out.step (i := 22) rfl hp (by simp) _ rfl rfl
        · simp only [putAll, Act.put, List.setIfInBounds_toArray, List.set_cons_zero, List.set_cons_succ] at hK ⊢
          have eq22 : y22 = .bool true := HJ.out.get (i := 22) rfl (hp 22 (by simp)) (fun k e => by cases e)
          subst eq22
          rw [if_pos (by rfl)]
          go_simp
          refine hK _ X ?_
          exact HJ.out.step (i := 23) rfl hp (by simp) _ rfl rfl
        · simp only [putAll, Act.put, List.setIfInBounds_toArray, List.set_cons_zero, List.set_cons_succ] at hK ⊢
          have eq23 : y23 = .bool true := HJ.out.get (i := 23) rfl (hp 23 (by simp)) (fun k e => by cases e)
          subst eq23
          rw [if_pos (by rfl)]
          go_simp
          refine (lives22 X).mono ?_
          rintro e w3 ⟨rfl, q3⟩
          refine hK _ w3 ?_
          exact HJ.out.below (i := 24) rfl hp (by simp) _ (HJ.out.1.trans (q3.mono HJ.out.1.size)) rfl (rfl) (eSee11a_st _ _ _ _ _ _ _ _ _ _ _ _ _) q3
        · simp only [putAll, Act.put, List.setIfInBounds_toArray, List.set_cons_zero, List.set_cons_succ] at hK ⊢
          have eq23 : y23 = .bool true := HJ.out.get (i := 23) rfl (hp 23 (by simp)) (fun k e => by cases e)
          subst eq23
          have eq24 : y24 = .bool true := HJ.out.get (i := 24) rfl (hp 24 (by simp)) (fun k e => by cases e)
          subst eq24
          rw [if_pos (by rfl)]
          go_simp
          refine hK _ X ?_
          exact HJ.out.step (i := 25) rfl hp (by simp) _ rfl rfl
        · simp only [putAll, Act.put, List.setIfInBounds_toArray, List.set_cons_zero, List.set_cons_succ] at hK ⊢
          have eq25 : y25 = .bool true := HJ.out.get (i := 25) rfl (hp 25 (by simp)) (fun k e => by cases e)
          subst eq25
          rw [if_pos (by rfl)]
          go_simp
          refine hK _ X ?_
          exact HJ.out.step (i := 26) rfl hp (by simp) _ rfl rfl
      · intro vs X hl hj
        obtain ⟨y0, y1, y2, y3, y4, y5, y6, y7, y8, y9, y10, y11, y12, y13, y14, y15, y16, y17, y18, y19, y20, y21, y22, y23, y24, y25, y26, rfl⟩ := len27' hl
        have e26 : y26 = .bool true := hj.get (i := 26) rfl rfl (fun k e => by cases e)
        subst e26
        have HBX := Lib.hid (HB.out.trans (hj.1.mono HB.out.size))
        clear hj hl
        simp only [putAll, Act.put, List.setIfInBounds_toArray, List.set_cons_zero, List.set_cons_succ]
        go_wp2
        go_ret
        exact ⟨rfl, HBX.out⟩
    · have HE11 : (Value.bool (e1 != 0)) = .bool true := congrArg Value.bool (by simpa using he)
      clear KR0 HONE
      generalize X2.length = NX2 at *
      obtain ⟨D2, hD2⟩ : ∃ D2 : List Int, D2 = [] := ⟨_, rfl⟩
      go_wp2
      refine wp_region_steps (GJ PSee11 (ESee11b (.agg #[.int .i64 id2, .slice Ay NX2 cy, .int .i64 p2, .int .i64 q2, .bool sc2]) (.agg #[.int .i64 id2, .slice Az NX2 cz, .int .i64 p2, .int .i64 q2, .bool sc2]) (.pointer (some ⟨g, 0, none⟩)) (.agg #[.slice A1 N c1, .int .i64 (kk : Nat), .int .i64 e1]) (.pointer (some ⟨R8, 2, none⟩)) (.pointer (some ⟨R8, 1, none⟩)) e1 kk A1 N c1 D2 dim) (fun X => Below W0.heap.size W0 X)) PSee11 (by kernel_rfl) (by kernel_rfl) (by kernel_rfl) (by kernel_rfl) ?_ ?_ ?_ ?_
      · exact fun f g vs X hfg h => GJ.congr (n := 27) (by decide) (by decide) (by simp [ESee11b]) (by simp [ESee11b]) hfg h
      · intro vs _
        exact GJ.start ((Below.refl _ _).drew)
      · refine ⟨?_, ?_, ?_, ?_, ?_, ?_, ?_, ?_, ?_, ?_, ?_, ?_, ?_, ?_, ?_, ?_, ?_, ?_, ?_, ?_, ?_, ?_, ?_, ?_, ?_, ?_, ?_, trivial⟩
        all_goals
          intro f vs X hlen hf hp hj K hK
          obtain ⟨y0, y1, y2, y3, y4, y5, y6, y7, y8, y9, y10, y11, y12, y13, y14, y15, y16, y17, y18, y19, y20, y21, y22, y23, y24, y25, y26, rfl⟩ := len27' hlen
          clear hlen
          have HJ := Lib.hid hj
          clear hj
        · rw [if_pos (by rfl)]
          simp only [putAll, Act.put, List.setIfInBounds_toArray, List.set_cons_zero, List.set_cons_succ] at hK ⊢
          obtain ⟨x0, x1, x2, x3, x4⟩ := (HY.out.below HJ.out.1 HY.out.lt).five
          go_simp
          refine hK _ X ?_
          exact HJ.out.step (i := 0) rfl hp (by simp) _ rfl rfl
        · rw [if_pos (by rfl)]
          simp only [putAll, Act.put, List.setIfInBounds_toArray, List.set_cons_zero, List.set_cons_succ] at hK ⊢
          obtain ⟨x0, x1, x2, x3, x4⟩ := (HZ.out.below HJ.out.1 HZ.out.lt).five
          go_simp
          refine hK _ X ?_
          exact HJ.out.step (i := 1) rfl hp (by simp) _ rfl rfl
        · simp only [putAll, Act.put, List.setIfInBounds_toArray, List.set_cons_zero, List.set_cons_succ] at hK ⊢
          have eq0 : y0 = .agg #[.int .i64 id2, .slice Ay NX2 cy, .int .i64 p2, .int .i64 q2, .bool sc2] := HJ.out.get (i := 0) rfl (hp 0 (by simp)) (fun k e => by cases e)
          subst eq0
          have eq1 : y1 = .agg #[.int .i64 id2, .slice Az NX2 cz, .int .i64 p2, .int .i64 q2, .bool sc2] := HJ.out.get (i := 1) rfl (hp 1 (by simp)) (fun k e => by cases e)
          subst eq1
          rw [if_pos (by rfl)]
          go_simp
          refine (KSA.out X HJ.out.1).mono ?_
          rintro e w3 ⟨rfl, q3⟩
          refine hK _ w3 ?_
          exact HJ.out.below (i := 2) rfl hp (by simp) _ (HJ.out.1.trans (q3.mono HJ.out.1.size)) rfl (rfl) (eSee11b_st _ _ _ _ _ _ _ _ _ _ _ _ _) q3
        · simp only [putAll, Act.put, List.setIfInBounds_toArray, List.set_cons_zero, List.set_cons_succ] at hK ⊢
          have eq2 : y2 = .bool true := HJ.out.get (i := 2) rfl (hp 2 (by simp)) (fun k e => by cases e)
          subst eq2
          rw [if_pos (by rfl)]
          go_simp
          refine hK _ X ?_
          exact HJ.out.step (i := 3) rfl hp (by simp) _ rfl rfl
        · simp only [putAll, Act.put, List.setIfInBounds_toArray, List.set_cons_zero, List.set_cons_succ] at hK ⊢
          have eq3 : y3 = .bool true := HJ.out.get (i := 3) rfl (hp 3 (by simp)) (fun k e => by cases e)
          subst eq3
          rw [if_pos (by rfl)]
          go_simp
          refine hK _ X ?_
          exact HJ.out.step (i := 4) rfl hp (by simp) _ rfl rfl
        · simp only [putAll, Act.put, List.setIfInBounds_toArray, List.set_cons_zero, List.set_cons_succ] at hK ⊢
          have eq3 : y3 = .bool true := HJ.out.get (i := 3) rfl (hp 3 (by simp)) (fun k e => by cases e)
          subst eq3
          rw [if_pos (by rfl)]
          obtain ⟨x0, x1, x2, -, -, -⟩ := (HRB.out.below HJ.out.1 HRB.out.lt).three
          go_simp
          refine hK _ X ?_
          exact HJ.out.step (i := 5) rfl hp (by simp) _ rfl rfl
        · simp only [putAll, Act.put, List.setIfInBounds_toArray, List.set_cons_zero, List.set_cons_succ] at hK ⊢
          have eq3 : y3 = .bool true := HJ.out.get (i := 3) rfl (hp 3 (by simp)) (fun k e => by cases e)
          subst eq3
          have eq4 : y4 = .pointer (some ⟨g, 0, none⟩) := HJ.out.get (i := 4) rfl (hp 4 (by simp)) (fun k e => by cases e)
          subst eq4
          have eq5 : y5 = .agg #[.slice A1 N c1, .int .i64 (kk : Nat), .int .i64 e1] := HJ.out.get (i := 5) rfl (hp 5 (by simp)) (fun k e => by cases e)
          subst eq5
          rw [if_pos (by rfl)]
          go_simp
          refine (law_stands b A1 N c1 Bg g kk e1 X (HR.out.below HJ.out.1)).mono ?_
          rintro e w3 ⟨rfl, q3⟩
          refine hK _ w3 ?_
          exact HJ.out.below (i := 6) rfl hp (by simp) _ (HJ.out.1.trans (q3.mono HJ.out.1.size)) rfl (rfl) (eSee11b_st _ _ _ _ _ _ _ _ _ _ _ _ _) q3
        · simp only [putAll, Act.put, List.setIfInBounds_toArray, List.set_cons_zero, List.set_cons_succ] at hK ⊢
          have eq3 : y3 = .bool true := HJ.out.get (i := 3) rfl (hp 3 (by simp)) (fun k e => by cases e)
          subst eq3
          have eq6 : y6 = .bool true := HJ.out.get (i := 6) rfl (hp 6 (by simp)) (fun k e => by cases e)
          subst eq6
          rw [if_pos (by rfl)]
          go_simp
          refine hK _ X ?_
          exact HJ.out.step (i := 7) rfl hp (by simp) _ rfl rfl
        · simp only [putAll, Act.put, List.setIfInBounds_toArray, List.set_cons_zero, List.set_cons_succ] at hK ⊢
          have eq7 : y7 = .bool true := HJ.out.get (i := 7) rfl (hp 7 (by simp)) (fun k e => by cases e)
          subst eq7
          rw [if_pos (by rfl)]
          go_simp
          refine hK _ X ?_
          exact HJ.out.step (i := 8) rfl hp (by simp) _ rfl rfl
        · simp only [putAll, Act.put, List.setIfInBounds_toArray, List.set_cons_zero, List.set_cons_succ] at hK ⊢
          have eq8 : y8 = .bool true := HJ.out.get (i := 8) rfl (hp 8 (by simp)) (fun k e => by cases e)
          subst eq8
          rw [if_pos (by rfl)]
          go_simp
          refine hK _ X ?_
          exact HJ.out.step (i := 9) rfl hp (by simp) _ rfl rfl
        · simp only [putAll, Act.put, List.setIfInBounds_toArray, List.set_cons_zero, List.set_cons_succ] at hK ⊢
          have eq8 : y8 = .bool true := HJ.out.get (i := 8) rfl (hp 8 (by simp)) (fun k e => by cases e)
          subst eq8
          have eq9 : y9 = .pointer (some ⟨R8, 2, none⟩) := HJ.out.get (i := 9) rfl (hp 9 (by simp)) (fun k e => by cases e)
          subst eq9
          rw [if_pos (by rfl)]
          obtain ⟨x0, x1, x2, -, -, -⟩ := (HRB.out.below HJ.out.1 HRB.out.lt).three
          go_simp
          refine hK _ X ?_
          exact HJ.out.step (i := 10) rfl hp (by simp) _ rfl rfl
        · simp only [putAll, Act.put, List.setIfInBounds_toArray, List.set_cons_zero, List.set_cons_succ] at hK ⊢
          have eq8 : y8 = .bool true := HJ.out.get (i := 8) rfl (hp 8 (by simp)) (fun k e => by cases e)
          subst eq8
          have eq10 : y10 = .int .i64 e1 := HJ.out.get (i := 10) rfl (hp 10 (by simp)) (fun k e => by cases e)
          subst eq10
          rw [if_pos (by rfl)]
          go_simp
          refine hK _ X ?_
          exact HJ.out.step (i := 11) rfl hp (by simp) _ rfl rfl
        · simp only [putAll, Act.put, List.setIfInBounds_toArray, List.set_cons_zero, List.set_cons_succ] at hK ⊢
          have eq8 : y8 = .bool true := HJ.out.get (i := 8) rfl (hp 8 (by simp)) (fun k e => by cases e)
          subst eq8
          have eq11 : y11 = .bool true := HJ.out.get (i := 11) rfl (hp 11 (by simp)) (fun k e => by cases e)
          subst eq11
          rw [if_pos (by rfl)]
          go_simp
          refine hK _ X ?_
          exact HJ.out.step (i := 12) rfl hp (by simp) _ rfl rfl
        · simp only [putAll, Act.put, List.setIfInBounds_toArray, List.set_cons_zero, List.set_cons_succ] at hK ⊢
          have eq12 : y12 = .bool true := HJ.out.get (i := 12) rfl (hp 12 (by simp)) (fun k e => by cases e)
          subst eq12
          rw [if_neg (by simp [Region.wanted, yielded])]
          refine hK _ X ?_
          exact HJ.out.step (i := 13) rfl hp (by simp) _ rfl trivial
        · simp only [putAll, Act.put, List.setIfInBounds_toArray, List.set_cons_zero, List.set_cons_succ] at hK ⊢
          have eq12 : y12 = .bool true := HJ.out.get (i := 12) rfl (hp 12 (by simp)) (fun k e => by cases e)
          subst eq12
          rw [if_neg (by simp [Region.wanted, yielded])]
          refine hK _ X ?_
          exact HJ.out.step (i := 14) rfl hp (by simp) _ rfl trivial
        · simp only [putAll, Act.put, List.setIfInBounds_toArray, List.set_cons_zero, List.set_cons_succ] at hK ⊢
          have eq12 : y12 = .bool true := HJ.out.get (i := 12) rfl (hp 12 (by simp)) (fun k e => by cases e)
          subst eq12
          rw [if_neg (by simp [Region.wanted, yielded])]
          refine hK _ X ?_
          exact HJ.out.step (i := 15) rfl hp (by simp) _ rfl trivial
        · simp only [putAll, Act.put, List.setIfInBounds_toArray, List.set_cons_zero, List.set_cons_succ] at hK ⊢
          have eq12 : y12 = .bool true := HJ.out.get (i := 12) rfl (hp 12 (by simp)) (fun k e => by cases e)
          subst eq12
          rw [if_neg (by simp [Region.wanted, yielded])]
          refine hK _ X ?_
          exact HJ.out.step (i := 16) rfl hp (by simp) _ rfl trivial
        · simp only [putAll, Act.put, List.setIfInBounds_toArray, List.set_cons_zero, List.set_cons_succ] at hK ⊢
          have eq12 : y12 = .bool true := HJ.out.get (i := 12) rfl (hp 12 (by simp)) (fun k e => by cases e)
          subst eq12
          rw [if_neg (by simp [Region.wanted, yielded])]
          refine hK _ X ?_
          exact HJ.out.step (i := 17) rfl hp (by simp) _ rfl trivial
        · simp only [putAll, Act.put, List.setIfInBounds_toArray, List.set_cons_zero, List.set_cons_succ] at hK ⊢
          have eq12 : y12 = .bool true := HJ.out.get (i := 12) rfl (hp 12 (by simp)) (fun k e => by cases e)
          subst eq12
          rw [if_neg (by simp [Region.wanted, yielded])]
          refine hK _ X ?_
          exact HJ.out.step (i := 18) rfl hp (by simp) _ rfl trivial
        · simp only [putAll, Act.put, List.setIfInBounds_toArray, List.set_cons_zero, List.set_cons_succ] at hK ⊢
          have eq12 : y12 = .bool true := HJ.out.get (i := 12) rfl (hp 12 (by simp)) (fun k e => by cases e)
          subst eq12
          rw [if_neg (by simp [Region.wanted, yielded])]
          refine hK _ X ?_
          exact HJ.out.step (i := 19) rfl hp (by simp) _ rfl trivial
        · simp only [putAll, Act.put, List.setIfInBounds_toArray, List.set_cons_zero, List.set_cons_succ] at hK ⊢
          have eq12 : y12 = .bool true := HJ.out.get (i := 12) rfl (hp 12 (by simp)) (fun k e => by cases e)
          subst eq12
          rw [if_neg (by simp [Region.wanted, yielded])]
          refine hK _ X ?_
          exact HJ.out.step (i := 20) rfl hp (by simp) _ rfl trivial
        · simp only [putAll, Act.put, List.setIfInBounds_toArray, List.set_cons_zero, List.set_cons_succ] at hK ⊢
          have eq8 : y8 = .bool true := HJ.out.get (i := 8) rfl (hp 8 (by simp)) (fun k e => by cases e)
          subst eq8
          have eq12 : y12 = .bool true := HJ.out.get (i := 12) rfl (hp 12 (by simp)) (fun k e => by cases e)
          subst eq12
          rw [if_pos (by rfl)]
          go_simp
          refine hK _ X ?_
          exact HJ.out.step (i := 21) rfl hp (by simp) _ rfl rfl
        · simp only [putAll, Act.put, List.setIfInBounds_toArray, List.set_cons_zero, List.set_cons_succ] at hK ⊢
          have eq8 : y8 = .bool true := HJ.out.get (i := 8) rfl (hp 8 (by simp)) (fun k e => by cases e)
          subst eq8
          have eq21 : y21 = .bool true := HJ.out.get (i := 21) rfl (hp 21 (by simp)) (fun k e => by cases e)
          subst eq21
          rw [if_pos (by rfl)]
          go_simp
          refine hK _ X ?_
          exact HJ.out.step (i := 22) rfl hp (by simp) _ rfl rfl
        · simp only [putAll, Act.put, List.setIfInBounds_toArray, List.set_cons_zero, List.set_cons_succ] at hK ⊢
          have eq22 : y22 = .bool true := HJ.out.get (i := 22) rfl (hp 22 (by simp)) (fun k e => by cases e)
          subst eq22
          rw [if_pos (by rfl)]
          go_simp
          refine hK _ X ?_
          exact HJ.out.step (i := 23) rfl hp (by simp) _ rfl rfl
        · simp only [putAll, Act.put, List.setIfInBounds_toArray, List.set_cons_zero, List.set_cons_succ] at hK ⊢
          have eq23 : y23 = .bool true := HJ.out.get (i := 23) rfl (hp 23 (by simp)) (fun k e => by cases e)
          subst eq23
          rw [if_pos (by rfl)]
          go_simp
          refine (lives22 X).mono ?_
          rintro e w3 ⟨rfl, q3⟩
          refine hK _ w3 ?_
          exact HJ.out.below (i := 24) rfl hp (by simp) _ (HJ.out.1.trans (q3.mono HJ.out.1.size)) rfl (rfl) (eSee11b_st _ _ _ _ _ _ _ _ _ _ _ _ _) q3
        · simp only [putAll, Act.put, List.setIfInBounds_toArray, List.set_cons_zero, List.set_cons_succ] at hK ⊢
          have eq23 : y23 = .bool true := HJ.out.get (i := 23) rfl (hp 23 (by simp)) (fun k e => by cases e)
          subst eq23
          have eq24 : y24 = .bool true := HJ.out.get (i := 24) rfl (hp 24 (by simp)) (fun k e => by cases e)
          subst eq24
          rw [if_pos (by rfl)]
          go_simp
          refine hK _ X ?_
          exact HJ.out.step (i := 25) rfl hp (by simp) _ rfl rfl
        · simp only [putAll, Act.put, List.setIfInBounds_toArray, List.set_cons_zero, List.set_cons_succ] at hK ⊢
          have eq25 : y25 = .bool true := HJ.out.get (i := 25) rfl (hp 25 (by simp)) (fun k e => by cases e)
          subst eq25
          rw [if_pos (by rfl)]
          go_simp
          refine hK _ X ?_
          exact HJ.out.step (i := 26) rfl hp (by simp) _ rfl rfl
      · intro vs X hl hj
        obtain ⟨y0, y1, y2, y3, y4, y5, y6, y7, y8, y9, y10, y11, y12, y13, y14, y15, y16, y17, y18, y19, y20, y21, y22, y23, y24, y25, y26, rfl⟩ := len27' hl
        have e26 : y26 = .bool true := hj.get (i := 26) rfl rfl (fun k e => by cases e)
        subst e26
        have HBX := Lib.hid (HB.out.trans (hj.1.mono HB.out.size))
        clear hj hl
        simp only [putAll, Act.put, List.setIfInBounds_toArray, List.set_cons_zero, List.set_cons_succ]
        go_wp2
        go_ret
        exact ⟨rfl, HBX.out⟩

set_option maxRecDepth 100000 in
theorem lifted (os : Os) (started : os.Started) (H : Type) (enc : TypeId × Value → H) :
    ReturnsInHanded {} Tryz.checked os 4 .any (Rows.itemSeensSpec.pre6 enc Tryz.prog Tryz.f4 Rows.itemSeensRow.domain false) (Rows.itemSeensSpec.post enc Tryz.prog Tryz.f4 false true false false) := by
  refine returnsInHanded_of_change (C := Tryz.checked) own started (by kernel_rfl) Tryz.func4
    (ChangeSpec.witness6 (enc := enc) (C := Tryz.checked) false ⟨#[], #[.agg #[.int .i64 0, .slice none 0 0, .int .i64 0, .int .i64 0, .bool false], .int .i64 0, .slice none 0 0], []⟩ 8 (by kernel_rfl) (by kernel_rfl) (by kernel_rfl) (by kernel_rfl)) ?_
  intro W base args ds gs before hval0 hW hcnd _
  have hval : ∀ (j : Nat) t v, Tryz.f4.params[j]? = some t → args[j]? = some v → Value.okWide Tryz.prog W .any base t v := hval0
  have hW' := hW
  obtain ⟨p, q, hA0, hV, rfl, hfz, hnd⟩ := hW
  obtain ⟨rfl, rfl⟩ := trodVars_none hV
  have hA : DataW.TrodAll enc Tryz.prog W 0 (fun _ => true) true Tryz.f4.params.toList args.toList ds p := hA0
  rw [Tryz.params4] at hA hval
  obtain ⟨v0, vs0, d0, ds0, p0, q0, hargs, rfl, rfl, h0, r0⟩ := trodAll_cons hA
  obtain ⟨v1, vs1, d1, ds1, p1, q1, rfl, rfl, rfl, h1, r1⟩ := trodAll_cons r0
  obtain ⟨v2, vs2, d2, ds2, p2, q2, rfl, rfl, rfl, h2, r2⟩ := trodAll_cons r1
  obtain ⟨rfl, rfl, rfl⟩ := trodAll_nil r2
  obtain rfl : args = #[v0, v1, v2] := by cases args; simp_all
  obtain ⟨id0, A0, X0, c0, p0', q0', sc0, rfl, L0, C0, M0, wp0, wq0⟩ := open_seen (hval 0 41 v0 rfl rfl) h0
  obtain ⟨a1, rfl, _, _, w1⟩ := open_int Tryz.underlying3 (hval 1 3 v1 rfl rfl) h1
  obtain ⟨A2, l2, c2, rfl, L2, I2, C2, M2, N2⟩ := open_bytes Tryz.underlying24 Tryz.underlying5 cells_u8 (hval 2 24 v2 rfl rfl) h2
  refine (walk id0 A0 X0 c0 p0' q0' sc0 L0 C0 M0 wp0 wq0 a1 (i64_of_wf w1) A2 l2 c2 L2 I2 C2 M2 N2 W).mono fun e W' ⟨he, hg⟩ => ?_
  subst he
  exact ⟨_, rfl, law_post laid (by rw [Tryz.params4]; exact (by decide +kernel)) rfl (by kernel_rfl) Tryz.underlying4 rfl hW' hg⟩

theorem over : Rows.itemSeensRow.holds Tryz.pinned (OpenSpec.ofChange Rows.itemSeensSpec) :=
  OpenClaim.holds_of_wide 4 Tryz.f4 rfl rfl rfl rfl rfl rfl rfl ⟨rfl, rfl, rfl, rfl, rfl⟩ rfl rfl rfl rfl rfl (by kernel_rfl) Tryz.func4 (by kernel_rfl)
    (of_decide_eq_true (by kernel_rfl)) (by unfold Func.isWrapper; first | (rw [if_pos (by decide +kernel)]; kernel_rfl) | (rw [if_neg (by decide +kernel)]; exact ⟨rfl, rfl⟩))
    (fun os started H enc _ => lifted os started H enc)
theorem proved : Rows.ItemSeensSaid := over
end Go.Proofs.YtpoemflclbhekaaGreat.itemSeens
