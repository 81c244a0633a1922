/- Statement ItemScores: whatever the input is, the Go function returns true and each argument reads as it did. No condition. -/
import Derived.Test.YtpoemflclbhekaaGreatRows
import Derived.Test.YtpoemflclbhekaaGreatItmY
import Derived.Test.YtpoemflclbhekaaGreatItmLv
import Derived.Test.YtpoemflclbhekaaGreatBinO
import Derived.Test.YtpoemflclbhekaaGreatBinP
import Derived.Test.YtpoemflclbhekaaGreatRegJ
import Derived.Test.YtpoemflclbhekaaGreatVecT
import Derived.Test.YtpoemflclbhekaaGreatBase
import Derived.ProofKit
import Derived.OpenShut
import Derived.IntWalk
namespace Go.Proofs.YtpoemflclbhekaaGreat.itemScores
open Go.ChangeShapes Go.WideShapes Go.ChangeAt Go.RowKit
set_option linter.unusedVariables false

theorem own : ownKnob Tryz.prog.godebug = none := by kernel_rfl
theorem laid : laidOutB Tryz.prog = true := by kernel_rfl

section
def PScr4 : List (List Nat) := [[], [], [], [1, 2], [], [4, 3], [3, 5, 5], [0, 6, 6], [7]]
def EScr4 (B n5 : Nat) (A5 : Option Addr) (cp5 : Nat) (A1 : Option Addr) (N k1 : Nat) (V : Value) (l D : List Int) : EJ :=
  [(none, fun _ y => y = .slice A5 n5 cp5), (some 3, fun X y => ∃ g, y = .slice (some ⟨g, 0, none⟩) 0 0 ∧ B ≤ g ∧ Box X g #[] 5), (none, fun _ y => y = .slice A1 N k1), (some 6, fun X y => OwnsY X B y l), (none, fun _ y => y = V), (some 6, fun X y => ∃ A c, y = .slice A D.length c ∧ LiesY X X.heap.size A D ∧ (A = none → c = 0)), (none, fun X y => OwnsY X B y (l ++ D)), (none, fun _ y => y = .bool true), (none, fun _ y => y = .bool false)]
theorem eScr4_st (B n5 : Nat) (A5 : Option Addr) (cp5 : Nat) (A1 : Option Addr) (N k1 : Nat) (V : Value) (l D : List Int) : StE (EScr4 B n5 A5 cp5 A1 N k1 V l D) := by
  intro p hp X X' v hb h
  simp only [EScr4, List.mem_cons, List.not_mem_nil, or_false] at hp
  rcases hp with rfl | rfl | rfl | rfl | rfl | rfl | rfl | rfl | rfl
  · exact h
  · obtain ⟨g, e, hg, hbx⟩ := h
    exact ⟨g, e, hg, hbx.below hb hbx.lt⟩
  · exact h
  · exact OwnsY.below h hb
  · exact h
  · obtain ⟨A, c, e, h1, h2⟩ := h
    exact ⟨A, c, e, h1.up hb, h2⟩
  · exact OwnsY.below h hb
  · exact h
  · exact h
def PScr11 : List (List Nat) := [[], [], [0, 1], [2], [3], [3], [4, 5, 3, 3], [3, 6], [7, 6], [8], [9, 8], [10, 8], [11, 8, 8], [12], [13, 12, 12], [12], [12], [16, 12], [15, 17, 12], [14, 18, 14, 12], [12, 19, 8], [8, 20], [21, 19], [22, 22], [22, 23], [24, 23, 0, 1, 2, 3, 4, 5, 6, 7, 8, 9, 10, 11, 12, 13, 14, 15, 16, 17, 18, 19, 20, 21, 22, 23, 24]]
def EScr11a (VY VZ pv RV p9 p16 : Value) (e1 : Int) (kk : Nat) (A1 : Option Addr) (N k1 : Nat) (D : List Int) : EJ :=
  [(none, fun _ y => y = VY), (none, fun _ y => y = VZ), (none, fun _ y => y = .bool true), (none, fun _ y => y = .bool true), (none, fun _ y => y = pv), (none, fun _ y => y = RV), (none, fun _ y => y = .bool true), (none, fun _ y => y = .bool true), (none, fun _ y => y = .bool true), (none, fun _ y => y = p9), (none, fun _ y => y = .int .i64 e1), (none, fun _ y => y = .bool false), (none, fun _ y => y = .bool false), (none, fun _ y => y = VZ), (none, fun X y => ∃ A c, y = .slice A kk c ∧ LiesY X X.heap.size A D), (none, fun _ y => y = .slice A1 N k1), (none, fun _ y => y = p16), (none, fun _ y => y = .int .i64 (kk : Nat)), (none, fun _ y => y = .slice A1 kk k1), (none, fun _ y => y = .bool true), (none, fun _ y => y = .bool true), (none, fun _ y => y = .bool true), (none, fun _ y => y = .bool true), (none, fun _ y => y = .bool true), (none, fun _ y => y = .bool true), (none, fun _ y => y = .bool true)]
theorem eScr11a_st (VY VZ pv RV p9 p16 : Value) (e1 : Int) (kk : Nat) (A1 : Option Addr) (N k1 : Nat) (D : List Int) : StE (EScr11a VY VZ pv RV p9 p16 e1 kk A1 N k1 D) := by
  intro p hp X X' v hb h
  simp only [EScr11a, List.mem_cons, List.not_mem_nil, or_false] at hp
  rcases hp with rfl | rfl | rfl | rfl | rfl | rfl | rfl | rfl | rfl | rfl | rfl | rfl | rfl | rfl | rfl | rfl | rfl | rfl | rfl | rfl | rfl | rfl | rfl | rfl | rfl | rfl
  · exact h
  · exact h
  · exact h
  · exact h
  · exact h
  · exact h
  · exact h
  · exact h
  · exact h
  · exact h
  · exact h
  · exact h
  · exact h
  · exact h
  · obtain ⟨A, c, e, h1⟩ := h
    exact ⟨A, c, e, h1.up hb⟩
  · exact h
  · exact h
  · exact h
  · exact h
  · exact h
  · exact h
  · exact h
  · exact h
  · exact h
  · exact h
  · exact h
def EScr11b (VY VZ pv RV p9 p16 : Value) (e1 : Int) (kk : Nat) (A1 : Option Addr) (N k1 : Nat) (D : List Int) : EJ :=
  [(none, fun _ y => y = VY), (none, fun _ y => y = VZ), (none, fun _ y => y = .bool true), (none, fun _ y => y = .bool true), (none, fun _ y => y = pv), (none, fun _ y => y = RV), (none, fun _ y => y = .bool true), (none, fun _ y => y = .bool true), (none, fun _ y => y = .bool true), (none, fun _ y => y = p9), (none, fun _ y => y = .int .i64 e1), (none, fun _ y => y = .bool true), (none, fun _ y => y = .bool true), (none, fun _ _ => True), (none, fun _ _ => True), (none, fun _ _ => True), (none, fun _ _ => True), (none, fun _ _ => True), (none, fun _ _ => True), (none, fun _ _ => True), (none, fun _ y => y = .bool true), (none, fun _ y => y = .bool true), (none, fun _ y => y = .bool true), (none, fun _ y => y = .bool true), (none, fun _ y => y = .bool true), (none, fun _ y => y = .bool true)]
theorem eScr11b_st (VY VZ pv RV p9 p16 : Value) (e1 : Int) (kk : Nat) (A1 : Option Addr) (N k1 : Nat) (D : List Int) : StE (EScr11b VY VZ pv RV p9 p16 e1 kk A1 N k1 D) := by
  intro p hp X X' v hb h
  simp only [EScr11b, List.mem_cons, List.not_mem_nil, or_false] at hp
  rcases hp with rfl | rfl | rfl | rfl | rfl | rfl | rfl | rfl | rfl | rfl | rfl | rfl | rfl | rfl | rfl | rfl | rfl | rfl | rfl | rfl | rfl | rfl | rfl | rfl | rfl | rfl
  · exact h
  · exact h
  · exact h
  · exact h
  · exact h
  · exact h
  · exact h
  · exact h
  · exact h
  · exact h
  · exact h
  · exact h
  · exact h
  · exact h
  · exact h
  · exact h
  · exact h
  · exact h
  · exact h
  · exact h
  · exact h
  · exact h
  · exact h
  · exact h
  · exact h
  · exact h
theorem len9' {vs : List Value} (h : vs.length = 9) : ∃ y0 y1 y2 y3 y4 y5 y6 y7 y8, vs = [y0, y1, y2, y3, y4, y5, y6, y7, y8] := by
  match vs, h with
  | y0 :: y1 :: y2 :: y3 :: y4 :: y5 :: y6 :: y7 :: y8 :: [], _ => exact ⟨y0, y1, y2, y3, y4, y5, y6, y7, y8, rfl⟩
theorem len26' {vs : List Value} (h : vs.length = 26) : ∃ y0 y1 y2 y3 y4 y5 y6 y7 y8 y9 y10 y11 y12 y13 y14 y15 y16 y17 y18 y19 y20 y21 y22 y23 y24 y25, vs = [y0, y1, y2, y3, y4, y5, y6, y7, y8, y9, y10, y11, y12, y13, y14, y15, y16, y17, y18, y19, y20, y21, y22, y23, y24, y25] := by
  match vs, h with
  | y0 :: y1 :: y2 :: y3 :: y4 :: y5 :: y6 :: y7 :: y8 :: y9 :: y10 :: y11 :: y12 :: y13 :: y14 :: y15 :: y16 :: y17 :: y18 :: y19 :: y20 :: y21 :: y22 :: y23 :: y24 :: y25 :: [], _ => exact ⟨y0, y1, y2, y3, y4, y5, y6, y7, y8, y9, y10, y11, y12, y13, y14, y15, y16, y17, y18, y19, y20, y21, y22, y23, y24, y25, rfl⟩
end
set_option maxRecDepth 2000000 in
set_option maxHeartbeats 16000000 in
theorem walk (sp sq : Int) {w : World} (hsp : I64 sp) (hsq : I64 sq)
    (A1 : Option Addr) (b : List Int) (k1 : Nat) (hA : LiesY w w.heap.size A1 b) (hb : byt b) (hbc : b.length ≤ k1) (hc1 : k1 ≤ 9223372036854775807) (hAc : A1 = none → k1 = 0) (_ : World) :
    Calls Tryz.prog 3 #[.agg #[.int .i64 sp, .int .i64 sq], .slice A1 b.length k1] w fun e w' => e = .returned (.bool true) ∧ Below w.heap.size w w' := by
  have hb1 := (Below.refl w.heap.size w).alloc (Nat.le_refl _) (.cells #[.int .i64 sp, .int .i64 sq] 23)
  have HXB := Lib.hid (Box.new w #[.int .i64 sp, .int .i64 sq] 23)
  have HB := Lib.hid hb1
  by_cases hbig : 600 < b.length
  · have hlg : (600 : Int) < (b.length : Int) := by omega
    clear hb1 hA hb hAc hbig
    generalize b.length = N at *
    go_enter Tryz.func3, Tryz.ntmps3
    go_wp2_with fail
    refine (lives22 _).mono ?_
    rintro e wl ⟨rfl, bl⟩
    have HB := Lib.hid (HB.out.trans (bl.mono HB.out.size))
    clear bl
    go_wp2
    go_ret
    exact ⟨rfl, HB.out⟩
  have hN6 : b.length ≤ 600 := by omega
  have hlg : ¬ (600 : Int) < (b.length : Int) := by omega
  clear hbig
  have KPA : Hid (∀ W, Below w.heap.size w W → Calls Tryz.prog 6 #[.slice A1 b.length k1, .agg #[.int .i64 sp, .int .i64 sq]] W (GivesY (b ++ scW sp sq) W)) := fun W h => it_PutScore sp sq hsp hsq b A1 k1 W (hA.up h) hAc (by omega)
  have KRF0 : Hid (∀ W, Calls Tryz.prog 8 #[.agg #[.int .i64 sp, .int .i64 sq]] W (GivesY (scW sp sq) W)) := fun W => ref_Score sp sq W
  have KF := Lib.hid (fun W (h : LiesY W W.heap.size A1 b) => bin_From b A1 k1 W h hAc (by omega) hb)
  have KG : Hid (∀ W B g, RdAt W B g b 0 0 → Calls Tryz.prog 10 #[.pointer (some ⟨g, 0, none⟩)] W fun r w' => r = .returned ((.agg #[.int .i64 (gS b 0 0).2.1, .int .i64 (gS b 0 0).2.2])) ∧ RdAt w' B g b (gS b 0 0).1.1 (gS b 0 0).1.2 ∧ Wr g W w') := fun W B g h => it_GetScore b B g 0 0 W h
  have KRG : Hid (∀ W, LiesY W W.heap.size A1 b → Calls Tryz.prog 11 #[.agg #[.slice A1 b.length k1, .int .i64 0, .int .i64 0]] W (GivesRS A1 b.length k1 (gS b 0 0) W)) := fun W h => ref_GetScore b A1 k1 0 0 W h hb (by omega) (Nat.zero_le _)
  have HONE : Hid ((gS b 0 0).1.2 = 0 → 0 < (gS b 0 0).1.1 ∧ (gS b 0 0).1.1 ≤ b.length ∧ scW (gS b 0 0).2.1 (gS b 0 0).2.2 = b.take (gS b 0 0).1.1) := gS_one hb
  have HDL : Hid ((scW sp sq).length ≤ 1000) := by
    show _ ≤ _
    unfold scW
    by_cases h : scoB sp sq = true
    · rw [if_pos h]; exact Nat.le_trans (scB_len (scoB_ok h)) (by omega)
    · rw [if_neg h]; simp
  have HA0 := Lib.hid hA
  have HA1 := Lib.hid (hA.up hb1)
  have HAc := Lib.hid hAc
  have HN6 := Lib.hid hN6
  have HNC := Lib.hid hbc
  clear hb1 hA hb hAc hsp hsq
  unfold GivesRS at KRG
  generalize gS b 0 0 = out at *
  obtain ⟨⟨kk, e1⟩, tp, tq⟩ := out
  simp only at KG KRG HONE
  have KR0 : Hid (∀ W, Calls Tryz.prog 8 #[.agg #[.int .i64 tp, .int .i64 tq]] W (GivesY (scW tp tq) W)) := fun W => ref_Score tp tq W
  generalize scW sp sq = D at *
  generalize hN : b.length = N at *
  have HN := Lib.hid hN
  clear hN
  obtain ⟨x0, x1, -, -⟩ := HXB.out.two
  unfold GivesY at KPA
  go_enter Tryz.func3, Tryz.ntmps3
  go_wp2_with fail
  refine (KPA.out _ HB.out).mono ?_
  rintro e W0 ⟨⟨v, rfl, h1⟩, h2⟩
  obtain ⟨A5, cp5, rfl, -, -, g3, -, -⟩ := h1.lies
  have HP5 := Lib.hid g3
  have HXB := Lib.hid (HXB.out.below h2 HXB.out.lt)
  have HA1 := Lib.hid (HA1.out.up h2)
  have HB := Lib.hid (HB.out.trans (h2.mono HB.out.size))
  have KRF : Hid (∀ W, Below W0.heap.size W0 W → Calls Tryz.prog 8 #[.agg #[.int .i64 sp, .int .i64 sq]] W (GivesY D W)) := fun W _ => KRF0.out W
  have KSM : Hid (∀ A A' c c' W, LiesY W W.heap.size A (b ++ D) → LiesY W W.heap.size A' (b ++ D) → Calls Tryz.prog 7 #[.slice A (b ++ D).length c, .slice A' (b ++ D).length c'] W fun e w' => e = .returned (.bool true) ∧ W = w') := fun A A' c c' W h1 h2 => ref_SameY (b ++ D) A A' c c' W.heap.size W h1 h2
  have HD := Lib.hid HDL.out
  clear h1 h2 g3 KPA KRF0 x0 x1
  unfold GivesY at KRF
  generalize hn5 : (b ++ D).length = n5 at *
  have HN5 := Lib.hid hn5
  clear hn5
  go_wp2
  refine wp_region_steps (GJ PScr4 (EScr4 W0.heap.size n5 A5 cp5 A1 N k1 (.agg #[.int .i64 sp, .int .i64 sq]) b D) (fun X => Below W0.heap.size W0 X)) PScr4 (by kernel_rfl) (by kernel_rfl) (by kernel_rfl) (by kernel_rfl) ?_ ?_ ?_ ?_
  · exact fun f g vs X hfg h => GJ.congr (n := 9) (by decide) (by decide) (by simp [EScr4]) (by simp [EScr4]) hfg h
  · intro vs _
    exact GJ.start ((Below.refl _ _).drew)
  · refine ⟨?_, ?_, ?_, ?_, ?_, ?_, ?_, ?_, ?_, trivial⟩
    all_goals
      intro f vs X hlen hf hp hj K hK
      obtain ⟨y0, y1, y2, y3, y4, y5, y6, y7, y8, rfl⟩ := len9' hlen
      clear hlen
      have HJ := Lib.hid hj
      clear hj
    · rw [if_pos (by rfl)]
      simp only [putAll, Act.put, List.setIfInBounds_toArray, List.set_cons_zero, List.set_cons_succ] at hK ⊢
      go_simp
      refine hK _ X ?_
      exact HJ.out.step (i := 0) rfl hp (by simp) _ rfl rfl
    · rw [if_pos (by rfl)]
      simp only [putAll, Act.put, List.setIfInBounds_toArray, List.set_cons_zero, List.set_cons_succ] at hK ⊢
      go_simp
      refine hK _ _ ?_
      have q3 := (Below.refl X.heap.size X).alloc (Nat.le_refl _) (.cells #[] 5)
      exact HJ.out.below (i := 1) rfl hp (by simp) _ (HJ.out.1.trans (q3.mono HJ.out.1.size)) rfl ⟨_, rfl, HJ.out.1.size, Box.new X _ _⟩ (eScr4_st _ _ _ _ _ _ _ _ _ _) q3
    · rw [if_pos (by rfl)]
      simp only [putAll, Act.put, List.setIfInBounds_toArray, List.set_cons_zero, List.set_cons_succ] at hK ⊢
      go_simp
      refine hK _ X ?_
      exact HJ.out.step (i := 2) rfl hp (by simp) _ rfl rfl
    · simp only [putAll, Act.put, List.setIfInBounds_toArray, List.set_cons_zero, List.set_cons_succ] at hK ⊢
      obtain ⟨g0, e0, hg0, hb0⟩ := HJ.out.get (i := 1) rfl (hp 1 (by simp)) (fun k e => by cases e; exact hf)
      have e1 : y1 = .slice (some ⟨g0, 0, none⟩) 0 0 := e0
      clear e0
      subst e1
      have eq2 : y2 = .slice A1 N k1 := HJ.out.get (i := 2) rfl (hp 2 (by simp)) (fun k e => by cases e)
      subst eq2
      rw [if_pos (by rfl)]
      refine app_ownO (B := W0.heap.size) (.tmp 18) (.tmp 19) rfl _ [] b A1 k1 N rfl rfl HN.out HAc.out (own_mt hb0 hg0) (HA1.out.below HJ.out.1) HJ.out.1.size (by have := HN6.out; simp; omega) ?_
      intro v' w' h1 h2
      refine hK _ w' ?_
      refine HJ.out.move (i := 3) rfl hp (by simp) v' (HJ.out.1.trans h2) rfl (by simpa using h1) ?_
      intro j u C y he hj hji hu hk hc
      have hj16 : j < 9 := by have := (List.getElem?_eq_some_iff.1 he).1; simpa [EScr4] using this
      match j, hj16, he with
      | 0, _, he => cases he; exact hc
      | 1, _, he => exact absurd rfl (by cases he; exact hu)
      | 2, _, he => cases he; exact hc
      | 3, _, he => exact absurd rfl hji
      | 4, _, he => cases he; exact hc
      | 5, _, he => exact absurd (HJ.out.pre (i := 5) (j := 3) rfl hj (by simp)) (by rw [hf]; simp)
      | 6, _, he => exact absurd (HJ.out.pre (i := 6) (j := 3) rfl hj (by simp)) (by rw [hf]; simp)
      | 7, _, he => cases he; exact hc
      | 8, _, he => cases he; exact hc
    · rw [if_pos (by rfl)]
      simp only [putAll, Act.put, List.setIfInBounds_toArray, List.set_cons_zero, List.set_cons_succ] at hK ⊢
      obtain ⟨x0, x1, -, -⟩ := (HXB.out.below HJ.out.1 HXB.out.lt).two
      go_simp
      refine hK _ X ?_
      exact HJ.out.step (i := 4) rfl hp (by simp) _ rfl rfl
    · simp only [putAll, Act.put, List.setIfInBounds_toArray, List.set_cons_zero, List.set_cons_succ] at hK ⊢
      have eq4 : y4 = .agg #[.int .i64 sp, .int .i64 sq] := HJ.out.get (i := 4) rfl (hp 4 (by simp)) (fun k e => by cases e)
      subst eq4
      rw [if_pos (by rfl)]
      go_simp
      refine (KRF.out X HJ.out.1).mono ?_
      rintro e w3 ⟨⟨v, rfl, h1⟩, q3⟩
      obtain ⟨A6, cp6, rfl, -, -, g3, g4, -⟩ := h1.lies
      refine hK _ w3 ?_
      exact HJ.out.below (i := 5) rfl hp (by simp) _ (HJ.out.1.trans (q3.mono HJ.out.1.size)) rfl (⟨A6, cp6, rfl, g3, g4⟩) (eScr4_st _ _ _ _ _ _ _ _ _ _) q3
    · simp only [putAll, Act.put, List.setIfInBounds_toArray, List.set_cons_zero, List.set_cons_succ] at hK ⊢
      have ho : OwnsY X W0.heap.size y3 b := HJ.out.get (i := 3) rfl (hp 3 (by simp)) (fun k e => by cases e; exact hf)
      obtain ⟨A6, cp6, e6, h6, n6⟩ := HJ.out.get (i := 5) rfl (hp 5 (by simp)) (fun k e => by cases e; exact hf)
      subst e6
      rw [if_pos (by rfl)]
      refine app_ownO (B := W0.heap.size) (.tmp 20) (.tmp 22) rfl y3 b D A6 cp6 D.length rfl rfl rfl n6 ho h6 HJ.out.1.size (by have := HN6.out; have := HN.out; have := HD.out; omega) ?_
      intro v' w' h1 h2
      refine hK _ w' ?_
      refine HJ.out.move (i := 6) rfl hp (by simp) v' (HJ.out.1.trans h2) rfl h1 ?_
      intro j u C y he hj hji hu hk hc
      have hj16 : j < 9 := by have := (List.getElem?_eq_some_iff.1 he).1; simpa [EScr4] using this
      match j, hj16, he with
      | 0, _, he => cases he; exact hc
      | 1, _, he => cases he; exact absurd (hk 3 rfl) (by rw [hp 3 (by simp)]; simp)
      | 2, _, he => cases he; exact hc
      | 3, _, he => exact absurd rfl (by cases he; exact hu)
      | 4, _, he => cases he; exact hc
      | 5, _, he => exact absurd rfl (by cases he; exact hu)
      | 6, _, he => exact absurd rfl hji
      | 7, _, he => cases he; exact hc
      | 8, _, he => cases he; exact hc
    · simp only [putAll, Act.put, List.setIfInBounds_toArray, List.set_cons_zero, List.set_cons_succ] at hK ⊢
      have eq0 : y0 = .slice A5 n5 cp5 := HJ.out.get (i := 0) rfl (hp 0 (by simp)) (fun k e => by cases e)
      subst eq0
      have ho : OwnsY X W0.heap.size y6 (b ++ D) := HJ.out.get (i := 6) rfl (hp 6 (by simp)) (fun k e => by cases e)
      obtain ⟨A7, cp7, e7, -, -, g7, -, -⟩ := ho.lies
      rw [HN5.out] at e7
      subst e7
      rw [if_pos (by rfl)]
      go_simp
      refine (KSM.out A5 A7 cp5 cp7 X (HP5.out.up HJ.out.1) g7).mono ?_
      rintro e w3 ⟨rfl, rfl⟩
      refine hK _ _ ?_
      exact HJ.out.step (i := 7) rfl hp (by simp) _ rfl rfl
    · simp only [putAll, Act.put, List.setIfInBounds_toArray, List.set_cons_zero, List.set_cons_succ] at hK ⊢
      have eq7 : y7 = .bool true := HJ.out.get (i := 7) rfl (hp 7 (by simp)) (fun k e => by cases e)
      subst eq7
      rw [if_pos (by rfl)]
      go_simp
      refine hK _ X ?_
      exact HJ.out.step (i := 8) rfl hp (by simp) _ rfl rfl
  · intro vs X hl hj
    obtain ⟨y0, y1, y2, y3, y4, y5, y6, y7, y8, rfl⟩ := len9' hl
    have e8 : y8 = .bool false := hj.get (i := 8) rfl rfl (fun k e => by cases e)
    subst e8
    have HBX := Lib.hid hj.1
    clear hj hl
    simp only [putAll, Act.put, List.setIfInBounds_toArray, List.set_cons_zero, List.set_cons_succ]
    go_upto_region 6 with fail
    have HXB := Lib.hid (HXB.out.below HBX.out HXB.out.lt)
    have HA1 := Lib.hid (HA1.out.up HBX.out)
    have HB := Lib.hid (HB.out.trans (HBX.out.mono HB.out.size))
    clear HBX HP5 KRF KSM HXB
    go_wp2_with fail
    refine (KF.out X HA1.out).mono ?_
    rintro e W1 ⟨⟨g, rfl, h1⟩, h2⟩
    have HR := Lib.hid h1
    have HA1 := Lib.hid (HA1.out.up h2)
    have hlow : w.heap.size ≤ X.heap.size := HB.out.size
    have HB := Lib.hid (HB.out.trans (h2.mono HB.out.size))
    clear h1 h2
    generalize X.heap.size = Bg at *
    have hgB := HR.out.lt.2.1
    have K := Lib.hid (KG.out _ _ _ HR.out)
    go_wp2_with fail
    refine (K.out).mono ?_
    rintro e W2 ⟨rfl, h1, h2⟩
    have HR := Lib.hid h1
    have hlowb := h2.low (B := w.heap.size) (by omega) HB.out.size
    have HAy := Lib.hid ((HA0.out.below (HB.out.trans hlowb)).mono (HB.out.trans hlowb).size)
    have HB := Lib.hid (HB.out.trans hlowb)
    have hal := (Below.refl W2.heap.size W2).alloc (Nat.le_refl _) (.cells #[.int .i64 tp, .int .i64 tq] 23)
    have HY := Lib.hid (Box.new W2 #[.int .i64 tp, .int .i64 tq] 23)
    have HR := Lib.hid (HR.out.below hal)
    clear HA1
    have HA1 := Lib.hid (HAy.out.up hal)
    have HB := Lib.hid (HB.out.trans (hal.mono HB.out.size))
    clear h1 h2 hlowb hal K KG KF HAy
    go_upto_region 10 with fail
    generalize W2.alloc (.cells #[.int .i64 tp, .int .i64 tq] 23) = W3 at *
    generalize W2.heap.size = Y7 at *
    have K := Lib.hid (KRG.out W3 HA1.out)
    go_wp2_with fail
    refine (K.out).mono ?_
    rintro e W4 ⟨rfl, h2⟩
    have hal := (Below.refl W4.heap.size W4).alloc (Nat.le_refl _) (.cells #[.slice A1 N k1, .int .i64 (kk : Nat), .int .i64 e1] 34)
    have hal2 := hal.alloc hal.size (.cells #[.int .i64 tp, .int .i64 tq] 23)
    have HRB := Lib.hid ((Box.new W4 #[.slice A1 N k1, .int .i64 (kk : Nat), .int .i64 e1] 34).alloc (.cells #[.int .i64 tp, .int .i64 tq] 23))
    have hzb := Box.new (W4.alloc (.cells #[.slice A1 N k1, .int .i64 (kk : Nat), .int .i64 e1] 34)) #[.int .i64 tp, .int .i64 tq] 23
    rw [alloc_size'] at hzb
    have HZ := Lib.hid hzb
    have hb2 := h2.trans (hal2.mono h2.size)
    have HY := Lib.hid (HY.out.below hb2 HY.out.lt)
    have HR := Lib.hid (HR.out.below hb2)
    have HA1 := Lib.hid (HA1.out.up hb2)
    have HB := Lib.hid (HB.out.trans (hb2.mono HB.out.size))
    clear h2 hal hal2 hzb hb2 K KRG
    go_upto_region 11 with fail
    generalize (W4.alloc (.cells #[.slice A1 N k1, .int .i64 (kk : Nat), .int .i64 e1] 34)).alloc (.cells #[.int .i64 tp, .int .i64 tq] 23) = W0 at *
    generalize W4.heap.size = R8 at *
    by_cases he : e1 = 0
    · obtain ⟨p1, p2, p3⟩ := HONE.out he
      have hn := HN.out
      have hkn : kk ≤ N := p2
      have p2b : kk ≤ b.length := by rw [hn]; exact p2
      rw [p3] at KR0
      have HKK : Hid ((b.take kk).length = kk) := by show _ = _; rw [List.length_take]; omega
      have KR2 : Hid (∀ W, Below W0.heap.size W0 W → Calls Tryz.prog 8 #[.agg #[.int .i64 tp, .int .i64 tq]] W (GivesY (b.take kk) W)) := fun W _ => KR0.out W
      have KS2 : Hid (∀ A A' c c' W, LiesY W W.heap.size A (b.take kk) → LiesY W W.heap.size A' b → Calls Tryz.prog 7 #[.slice A kk c, .slice A' kk c'] W fun e w' => e = .returned (.bool true) ∧ W = w') := fun A A' c c' W h1 h2 => by
        have := ref_SameY (b.take kk) A A' c c' W.heap.size W h1 (h2.take kk)
        rw [List.length_take, Nat.min_eq_left p2b] at this
        exact this
      obtain ⟨ad, eA, -⟩ := HA1.out (by omega)
      subst eA
      have f1 : ¬ (kk : Int) < 0 := by omega
      have f1b : (0 : Int) ≤ (kk : Int) := by omega
      have f2 : ¬ (N : Int) < (kk : Int) := by omega
      have f2b : (kk : Int) ≤ (N : Int) := by omega
      have hnc := HNC.out
      have f3 : (kk : Int) ≤ (k1 : Int) := by omega
      have f4 : ¬ k1 = 0 := by omega
      clear KR0 p1 p2 p2b p3 hn HONE hkn hnc
      generalize b.take kk = D2 at *
      subst he
      go_wp2
      refine wp_region_steps (GJ PScr11 (EScr11a (.agg #[.int .i64 tp, .int .i64 tq]) (.agg #[.int .i64 tp, .int .i64 tq]) (.pointer (some ⟨g, 0, none⟩)) (.agg #[.slice (some ad) N k1, .int .i64 (kk : Nat), .int .i64 0]) (.pointer (some ⟨R8, 2, none⟩)) (.pointer (some ⟨R8, 1, none⟩)) 0 kk (some ad) N k1 D2) (fun X => Below W0.heap.size W0 X)) PScr11 (by kernel_rfl) (by kernel_rfl) (by kernel_rfl) (by kernel_rfl) ?_ ?_ ?_ ?_
      · exact fun f g vs X hfg h => GJ.congr (n := 26) (by decide) (by decide) (by simp [EScr11a]) (by simp [EScr11a]) hfg h
      · intro vs _
        exact GJ.start ((Below.refl _ _).drew)
      · refine ⟨?_, ?_, ?_, ?_, ?_, ?_, ?_, ?_, ?_, ?_, ?_, ?_, ?_, ?_, ?_, ?_, ?_, ?_, ?_, ?_, ?_, ?_, ?_, ?_, ?_, ?_, trivial⟩
        all_goals
          intro f vs X hlen hf hp hj K hK
          obtain ⟨y0, y1, y2, y3, y4, y5, y6, y7, y8, y9, y10, y11, y12, y13, y14, y15, y16, y17, y18, y19, y20, y21, y22, y23, y24, y25, rfl⟩ := len26' hlen
          clear hlen
          have HJ := Lib.hid hj
          clear hj
        · rw [if_pos (by rfl)]
          simp only [putAll, Act.put, List.setIfInBounds_toArray, List.set_cons_zero, List.set_cons_succ] at hK ⊢
          obtain ⟨x0, x1, -, -⟩ := (HY.out.below HJ.out.1 HY.out.lt).two
          go_simp
          refine hK _ X ?_
          exact HJ.out.step (i := 0) rfl hp (by simp) _ rfl rfl
        · rw [if_pos (by rfl)]
          simp only [putAll, Act.put, List.setIfInBounds_toArray, List.set_cons_zero, List.set_cons_succ] at hK ⊢
          obtain ⟨x0, x1, -, -⟩ := (HZ.out.below HJ.out.1 HZ.out.lt).two
          go_simp
          refine hK _ X ?_
          exact HJ.out.step (i := 1) rfl hp (by simp) _ rfl rfl
        · simp only [putAll, Act.put, List.setIfInBounds_toArray, List.set_cons_zero, List.set_cons_succ] at hK ⊢
          have eq0 : y0 = .agg #[.int .i64 tp, .int .i64 tq] := HJ.out.get (i := 0) rfl (hp 0 (by simp)) (fun k e => by cases e)
          subst eq0
          have eq1 : y1 = .agg #[.int .i64 tp, .int .i64 tq] := HJ.out.get (i := 1) rfl (hp 1 (by simp)) (fun k e => by cases e)
          subst eq1
          rw [if_pos (by rfl)]
          go_simp
          refine hK _ X ?_
          exact HJ.out.step (i := 2) rfl hp (by simp) _ rfl rfl
        · simp only [putAll, Act.put, List.setIfInBounds_toArray, List.set_cons_zero, List.set_cons_succ] at hK ⊢
          have eq2 : y2 = .bool true := HJ.out.get (i := 2) rfl (hp 2 (by simp)) (fun k e => by cases e)
          subst eq2
          rw [if_pos (by rfl)]
          go_simp
          refine hK _ X ?_
          exact HJ.out.step (i := 3) rfl hp (by simp) _ rfl rfl
        · simp only [putAll, Act.put, List.setIfInBounds_toArray, List.set_cons_zero, List.set_cons_succ] at hK ⊢
          have eq3 : y3 = .bool true := HJ.out.get (i := 3) rfl (hp 3 (by simp)) (fun k e => by cases e)
          subst eq3
          rw [if_pos (by rfl)]
          go_simp
          refine hK _ X ?_
          exact HJ.out.step (i := 4) rfl hp (by simp) _ rfl rfl
        · simp only [putAll, Act.put, List.setIfInBounds_toArray, List.set_cons_zero, List.set_cons_succ] at hK ⊢
          have eq3 : y3 = .bool true := HJ.out.get (i := 3) rfl (hp 3 (by simp)) (fun k e => by cases e)
          subst eq3
          rw [if_pos (by rfl)]
          obtain ⟨x0, x1, x2, -, -, -⟩ := (HRB.out.below HJ.out.1 HRB.out.lt).three
          go_simp
          refine hK _ X ?_
          exact HJ.out.step (i := 5) rfl hp (by simp) _ rfl rfl
        · simp only [putAll, Act.put, List.setIfInBounds_toArray, List.set_cons_zero, List.set_cons_succ] at hK ⊢
          have eq3 : y3 = .bool true := HJ.out.get (i := 3) rfl (hp 3 (by simp)) (fun k e => by cases e)
          subst eq3
          have eq4 : y4 = .pointer (some ⟨g, 0, none⟩) := HJ.out.get (i := 4) rfl (hp 4 (by simp)) (fun k e => by cases e)
          subst eq4
          have eq5 : y5 = .agg #[.slice (some ad) N k1, .int .i64 (kk : Nat), .int .i64 0] := HJ.out.get (i := 5) rfl (hp 5 (by simp)) (fun k e => by cases e)
          subst eq5
          rw [if_pos (by rfl)]
          go_simp
          refine (law_stands b (some ad) N k1 Bg g kk 0 X (HR.out.below HJ.out.1)).mono ?_
          rintro e w3 ⟨rfl, q3⟩
          refine hK _ w3 ?_
          exact HJ.out.below (i := 6) rfl hp (by simp) _ (HJ.out.1.trans (q3.mono HJ.out.1.size)) rfl (rfl) (eScr11a_st _ _ _ _ _ _ _ _ _ _ _ _) q3
        · simp only [putAll, Act.put, List.setIfInBounds_toArray, List.set_cons_zero, List.set_cons_succ] at hK ⊢
          have eq3 : y3 = .bool true := HJ.out.get (i := 3) rfl (hp 3 (by simp)) (fun k e => by cases e)
          subst eq3
          have eq6 : y6 = .bool true := HJ.out.get (i := 6) rfl (hp 6 (by simp)) (fun k e => by cases e)
          subst eq6
          rw [if_pos (by rfl)]
          go_simp
          refine hK _ X ?_
          exact HJ.out.step (i := 7) rfl hp (by simp) _ rfl rfl
        · simp only [putAll, Act.put, List.setIfInBounds_toArray, List.set_cons_zero, List.set_cons_succ] at hK ⊢
          have eq7 : y7 = .bool true := HJ.out.get (i := 7) rfl (hp 7 (by simp)) (fun k e => by cases e)
          subst eq7
          rw [if_pos (by rfl)]
          go_simp
          refine hK _ X ?_
          exact HJ.out.step (i := 8) rfl hp (by simp) _ rfl rfl
        · simp only [putAll, Act.put, List.setIfInBounds_toArray, List.set_cons_zero, List.set_cons_succ] at hK ⊢
          have eq8 : y8 = .bool true := HJ.out.get (i := 8) rfl (hp 8 (by simp)) (fun k e => by cases e)
          subst eq8
          rw [if_pos (by rfl)]
          go_simp
          refine hK _ X ?_
          exact HJ.out.step (i := 9) rfl hp (by simp) _ rfl rfl
        · simp only [putAll, Act.put, List.setIfInBounds_toArray, List.set_cons_zero, List.set_cons_succ] at hK ⊢
          have eq8 : y8 = .bool true := HJ.out.get (i := 8) rfl (hp 8 (by simp)) (fun k e => by cases e)
          subst eq8
          have eq9 : y9 = .pointer (some ⟨R8, 2, none⟩) := HJ.out.get (i := 9) rfl (hp 9 (by simp)) (fun k e => by cases e)
          subst eq9
          rw [if_pos (by rfl)]
          obtain ⟨x0, x1, x2, -, -, -⟩ := (HRB.out.below HJ.out.1 HRB.out.lt).three
          go_simp
          refine hK _ X ?_
          exact HJ.out.step (i := 10) rfl hp (by simp) _ rfl rfl
        · simp only [putAll, Act.put, List.setIfInBounds_toArray, List.set_cons_zero, List.set_cons_succ] at hK ⊢
          have eq8 : y8 = .bool true := HJ.out.get (i := 8) rfl (hp 8 (by simp)) (fun k e => by cases e)
          subst eq8
          have eq10 : y10 = .int .i64 0 := HJ.out.get (i := 10) rfl (hp 10 (by simp)) (fun k e => by cases e)
          subst eq10
          rw [if_pos (by rfl)]
          go_simp
          refine hK _ X ?_
          exact HJ.out.step (i := 11) rfl hp (by simp) _ rfl rfl
        · simp only [putAll, Act.put, List.setIfInBounds_toArray, List.set_cons_zero, List.set_cons_succ] at hK ⊢
          have eq8 : y8 = .bool true := HJ.out.get (i := 8) rfl (hp 8 (by simp)) (fun k e => by cases e)
          subst eq8
          have eq11 : y11 = .bool false := HJ.out.get (i := 11) rfl (hp 11 (by simp)) (fun k e => by cases e)
          subst eq11
          rw [if_pos (by rfl)]
          go_simp
          refine hK _ X ?_
          exact HJ.out.step (i := 12) rfl hp (by simp) _ rfl rfl
        · simp only [putAll, Act.put, List.setIfInBounds_toArray, List.set_cons_zero, List.set_cons_succ] at hK ⊢
          have eq12 : y12 = .bool false := HJ.out.get (i := 12) rfl (hp 12 (by simp)) (fun k e => by cases e)
          subst eq12
          rw [if_pos (by rfl)]
          obtain ⟨x0, x1, -, -⟩ := (HZ.out.below HJ.out.1 HZ.out.lt).two
          go_simp
          refine hK _ X ?_
          exact HJ.out.step (i := 13) rfl hp (by simp) _ rfl rfl
        · simp only [putAll, Act.put, List.setIfInBounds_toArray, List.set_cons_zero, List.set_cons_succ] at hK ⊢
          have eq12 : y12 = .bool false := HJ.out.get (i := 12) rfl (hp 12 (by simp)) (fun k e => by cases e)
          subst eq12
          have eq13 : y13 = .agg #[.int .i64 tp, .int .i64 tq] := HJ.out.get (i := 13) rfl (hp 13 (by simp)) (fun k e => by cases e)
          subst eq13
          rw [if_pos (by rfl)]
          go_simp
          refine (KR2.out X HJ.out.1).mono ?_
          rintro e w3 ⟨⟨v, rfl, h1⟩, q3⟩
          obtain ⟨A6, cp6, rfl, -, -, g3, -, -⟩ := h1.lies
          have hkk := HKK.out
          rw [hkk]
          refine hK _ w3 ?_
          exact HJ.out.below (i := 14) rfl hp (by simp) _ (HJ.out.1.trans (q3.mono HJ.out.1.size)) rfl (⟨A6, cp6, rfl, g3⟩) (eScr11a_st _ _ _ _ _ _ _ _ _ _ _ _) q3
        · simp only [putAll, Act.put, List.setIfInBounds_toArray, List.set_cons_zero, List.set_cons_succ] at hK ⊢
          have eq12 : y12 = .bool false := HJ.out.get (i := 12) rfl (hp 12 (by simp)) (fun k e => by cases e)
          subst eq12
          rw [if_pos (by rfl)]
          go_simp
          refine hK _ X ?_
          exact HJ.out.step (i := 15) rfl hp (by simp) _ rfl rfl
        · simp only [putAll, Act.put, List.setIfInBounds_toArray, List.set_cons_zero, List.set_cons_succ] at hK ⊢
          have eq12 : y12 = .bool false := HJ.out.get (i := 12) rfl (hp 12 (by simp)) (fun k e => by cases e)
          subst eq12
          rw [if_pos (by rfl)]
          go_simp
          refine hK _ X ?_
          exact HJ.out.step (i := 16) rfl hp (by simp) _ rfl rfl
        · simp only [putAll, Act.put, List.setIfInBounds_toArray, List.set_cons_zero, List.set_cons_succ] at hK ⊢
          have eq12 : y12 = .bool false := HJ.out.get (i := 12) rfl (hp 12 (by simp)) (fun k e => by cases e)
          subst eq12
          have eq16 : y16 = .pointer (some ⟨R8, 1, none⟩) := HJ.out.get (i := 16) rfl (hp 16 (by simp)) (fun k e => by cases e)
          subst eq16
          rw [if_pos (by rfl)]
          obtain ⟨x0, x1, x2, -, -, -⟩ := (HRB.out.below HJ.out.1 HRB.out.lt).three
          go_simp
          refine hK _ X ?_
          exact HJ.out.step (i := 17) rfl hp (by simp) _ rfl rfl
        · simp only [putAll, Act.put, List.setIfInBounds_toArray, List.set_cons_zero, List.set_cons_succ] at hK ⊢
          have eq12 : y12 = .bool false := HJ.out.get (i := 12) rfl (hp 12 (by simp)) (fun k e => by cases e)
          subst eq12
          have eq15 : y15 = .slice (some ad) N k1 := HJ.out.get (i := 15) rfl (hp 15 (by simp)) (fun k e => by cases e)
          subst eq15
          have eq17 : y17 = .int .i64 (kk : Nat) := HJ.out.get (i := 17) rfl (hp 17 (by simp)) (fun k e => by cases e)
          subst eq17
          rw [if_pos (by rfl)]
          go_simp
          refine hK _ X ?_
          exact HJ.out.step (i := 18) rfl hp (by simp) _ rfl rfl
        · simp only [putAll, Act.put, List.setIfInBounds_toArray, List.set_cons_zero, List.set_cons_succ] at hK ⊢
          have eq12 : y12 = .bool false := HJ.out.get (i := 12) rfl (hp 12 (by simp)) (fun k e => by cases e)
          subst eq12
          obtain ⟨A6, cp6, e6, h6⟩ := HJ.out.get (i := 14) rfl (hp 14 (by simp)) (fun k e => by cases e)
          have e14 : y14 = .slice A6 kk cp6 := e6
          clear e6
          subst e14
          have eq18 : y18 = .slice (some ad) kk k1 := HJ.out.get (i := 18) rfl (hp 18 (by simp)) (fun k e => by cases e)
          subst eq18
          rw [if_pos (by rfl)]
          go_simp
          refine (KS2.out A6 (some ad) cp6 k1 X h6 (HA1.out.up HJ.out.1)).mono ?_
          rintro e w3 ⟨rfl, rfl⟩
          refine hK _ _ ?_
          exact HJ.out.step (i := 19) rfl hp (by simp) _ rfl rfl
        · simp only [putAll, Act.put, List.setIfInBounds_toArray, List.set_cons_zero, List.set_cons_succ] at hK ⊢
          have eq8 : y8 = .bool true := HJ.out.get (i := 8) rfl (hp 8 (by simp)) (fun k e => by cases e)
          subst eq8
          have eq12 : y12 = .bool false := HJ.out.get (i := 12) rfl (hp 12 (by simp)) (fun k e => by cases e)
          subst eq12
          have eq19 : y19 = .bool true := HJ.out.get (i := 19) rfl (hp 19 (by simp)) (fun k e => by cases e)
          subst eq19
          rw [if_pos (by rfl)]
          go_simp
          refine hK _ X ?_
          exact HJ.out.step (i := 20) rfl hp (by simp) _ rfl rfl
        · simp only [putAll, Act.put, List.setIfInBounds_toArray, List.set_cons_zero, List.set_cons_succ] at hK ⊢
          have eq8 : y8 = .bool true := HJ.out.get (i := 8) rfl (hp 8 (by simp)) (fun k e => by cases e)
          subst eq8
          have eq20 : y20 = .bool true := HJ.out.get (i := 20) rfl (hp 20 (by simp)) (fun k e => by cases e)
          subst eq20
          rw [if_pos (by rfl)]
          go_simp
          refine hK _ X ?_
          exact HJ.out.step (i := 21) rfl hp (by simp) _ rfl rfl
        · simp only [putAll, Act.put, List.setIfInBounds_toArray, List.set_cons_zero, List.set_cons_succ] at hK ⊢
          have eq21 : y21 = .bool true := HJ.out.get (i := 21) rfl (hp 21 (by simp)) (fun k e => by cases e)
          subst eq21
          rw [if_pos (by rfl)]
          go_simp
          refine hK _ X ?_
          exact HJ.out.step (i := 22) rfl hp (by simp) _ rfl rfl
        · simp only [putAll, Act.put, List.setIfInBounds_toArray, List.set_cons_zero, List.set_cons_succ] at hK ⊢
          have eq22 : y22 = .bool true := HJ.out.get (i := 22) rfl (hp 22 (by simp)) (fun k e => by cases e)
          subst eq22
          rw [if_pos (by rfl)]
          go_simp
          refine (lives22 X).mono ?_
          rintro e w3 ⟨rfl, q3⟩
          refine hK _ w3 ?_
          exact HJ.out.below (i := 23) rfl hp (by simp) _ (HJ.out.1.trans (q3.mono HJ.out.1.size)) rfl (rfl) (eScr11a_st _ _ _ _ _ _ _ _ _ _ _ _) q3
        · simp only [putAll, Act.put, List.setIfInBounds_toArray, List.set_cons_zero, List.set_cons_succ] at hK ⊢
          have eq22 : y22 = .bool true := HJ.out.get (i := 22) rfl (hp 22 (by simp)) (fun k e => by cases e)
          subst eq22
          have eq23 : y23 = .bool true := HJ.out.get (i := 23) rfl (hp 23 (by simp)) (fun k e => by cases e)
          subst eq23
          rw [if_pos (by rfl)]
          go_simp
          refine hK _ X ?_
          exact HJ.out.step (i := 24) rfl hp (by simp) _ rfl rfl
        · simp only [putAll, Act.put, List.setIfInBounds_toArray, List.set_cons_zero, List.set_cons_succ] at hK ⊢
          have eq24 : y24 = .bool true := HJ.out.get (i := 24) rfl (hp 24 (by simp)) (fun k e => by cases e)
          subst eq24
          rw [if_pos (by rfl)]
          go_simp
          refine hK _ X ?_
          exact HJ.out.step (i := 25) rfl hp (by simp) _ rfl rfl
      · intro vs X hl hj
        obtain ⟨y0, y1, y2, y3, y4, y5, y6, y7, y8, y9, y10, y11, y12, y13, y14, y15, y16, y17, y18, y19, y20, y21, y22, y23, y24, y25, rfl⟩ := len26' hl
        have e25 : y25 = .bool true := hj.get (i := 25) rfl rfl (fun k e => by cases e)
        subst e25
        have HBX := Lib.hid (HB.out.trans (hj.1.mono HB.out.size))
        clear hj hl
        simp only [putAll, Act.put, List.setIfInBounds_toArray, List.set_cons_zero, List.set_cons_succ]
        go_wp2
        go_ret
        exact ⟨rfl, HBX.out⟩
    · have HE11 : (Value.bool (e1 != 0)) = .bool true := congrArg Value.bool (by simpa using he)
      clear KR0 HONE
      obtain ⟨D2, hD2⟩ : ∃ D2 : List Int, D2 = [] := ⟨_, rfl⟩
      go_wp2
      refine wp_region_steps (GJ PScr11 (EScr11b (.agg #[.int .i64 tp, .int .i64 tq]) (.agg #[.int .i64 tp, .int .i64 tq]) (.pointer (some ⟨g, 0, none⟩)) (.agg #[.slice A1 N k1, .int .i64 (kk : Nat), .int .i64 e1]) (.pointer (some ⟨R8, 2, none⟩)) (.pointer (some ⟨R8, 1, none⟩)) e1 kk A1 N k1 D2) (fun X => Below W0.heap.size W0 X)) PScr11 (by kernel_rfl) (by kernel_rfl) (by kernel_rfl) (by kernel_rfl) ?_ ?_ ?_ ?_
      · exact fun f g vs X hfg h => GJ.congr (n := 26) (by decide) (by decide) (by simp [EScr11b]) (by simp [EScr11b]) hfg h
      · intro vs _
        exact GJ.start ((Below.refl _ _).drew)
      · refine ⟨?_, ?_, ?_, ?_, ?_, ?_, ?_, ?_, ?_, ?_, ?_, ?_, ?_, ?_, ?_, ?_, ?_, ?_, ?_, ?_, ?_, ?_, ?_, ?_, ?_, ?_, trivial⟩
        all_goals
          intro f vs X hlen hf hp hj K hK
          obtain ⟨y0, y1, y2, y3, y4, y5, y6, y7, y8, y9, y10, y11, y12, y13, y14, y15, y16, y17, y18, y19, y20, y21, y22, y23, y24, y25, rfl⟩ := len26' hlen
          clear hlen
          have HJ := Lib.hid hj
          clear hj
        · rw [if_pos (by rfl)]
          simp only [putAll, Act.put, List.setIfInBounds_toArray, List.set_cons_zero, List.set_cons_succ] at hK ⊢
          obtain ⟨x0, x1, -, -⟩ := (HY.out.below HJ.out.1 HY.out.lt).two
          go_simp
          refine hK _ X ?_
          exact HJ.out.step (i := 0) rfl hp (by simp) _ rfl rfl
        · rw [if_pos (by rfl)]
          simp only [putAll, Act.put, List.setIfInBounds_toArray, List.set_cons_zero, List.set_cons_succ] at hK ⊢
          obtain ⟨x0, x1, -, -⟩ := (HZ.out.below HJ.out.1 HZ.out.lt).two
          go_simp
          refine hK _ X ?_
          exact HJ.out.step (i := 1) rfl hp (by simp) _ rfl rfl
        · simp only [putAll, Act.put, List.setIfInBounds_toArray, List.set_cons_zero, List.set_cons_succ] at hK ⊢
          have eq0 : y0 = .agg #[.int .i64 tp, .int .i64 tq] := HJ.out.get (i := 0) rfl (hp 0 (by simp)) (fun k e => by cases e)
          subst eq0
          have eq1 : y1 = .agg #[.int .i64 tp, .int .i64 tq] := HJ.out.get (i := 1) rfl (hp 1 (by simp)) (fun k e => by cases e)
          subst eq1
          rw [if_pos (by rfl)]
          go_simp
          refine hK _ X ?_
          exact HJ.out.step (i := 2) rfl hp (by simp) _ rfl rfl
        · simp only [putAll, Act.put, List.setIfInBounds_toArray, List.set_cons_zero, List.set_cons_succ] at hK ⊢
          have eq2 : y2 = .bool true := HJ.out.get (i := 2) rfl (hp 2 (by simp)) (fun k e => by cases e)
          subst eq2
          rw [if_pos (by rfl)]
          go_simp
          refine hK _ X ?_
          exact HJ.out.step (i := 3) rfl hp (by simp) _ rfl rfl
        · simp only [putAll, Act.put, List.setIfInBounds_toArray, List.set_cons_zero, List.set_cons_succ] at hK ⊢
          have eq3 : y3 = .bool true := HJ.out.get (i := 3) rfl (hp 3 (by simp)) (fun k e => by cases e)
          subst eq3
          rw [if_pos (by rfl)]
          go_simp
          refine hK _ X ?_
          exact HJ.out.step (i := 4) rfl hp (by simp) _ rfl rfl
        · simp only [putAll, Act.put, List.setIfInBounds_toArray, List.set_cons_zero, List.set_cons_succ] at hK ⊢
          have eq3 : y3 = .bool true := HJ.out.get (i := 3) rfl (hp 3 (by simp)) (fun k e => by cases e)
          subst eq3
          rw [if_pos (by rfl)]
          obtain ⟨x0, x1, x2, -, -, -⟩ := (HRB.out.below HJ.out.1 HRB.out.lt).three
          go_simp
          refine hK _ X ?_
          exact HJ.out.step (i := 5) rfl hp (by simp) _ rfl rfl
        · simp only [putAll, Act.put, List.setIfInBounds_toArray, List.set_cons_zero, List.set_cons_succ] at hK ⊢
          have eq3 : y3 = .bool true := HJ.out.get (i := 3) rfl (hp 3 (by simp)) (fun k e => by cases e)
          subst eq3
          have eq4 : y4 = .pointer (some ⟨g, 0, none⟩) := HJ.out.get (i := 4) rfl (hp 4 (by simp)) (fun k e => by cases e)
          subst eq4
          have eq5 : y5 = .agg #[.slice A1 N k1, .int .i64 (kk : Nat), .int .i64 e1] := HJ.out.get (i := 5) rfl (hp 5 (by simp)) (fun k e => by cases e)
          subst eq5
          rw [if_pos (by rfl)]
          go_simp
          refine (law_stands b A1 N k1 Bg g kk e1 X (HR.out.below HJ.out.1)).mono ?_
          rintro e w3 ⟨rfl, q3⟩
          refine hK _ w3 ?_
          exact HJ.out.below (i := 6) rfl hp (by simp) _ (HJ.out.1.trans (q3.mono HJ.out.1.size)) rfl (rfl) (eScr11b_st _ _ _ _ _ _ _ _ _ _ _ _) q3
        · simp only [putAll, Act.put, List.setIfInBounds_toArray, List.set_cons_zero, List.set_cons_succ] at hK ⊢
          have eq3 : y3 = .bool true := HJ.out.get (i := 3) rfl (hp 3 (by simp)) (fun k e => by cases e)
          subst eq3
          have eq6 : y6 = .bool true := HJ.out.get (i := 6) rfl (hp 6 (by simp)) (fun k e => by cases e)
          subst eq6
          rw [if_pos (by rfl)]
          go_simp
          refine hK _ X ?_
          exact HJ.out.step (i := 7) rfl hp (by simp) _ rfl rfl
        · simp only [putAll, Act.put, List.setIfInBounds_toArray, List.set_cons_zero, List.set_cons_succ] at hK ⊢
          have eq7 : y7 = .bool true := HJ.out.get (i := 7) rfl (hp 7 (by simp)) (fun k e => by cases e)
          subst eq7
          rw [if_pos (by rfl)]
          go_simp
          refine hK _ X ?_
          exact HJ.out.step (i := 8) rfl hp (by simp) _ rfl rfl
        · simp only [putAll, Act.put, List.setIfInBounds_toArray, List.set_cons_zero, List.set_cons_succ] at hK ⊢
          have eq8 : y8 = .bool true := HJ.out.get (i := 8) rfl (hp 8 (by simp)) (fun k e => by cases e)
          subst eq8
          rw [if_pos (by rfl)]
          go_simp
          refine hK _ X ?_
          exact HJ.out.step (i := 9) rfl hp (by simp) _ rfl rfl
        · simp only [putAll, Act.put, List.setIfInBounds_toArray, List.set_cons_zero, List.set_cons_succ] at hK ⊢
          have eq8 : y8 = .bool true := HJ.out.get (i := 8) rfl (hp 8 (by simp)) (fun k e => by cases e)
          subst eq8
          have eq9 : y9 = .pointer (some ⟨R8, 2, none⟩) := HJ.out.get (i := 9) rfl (hp 9 (by simp)) (fun k e => by cases e)
          subst eq9
          rw [if_pos (by rfl)]
          obtain ⟨x0, x1, x2, -, -, -⟩ := (HRB.out.below HJ.out.1 HRB.out.lt).three
          go_simp
          refine hK _ X ?_
          exact HJ.out.step (i := 10) rfl hp (by simp) _ rfl rfl
        · simp only [putAll, Act.put, List.setIfInBounds_toArray, List.set_cons_zero, List.set_cons_succ] at hK ⊢
          have eq8 : y8 = .bool true := HJ.out.get (i := 8) rfl (hp 8 (by simp)) (fun k e => by cases e)
          subst eq8
          have eq10 : y10 = .int .i64 e1 := HJ.out.get (i := 10) rfl (hp 10 (by simp)) (fun k e => by cases e)
          subst eq10
          rw [if_pos (by rfl)]
          go_simp
          refine hK _ X ?_
          exact HJ.out.step (i := 11) rfl hp (by simp) _ rfl rfl
        · simp only [putAll, Act.put, List.setIfInBounds_toArray, List.set_cons_zero, List.set_cons_succ] at hK ⊢
          have eq8 : y8 = .bool true := HJ.out.get (i := 8) rfl (hp 8 (by simp)) (fun k e => by cases e)
          subst eq8
          have eq11 : y11 = .bool true := HJ.out.get (i := 11) rfl (hp 11 (by simp)) (fun k e => by cases e)
          subst eq11
          rw [if_pos (by rfl)]
          go_simp
          refine hK _ X ?_
          exact HJ.out.step (i := 12) rfl hp (by simp) _ rfl rfl
        · simp only [putAll, Act.put, List.setIfInBounds_toArray, List.set_cons_zero, List.set_cons_succ] at hK ⊢
          have eq12 : y12 = .bool true := HJ.out.get (i := 12) rfl (hp 12 (by simp)) (fun k e => by cases e)
          subst eq12
          rw [if_neg (by simp [Region.wanted, yielded])]
          refine hK _ X ?_
          exact HJ.out.step (i := 13) rfl hp (by simp) _ rfl trivial
        · simp only [putAll, Act.put, List.setIfInBounds_toArray, List.set_cons_zero, List.set_cons_succ] at hK ⊢
          have eq12 : y12 = .bool true := HJ.out.get (i := 12) rfl (hp 12 (by simp)) (fun k e => by cases e)
          subst eq12
          rw [if_neg (by simp [Region.wanted, yielded])]
          refine hK _ X ?_
          exact HJ.out.step (i := 14) rfl hp (by simp) _ rfl trivial
        · simp only [putAll, Act.put, List.setIfInBounds_toArray, List.set_cons_zero, List.set_cons_succ] at hK ⊢
          have eq12 : y12 = .bool true := HJ.out.get (i := 12) rfl (hp 12 (by simp)) (fun k e => by cases e)
          subst eq12
          rw [if_neg (by simp [Region.wanted, yielded])]
          refine hK _ X ?_
          exact HJ.out.step (i := 15) rfl hp (by simp) _ rfl trivial
        · simp only [putAll, Act.put, List.setIfInBounds_toArray, List.set_cons_zero, List.set_cons_succ] at hK ⊢
          have eq12 : y12 = .bool true := HJ.out.get (i := 12) rfl (hp 12 (by simp)) (fun k e => by cases e)
          subst eq12
          rw [if_neg (by simp [Region.wanted, yielded])]
          refine hK _ X ?_
          exact HJ.out.step (i := 16) rfl hp (by simp) _ rfl trivial
        · simp only [putAll, Act.put, List.setIfInBounds_toArray, List.set_cons_zero, List.set_cons_succ] at hK ⊢
          have eq12 : y12 = .bool true := HJ.out.get (i := 12) rfl (hp 12 (by simp)) (fun k e => by cases e)
          subst eq12
          rw [if_neg (by simp [Region.wanted, yielded])]
          refine hK _ X ?_
          exact HJ.out.step (i := 17) rfl hp (by simp) _ rfl trivial
        · simp only [putAll, Act.put, List.setIfInBounds_toArray, List.set_cons_zero, List.set_cons_succ] at hK ⊢
          have eq12 : y12 = .bool true := HJ.out.get (i := 12) rfl (hp 12 (by simp)) (fun k e => by cases e)
          subst eq12
          rw [if_neg (by simp [Region.wanted, yielded])]
          refine hK _ X ?_
          exact HJ.out.step (i := 18) rfl hp (by simp) _ rfl trivial
        · simp only [putAll, Act.put, List.setIfInBounds_toArray, List.set_cons_zero, List.set_cons_succ] at hK ⊢
          have eq12 : y12 = .bool true := HJ.out.get (i := 12) rfl (hp 12 (by simp)) (fun k e => by cases e)
          subst eq12
          rw [if_neg (by simp [Region.wanted, yielded])]
          refine hK _ X ?_
          exact HJ.out.step (i := 19) rfl hp (by simp) _ rfl trivial
        · simp only [putAll, Act.put, List.setIfInBounds_toArray, List.set_cons_zero, List.set_cons_succ] at hK ⊢
          have eq8 : y8 = .bool true := HJ.out.get (i := 8) rfl (hp 8 (by simp)) (fun k e => by cases e)
          subst eq8
          have eq12 : y12 = .bool true := HJ.out.get (i := 12) rfl (hp 12 (by simp)) (fun k e => by cases e)
          subst eq12
          rw [if_pos (by rfl)]
          go_simp
          refine hK _ X ?_
          exact HJ.out.step (i := 20) rfl hp (by simp) _ rfl rfl
        · simp only [putAll, Act.put, List.setIfInBounds_toArray, List.set_cons_zero, List.set_cons_succ] at hK ⊢
          have eq8 : y8 = .bool true := HJ.out.get (i := 8) rfl (hp 8 (by simp)) (fun k e => by cases e)
          subst eq8
          have eq20 : y20 = .bool true := HJ.out.get (i := 20) rfl (hp 20 (by simp)) (fun k e => by cases e)
          subst eq20
          rw [if_pos (by rfl)]
          go_simp
          refine hK _ X ?_
          exact HJ.out.step (i := 21) rfl hp (by simp) _ rfl rfl
        · simp only [putAll, Act.put, List.setIfInBounds_toArray, List.set_cons_zero, List.set_cons_succ] at hK ⊢
          have eq21 : y21 = .bool true := HJ.out.get (i := 21) rfl (hp 21 (by simp)) (fun k e => by cases e)
          subst eq21
          rw [if_pos (by rfl)]
          go_simp
          refine hK _ X ?_
          exact HJ.out.step (i := 22) rfl hp (by simp) _ rfl rfl
        · simp only [putAll, Act.put, List.setIfInBounds_toArray, List.set_cons_zero, List.set_cons_succ] at hK ⊢
          have eq22 : y22 = .bool true := HJ.out.get (i := 22) rfl (hp 22 (by simp)) (fun k e => by cases e)
          subst eq22
          rw [if_pos (by rfl)]
          go_simp
          refine (lives22 X).mono ?_
          rintro e w3 ⟨rfl, q3⟩
          refine hK _ w3 ?_
          exact HJ.out.below (i := 23) rfl hp (by simp) _ (HJ.out.1.trans (q3.mono HJ.out.1.size)) rfl (rfl) (eScr11b_st _ _ _ _ _ _ _ _ _ _ _ _) q3
        · simp only [putAll, Act.put, List.setIfInBounds_toArray, List.set_cons_zero, List.set_cons_succ] at hK ⊢
          have eq22 : y22 = .bool true := HJ.out.get (i := 22) rfl (hp 22 (by simp)) (fun k e => by cases e)
          subst eq22
          have eq23 : y23 = .bool true := HJ.out.get (i := 23) rfl (hp 23 (by simp)) (fun k e => by cases e)
          subst eq23
          rw [if_pos (by rfl)]
          go_simp
          refine hK _ X ?_
          exact HJ.out.step (i := 24) rfl hp (by simp) _ rfl rfl
        · simp only [putAll, Act.put, List.setIfInBounds_toArray, List.set_cons_zero, List.set_cons_succ] at hK ⊢
          have eq24 : y24 = .bool true := HJ.out.get (i := 24) rfl (hp 24 (by simp)) (fun k e => by cases e)
          subst eq24
          rw [if_pos (by rfl)]
          go_simp
          refine hK _ X ?_
          exact HJ.out.step (i := 25) rfl hp (by simp) _ rfl rfl
      · intro vs X hl hj
        obtain ⟨y0, y1, y2, y3, y4, y5, y6, y7, y8, y9, y10, y11, y12, y13, y14, y15, y16, y17, y18, y19, y20, y21, y22, y23, y24, y25, rfl⟩ := len26' hl
        have e25 : y25 = .bool true := hj.get (i := 25) rfl rfl (fun k e => by cases e)
        subst e25
        have HBX := Lib.hid (HB.out.trans (hj.1.mono HB.out.size))
        clear hj hl
        simp only [putAll, Act.put, List.setIfInBounds_toArray, List.set_cons_zero, List.set_cons_succ]
        go_wp2
        go_ret
        exact ⟨rfl, HBX.out⟩

set_option maxRecDepth 100000 in
theorem lifted (os : Os) (started : os.Started) (H : Type) (enc : TypeId × Value → H) :
    ReturnsInHanded {} Tryz.checked os 3 .any (Rows.itemScoresSpec.pre6 enc Tryz.prog Tryz.f3 Rows.itemScoresRow.domain false) (Rows.itemScoresSpec.post enc Tryz.prog Tryz.f3 false true false false) := by
  refine returnsInHanded_of_change (C := Tryz.checked) own started (by kernel_rfl) Tryz.func3
    (ChangeSpec.witness6 (enc := enc) (C := Tryz.checked) false ⟨#[], #[.agg #[.int .i64 0, .int .i64 0], .slice none 0 0], []⟩ 8 (by kernel_rfl) (by kernel_rfl) (by kernel_rfl) (by kernel_rfl)) ?_
  intro W base args ds gs before hval0 hW hcnd _
  have hval : ∀ (j : Nat) t v, Tryz.f3.params[j]? = some t → args[j]? = some v → Value.okWide Tryz.prog W .any base t v := hval0
  have hW' := hW
  obtain ⟨p, q, hA0, hV, rfl, hfz, hnd⟩ := hW
  obtain ⟨rfl, rfl⟩ := trodVars_none hV
  have hA : DataW.TrodAll enc Tryz.prog W 0 (fun _ => true) true Tryz.f3.params.toList args.toList ds p := hA0
  rw [Tryz.params3] at hA hval
  obtain ⟨v0, vs0, d0, ds0, p0, q0, hargs, rfl, rfl, h0, r0⟩ := trodAll_cons hA
  obtain ⟨v1, vs1, d1, ds1, p1, q1, rfl, rfl, rfl, h1, r1⟩ := trodAll_cons r0
  obtain ⟨rfl, rfl, rfl⟩ := trodAll_nil r1
  obtain rfl : args = #[v0, v1] := by cases args; simp_all
  obtain ⟨a0, b0, rfl, w0, z0⟩ := open_two Tryz.underlying23 Tryz.underlying3 Tryz.underlying3 (by kernel_rfl) (by kernel_rfl) (hval 0 23 v0 rfl rfl) h0
  obtain ⟨A1, l1, c1, rfl, L1, I1, C1, M1, N1⟩ := open_bytes Tryz.underlying24 Tryz.underlying5 cells_u8 (hval 1 24 v1 rfl rfl) h1
  refine (walk a0 b0 (i64_of_wf w0) (i64_of_wf z0) A1 l1 c1 L1 I1 C1 M1 N1 W).mono fun e W' ⟨he, hg⟩ => ?_
  subst he
  exact ⟨_, rfl, law_post laid (by rw [Tryz.params3]; exact (by decide +kernel)) rfl (by kernel_rfl) Tryz.underlying4 rfl hW' hg⟩

theorem over : Rows.itemScoresRow.holds Tryz.pinned (OpenSpec.ofChange Rows.itemScoresSpec) :=
  OpenClaim.holds_of_wide 3 Tryz.f3 rfl rfl rfl rfl rfl rfl rfl ⟨rfl, rfl, rfl, rfl, rfl⟩ rfl rfl rfl rfl rfl (by kernel_rfl) Tryz.func3 (by kernel_rfl)
    (of_decide_eq_true (by kernel_rfl)) (by unfold Func.isWrapper; first | (rw [if_pos (by decide +kernel)]; kernel_rfl) | (rw [if_neg (by decide +kernel)]; exact ⟨rfl, rfl⟩))
    (fun os started H enc _ => lifted os started H enc)
theorem proved : Rows.ItemScoresSaid := over
end Go.Proofs.YtpoemflclbhekaaGreat.itemScores
