/- Statement PickBack: whatever the input is, the Go function returns true and each argument reads as it did. No condition. -/
import Derived.Test.YtehekdahlnpldaaRows
import Derived.Test.YtehekdahlnpldaaPickR
import Derived.Test.YtehekdahlnpldaaVecQ
import Derived.Test.YtehekdahlnpldaaBase
import Derived.ProofKit
import Derived.OpenShut
namespace Go.Proofs.Ytehekdahlnpldaa.pickBack
open Go.ChangeShapes Go.WideShapes Go.ChangeAt Go.RowKit
set_option linter.unusedVariables false

theorem own : ownKnob Try.prog.godebug = none := by kernel_rfl
theorem laid : laidOutB Try.prog = true := by kernel_rfl

theorem back_play {n : Int} {s : List Int} (h : (backV n s).2 = true) : playV n (backV n s).1 = (s, true) := by
  by_cases g : backOk n s
  · rw [back_yes g]
    have hb := bckOk_iff.2 g.2.2
    rw [play_yes ⟨g.1, g.2.1, by rw [bckV_len]; exact backOk_len g, bckP_ok hb⟩, ply_of_bck hb]
  · rw [back_no g] at h; cases h
theorem play_back {n : Int} {p : List Int} (h : (playV n p).2 = true) : backV n (playV n p).1 = (p, true) := by
  by_cases g : playOk n p
  · rw [play_yes g]
    have hb := bck_of_ply g.2.2.2
    rw [back_yes ⟨g.1, g.2.1, bckOk_iff.1 hb.2⟩, hb.1]
  · rw [play_no g] at h; cases h
theorem play_i64 {n : Int} {p : List Int} : ∀ x ∈ (playV n p).1, I64 x := by
  by_cases g : playOk n p
  · intro x hx
    rw [play_yes g] at hx
    have := (bckOk_iff.1 (bck_of_ply g.2.2.2).2).2 x hx
    have := g.2.1
    unfold I64; omega
  · rw [play_no g]; simp
theorem play_len {n : Int} {p : List Int} : (playV n p).1.length ≤ p.length := by
  by_cases g : playOk n p
  · rw [play_yes g, plyV_len]; exact Nat.le_refl _
  · rw [play_no g]; simp
theorem back_len {n : Int} {p : List Int} : (backV n p).1.length ≤ p.length := by
  by_cases g : backOk n p
  · rw [back_yes g, bckV_len]; exact Nat.le_refl _
  · rw [back_no g]; simp
set_option maxRecDepth 100000 in
set_option maxHeartbeats 16000000 in
theorem walk {w : World} (n : Int) (hn : I64 n) (A : Option Addr) (s : List Int) (c : Nat) (hA : Lies w w.heap.size A s) (hi : ∀ x ∈ s, I64 x) (hc : s.length ≤ c) (hcm : c ≤ 9223372036854775807)
    (D : Option Addr) (p : List Int) (cd : Nat) (hD : Lies w w.heap.size D p) (hip : ∀ x ∈ p, I64 x) (hcd : p.length ≤ cd) (hmd : cd ≤ 9223372036854775807) (_ : World) :
    Calls Try.prog 4 #[.int .i64 n, .slice A s.length c, .slice D p.length cd] w fun e w' => e = .returned (.bool true) ∧ Below w.heap.size w w' := by
  by_cases g1 : 300 < s.length
  · clear hA hD hi hip
    generalize s.length = N at *
    generalize p.length = M at *
    have g1' : (300 : Int) < (N : Int) := by omega
    go_enter Try.func4, Try.ntmps4
    go_wp2_with fail
    refine (lives7 _).mono ?_
    rintro e w1 ⟨rfl, b⟩
    have HB1 := Lib.hid b
    clear b
    go_wp2
    go_ret
    exact ⟨rfl, HB1.out⟩
  · by_cases g2 : 300 < p.length
    · clear hA hD hi hip
      generalize s.length = N at *
      generalize p.length = M at *
      have g1' : ¬ (300 : Int) < (N : Int) := by omega
      have g2' : (300 : Int) < (M : Int) := by omega
      go_enter Try.func4, Try.ntmps4
      go_wp2_with fail
      refine (lives7 _).mono ?_
      rintro e w1 ⟨rfl, b⟩
      have HB1 := Lib.hid b
      clear b
      go_wp2
      go_ret
      exact ⟨rfl, HB1.out⟩
    · have g1' : ¬ (300 : Int) < (s.length : Int) := by omega
      have g2' : ¬ (300 : Int) < (p.length : Int) := by omega
      have K1 := Lib.hid (pick_Back A s c n w hA hi (by omega))
      have K2 := Lib.hid (fun W (h : Lies W W.heap.size A s) => ref_Back A s c n W h)
      have K4 := Lib.hid (fun W (h : Lies W W.heap.size D p) => pick_Play D p cd n W h)
      have K5 := Lib.hid (fun W (h : Lies W W.heap.size D p) => ref_Play D p cd n W h)
      have HZ1 := Lib.hid (@back_play n s)
      have HY1 := Lib.hid (@play_back n p)
      have HZ2 := @back_len n s
      have HY2 := @play_len n p
      have HY3 := @play_i64 n p
      have LS := Lib.hid hA
      have LP := Lib.hid hD
      have hg1 := g1
      have hg2 := g2
      unfold GivesP at K1 K2 K4 K5
      generalize backV n s = Z at *
      generalize playV n p = Y at *
      obtain ⟨zb, ok1⟩ := Z
      obtain ⟨yb, ok2⟩ := Y
      simp only at K1 K2 K4 K5 HZ1 HY1 HZ2 HY2 HY3
      have K3 := Lib.hid (fun W A c (h : Lies W W.heap.size A zb) => pick_Play A zb c n W h)
      have K6 := Lib.hid (fun W A c (h : Lies W W.heap.size A yb) => pick_Back A yb c n W h HY3 (by omega))
      unfold GivesP at K3 K6
      have KSz := Lib.hid (fun W A A2 c c2 (h : Lies W W.heap.size A zb) (h2 : Lies W W.heap.size A2 zb) => ref_same1 A A2 zb zb c c2 W.heap.size W h h2 (by omega) (by omega))
      have KSs := Lib.hid (fun W A A2 c c2 (h : Lies W W.heap.size A s) (h2 : Lies W W.heap.size A2 s) => ref_same1 A A2 s s c c2 W.heap.size W h h2 (by omega) (by omega))
      have KSy := Lib.hid (fun W A A2 c c2 (h : Lies W W.heap.size A yb) (h2 : Lies W W.heap.size A2 yb) => ref_same1 A A2 yb yb c c2 W.heap.size W h h2 (by omega) (by omega))
      have KSp := Lib.hid (fun W A A2 c c2 (h : Lies W W.heap.size A p) (h2 : Lies W W.heap.size A2 p) => ref_same1 A A2 p p c c2 W.heap.size W h h2 (by omega) (by omega))
      simp only [decide_true] at KSz KSs KSy KSp
      have e1 : (ok1 == ok1) = true := by simp
      have e2 : (ok2 == ok2) = true := by simp
      clear hA hD hi hip g1 g2 hg1 hg2 HY3
      generalize hN : s.length = N at *
      generalize hM : p.length = M at *
      have HN := Lib.hid hN
      have HM := Lib.hid hM
      clear hN hM
      generalize zb.length = NZ at *
      generalize yb.length = NY at *
      clear HZ2 HY2
      cases ok1 <;> cases ok2
      · clear e1 e2
        clear HZ1 HY1
        go_enter Try.func4, Try.ntmps4
        go_wp2_with fail
        refine (K1.out).mono ?_
        rintro e w1 ⟨A1, c1, rfl, _, _, l1, _, b⟩
        have HB1 := Lib.hid b
        have LS := Lib.hid (lies_u7 LS.out b)
        have LP := Lib.hid (lies_u7 LP.out b)
        have L1 := Lib.hid l1
        clear l1
        clear b
        go_wp2_with fail
        refine (K2.out _ LS.out).mono ?_
        rintro e w2 ⟨A2, c2, rfl, _, _, l2, _, b⟩
        have HB2 := Lib.hid (HB1.out.trans (b.mono HB1.out.size))
        have LS := Lib.hid (lies_u7 LS.out b)
        have LP := Lib.hid (lies_u7 LP.out b)
        have L1 := Lib.hid (lies_u7 L1.out b)
        have L2 := Lib.hid l2
        clear l2
        clear b
        go_wp2_with fail
        refine (KSz.out _ _ _ _ _ L1.out L2.out).mono ?_
        rintro e w3 ⟨rfl, hw⟩
        have b := bel_q hw
        clear hw
        have HB3 := Lib.hid (HB2.out.trans (b.mono HB2.out.size))
        have LS := Lib.hid (lies_u7 LS.out b)
        have LP := Lib.hid (lies_u7 LP.out b)
        have L1 := Lib.hid (lies_u7 L1.out b)
        have L2 := Lib.hid (lies_u7 L2.out b)
        clear b
        go_wp2_with fail
        refine (K4.out _ LP.out).mono ?_
        rintro e w4 ⟨A4, c4, rfl, _, _, l4, _, b⟩
        have HB4 := Lib.hid (HB3.out.trans (b.mono HB3.out.size))
        have LP := Lib.hid (lies_u7 LP.out b)
        have L4 := Lib.hid l4
        clear l4
        clear b
        go_wp2_with fail
        refine (K5.out _ LP.out).mono ?_
        rintro e w5 ⟨A5, c5, rfl, _, _, l5, _, b⟩
        have HB5 := Lib.hid (HB4.out.trans (b.mono HB4.out.size))
        have LP := Lib.hid (lies_u7 LP.out b)
        have L4 := Lib.hid (lies_u7 L4.out b)
        have L5 := Lib.hid l5
        clear l5
        clear b
        go_wp2_with fail
        refine (KSy.out _ _ _ _ _ L4.out L5.out).mono ?_
        rintro e w6 ⟨rfl, hw⟩
        have b := bel_q hw
        clear hw
        have HB6 := Lib.hid (HB5.out.trans (b.mono HB5.out.size))
        have LP := Lib.hid (lies_u7 LP.out b)
        have L4 := Lib.hid (lies_u7 L4.out b)
        have L5 := Lib.hid (lies_u7 L5.out b)
        clear b
        go_wp2_with fail
        refine (lives7 _).mono ?_
        rintro e w7 ⟨rfl, b⟩
        have HB7 := Lib.hid (HB6.out.trans (b.mono HB6.out.size))
        clear b
        go_wp2
        go_ret
        exact ⟨rfl, HB7.out⟩
      · clear e1 e2
        have HY := HY1.out rfl
        rw [HY] at K6
        simp only at K6
        rw [HM.out] at K6
        clear HY
        clear HZ1 HY1
        go_enter Try.func4, Try.ntmps4
        go_wp2_with fail
        refine (K1.out).mono ?_
        rintro e w1 ⟨A1, c1, rfl, _, _, l1, _, b⟩
        have HB1 := Lib.hid b
        have LS := Lib.hid (lies_u7 LS.out b)
        have LP := Lib.hid (lies_u7 LP.out b)
        have L1 := Lib.hid l1
        clear l1
        clear b
        go_wp2_with fail
        refine (K2.out _ LS.out).mono ?_
        rintro e w2 ⟨A2, c2, rfl, _, _, l2, _, b⟩
        have HB2 := Lib.hid (HB1.out.trans (b.mono HB1.out.size))
        have LS := Lib.hid (lies_u7 LS.out b)
        have LP := Lib.hid (lies_u7 LP.out b)
        have L1 := Lib.hid (lies_u7 L1.out b)
        have L2 := Lib.hid l2
        clear l2
        clear b
        go_wp2_with fail
        refine (KSz.out _ _ _ _ _ L1.out L2.out).mono ?_
        rintro e w3 ⟨rfl, hw⟩
        have b := bel_q hw
        clear hw
        have HB3 := Lib.hid (HB2.out.trans (b.mono HB2.out.size))
        have LS := Lib.hid (lies_u7 LS.out b)
        have LP := Lib.hid (lies_u7 LP.out b)
        have L1 := Lib.hid (lies_u7 L1.out b)
        have L2 := Lib.hid (lies_u7 L2.out b)
        clear b
        go_wp2_with fail
        refine (K4.out _ LP.out).mono ?_
        rintro e w4 ⟨A4, c4, rfl, _, _, l4, _, b⟩
        have HB4 := Lib.hid (HB3.out.trans (b.mono HB3.out.size))
        have LP := Lib.hid (lies_u7 LP.out b)
        have L4 := Lib.hid l4
        clear l4
        clear b
        go_wp2_with fail
        refine (K5.out _ LP.out).mono ?_
        rintro e w5 ⟨A5, c5, rfl, _, _, l5, _, b⟩
        have HB5 := Lib.hid (HB4.out.trans (b.mono HB4.out.size))
        have LP := Lib.hid (lies_u7 LP.out b)
        have L4 := Lib.hid (lies_u7 L4.out b)
        have L5 := Lib.hid l5
        clear l5
        clear b
        go_wp2_with fail
        refine (KSy.out _ _ _ _ _ L4.out L5.out).mono ?_
        rintro e w6 ⟨rfl, hw⟩
        have b := bel_q hw
        clear hw
        have HB6 := Lib.hid (HB5.out.trans (b.mono HB5.out.size))
        have LP := Lib.hid (lies_u7 LP.out b)
        have L4 := Lib.hid (lies_u7 L4.out b)
        have L5 := Lib.hid (lies_u7 L5.out b)
        clear b
        go_wp2_with fail
        refine (K6.out _ _ _ L4.out).mono ?_
        rintro e w7 ⟨A6, c6, rfl, _, _, l6, _, b⟩
        have HB7 := Lib.hid (HB6.out.trans (b.mono HB6.out.size))
        have LP := Lib.hid (lies_u7 LP.out b)
        have L4 := Lib.hid (lies_u7 L4.out b)
        have L6 := Lib.hid l6
        clear l6
        clear b
        go_wp2_with fail
        refine (KSp.out _ _ _ _ _ L6.out LP.out).mono ?_
        rintro e w8 ⟨rfl, hw⟩
        have b := bel_q hw
        clear hw
        have HB8 := Lib.hid (HB7.out.trans (b.mono HB7.out.size))
        have LP := Lib.hid (lies_u7 LP.out b)
        have L4 := Lib.hid (lies_u7 L4.out b)
        have L6 := Lib.hid (lies_u7 L6.out b)
        clear b
        go_wp2_with fail
        refine (lives7 _).mono ?_
        rintro e w9 ⟨rfl, b⟩
        have HB9 := Lib.hid (HB8.out.trans (b.mono HB8.out.size))
        clear b
        go_wp2
        go_ret
        exact ⟨rfl, HB9.out⟩
      · clear e1 e2
        have HZ := HZ1.out rfl
        rw [HZ] at K3
        simp only at K3
        rw [HN.out] at K3
        clear HZ
        clear HZ1 HY1
        go_enter Try.func4, Try.ntmps4
        go_wp2_with fail
        refine (K1.out).mono ?_
        rintro e w1 ⟨A1, c1, rfl, _, _, l1, _, b⟩
        have HB1 := Lib.hid b
        have LS := Lib.hid (lies_u7 LS.out b)
        have LP := Lib.hid (lies_u7 LP.out b)
        have L1 := Lib.hid l1
        clear l1
        clear b
        go_wp2_with fail
        refine (K2.out _ LS.out).mono ?_
        rintro e w2 ⟨A2, c2, rfl, _, _, l2, _, b⟩
        have HB2 := Lib.hid (HB1.out.trans (b.mono HB1.out.size))
        have LS := Lib.hid (lies_u7 LS.out b)
        have LP := Lib.hid (lies_u7 LP.out b)
        have L1 := Lib.hid (lies_u7 L1.out b)
        have L2 := Lib.hid l2
        clear l2
        clear b
        go_wp2_with fail
        refine (KSz.out _ _ _ _ _ L1.out L2.out).mono ?_
        rintro e w3 ⟨rfl, hw⟩
        have b := bel_q hw
        clear hw
        have HB3 := Lib.hid (HB2.out.trans (b.mono HB2.out.size))
        have LS := Lib.hid (lies_u7 LS.out b)
        have LP := Lib.hid (lies_u7 LP.out b)
        have L1 := Lib.hid (lies_u7 L1.out b)
        have L2 := Lib.hid (lies_u7 L2.out b)
        clear b
        go_wp2_with fail
        refine (K3.out _ _ _ L1.out).mono ?_
        rintro e w4 ⟨A3, c3, rfl, _, _, l3, _, b⟩
        have HB4 := Lib.hid (HB3.out.trans (b.mono HB3.out.size))
        have LS := Lib.hid (lies_u7 LS.out b)
        have LP := Lib.hid (lies_u7 LP.out b)
        have L1 := Lib.hid (lies_u7 L1.out b)
        have L3 := Lib.hid l3
        clear l3
        clear b
        go_wp2_with fail
        refine (KSs.out _ _ _ _ _ L3.out LS.out).mono ?_
        rintro e w5 ⟨rfl, hw⟩
        have b := bel_q hw
        clear hw
        have HB5 := Lib.hid (HB4.out.trans (b.mono HB4.out.size))
        have LS := Lib.hid (lies_u7 LS.out b)
        have LP := Lib.hid (lies_u7 LP.out b)
        have L1 := Lib.hid (lies_u7 L1.out b)
        have L3 := Lib.hid (lies_u7 L3.out b)
        clear b
        go_wp2_with fail
        refine (K4.out _ LP.out).mono ?_
        rintro e w6 ⟨A4, c4, rfl, _, _, l4, _, b⟩
        have HB6 := Lib.hid (HB5.out.trans (b.mono HB5.out.size))
        have LP := Lib.hid (lies_u7 LP.out b)
        have L4 := Lib.hid l4
        clear l4
        clear b
        go_wp2_with fail
        refine (K5.out _ LP.out).mono ?_
        rintro e w7 ⟨A5, c5, rfl, _, _, l5, _, b⟩
        have HB7 := Lib.hid (HB6.out.trans (b.mono HB6.out.size))
        have LP := Lib.hid (lies_u7 LP.out b)
        have L4 := Lib.hid (lies_u7 L4.out b)
        have L5 := Lib.hid l5
        clear l5
        clear b
        go_wp2_with fail
        refine (KSy.out _ _ _ _ _ L4.out L5.out).mono ?_
        rintro e w8 ⟨rfl, hw⟩
        have b := bel_q hw
        clear hw
        have HB8 := Lib.hid (HB7.out.trans (b.mono HB7.out.size))
        have LP := Lib.hid (lies_u7 LP.out b)
        have L4 := Lib.hid (lies_u7 L4.out b)
        have L5 := Lib.hid (lies_u7 L5.out b)
        clear b
        go_wp2_with fail
        refine (lives7 _).mono ?_
        rintro e w9 ⟨rfl, b⟩
        have HB9 := Lib.hid (HB8.out.trans (b.mono HB8.out.size))
        clear b
        go_wp2
        go_ret
        exact ⟨rfl, HB9.out⟩
      · clear e1 e2
        have HZ := HZ1.out rfl
        rw [HZ] at K3
        simp only at K3
        rw [HN.out] at K3
        clear HZ
        have HY := HY1.out rfl
        rw [HY] at K6
        simp only at K6
        rw [HM.out] at K6
        clear HY
        clear HZ1 HY1
        go_enter Try.func4, Try.ntmps4
        go_wp2_with fail
        refine (K1.out).mono ?_
        rintro e w1 ⟨A1, c1, rfl, _, _, l1, _, b⟩
        have HB1 := Lib.hid b
        have LS := Lib.hid (lies_u7 LS.out b)
        have LP := Lib.hid (lies_u7 LP.out b)
        have L1 := Lib.hid l1
        clear l1
        clear b
        go_wp2_with fail
        refine (K2.out _ LS.out).mono ?_
        rintro e w2 ⟨A2, c2, rfl, _, _, l2, _, b⟩
        have HB2 := Lib.hid (HB1.out.trans (b.mono HB1.out.size))
        have LS := Lib.hid (lies_u7 LS.out b)
        have LP := Lib.hid (lies_u7 LP.out b)
        have L1 := Lib.hid (lies_u7 L1.out b)
        have L2 := Lib.hid l2
        clear l2
        clear b
        go_wp2_with fail
        refine (KSz.out _ _ _ _ _ L1.out L2.out).mono ?_
        rintro e w3 ⟨rfl, hw⟩
        have b := bel_q hw
        clear hw
        have HB3 := Lib.hid (HB2.out.trans (b.mono HB2.out.size))
        have LS := Lib.hid (lies_u7 LS.out b)
        have LP := Lib.hid (lies_u7 LP.out b)
        have L1 := Lib.hid (lies_u7 L1.out b)
        have L2 := Lib.hid (lies_u7 L2.out b)
        clear b
        go_wp2_with fail
        refine (K3.out _ _ _ L1.out).mono ?_
        rintro e w4 ⟨A3, c3, rfl, _, _, l3, _, b⟩
        have HB4 := Lib.hid (HB3.out.trans (b.mono HB3.out.size))
        have LS := Lib.hid (lies_u7 LS.out b)
        have LP := Lib.hid (lies_u7 LP.out b)
        have L1 := Lib.hid (lies_u7 L1.out b)
        have L3 := Lib.hid l3
        clear l3
        clear b
        go_wp2_with fail
        refine (KSs.out _ _ _ _ _ L3.out LS.out).mono ?_
        rintro e w5 ⟨rfl, hw⟩
        have b := bel_q hw
        clear hw
        have HB5 := Lib.hid (HB4.out.trans (b.mono HB4.out.size))
        have LS := Lib.hid (lies_u7 LS.out b)
        have LP := Lib.hid (lies_u7 LP.out b)
        have L1 := Lib.hid (lies_u7 L1.out b)
        have L3 := Lib.hid (lies_u7 L3.out b)
        clear b
        go_wp2_with fail
        refine (K4.out _ LP.out).mono ?_
        rintro e w6 ⟨A4, c4, rfl, _, _, l4, _, b⟩
        have HB6 := Lib.hid (HB5.out.trans (b.mono HB5.out.size))
        have LP := Lib.hid (lies_u7 LP.out b)
        have L4 := Lib.hid l4
        clear l4
        clear b
        go_wp2_with fail
        refine (K5.out _ LP.out).mono ?_
        rintro e w7 ⟨A5, c5, rfl, _, _, l5, _, b⟩
        have HB7 := Lib.hid (HB6.out.trans (b.mono HB6.out.size))
        have LP := Lib.hid (lies_u7 LP.out b)
        have L4 := Lib.hid (lies_u7 L4.out b)
        have L5 := Lib.hid l5
        clear l5
        clear b
        go_wp2_with fail
        refine (KSy.out _ _ _ _ _ L4.out L5.out).mono ?_
        rintro e w8 ⟨rfl, hw⟩
        have b := bel_q hw
        clear hw
        have HB8 := Lib.hid (HB7.out.trans (b.mono HB7.out.size))
        have LP := Lib.hid (lies_u7 LP.out b)
        have L4 := Lib.hid (lies_u7 L4.out b)
        have L5 := Lib.hid (lies_u7 L5.out b)
        clear b
        go_wp2_with fail
        refine (K6.out _ _ _ L4.out).mono ?_
        rintro e w9 ⟨A6, c6, rfl, _, _, l6, _, b⟩
        have HB9 := Lib.hid (HB8.out.trans (b.mono HB8.out.size))
        have LP := Lib.hid (lies_u7 LP.out b)
        have L4 := Lib.hid (lies_u7 L4.out b)
        have L6 := Lib.hid l6
        clear l6
        clear b
        go_wp2_with fail
        refine (KSp.out _ _ _ _ _ L6.out LP.out).mono ?_
        rintro e w10 ⟨rfl, hw⟩
        have b := bel_q hw
        clear hw
        have HB10 := Lib.hid (HB9.out.trans (b.mono HB9.out.size))
        have LP := Lib.hid (lies_u7 LP.out b)
        have L4 := Lib.hid (lies_u7 L4.out b)
        have L6 := Lib.hid (lies_u7 L6.out b)
        clear b
        go_wp2_with fail
        refine (lives7 _).mono ?_
        rintro e w11 ⟨rfl, b⟩
        have HB11 := Lib.hid (HB10.out.trans (b.mono HB10.out.size))
        clear b
        go_wp2
        go_ret
        exact ⟨rfl, HB11.out⟩

set_option maxRecDepth 100000 in
theorem lifted (os : Os) (started : os.Started) (H : Type) (enc : TypeId × Value → H) :
    ReturnsInHanded {} Try.checked os 4 .any (Rows.pickBackSpec.pre6 enc Try.prog Try.f4 Rows.pickBackRow.domain false) (Rows.pickBackSpec.post enc Try.prog Try.f4 false true false false) := by
  refine returnsInHanded_of_change (C := Try.checked) own started (by kernel_rfl) Try.func4
    (ChangeSpec.witness6 (enc := enc) (C := Try.checked) false ⟨#[], #[.int .i64 0, .slice none 0 0, .slice none 0 0], []⟩ 8 (by kernel_rfl) (by kernel_rfl) (by kernel_rfl) (by kernel_rfl)) ?_
  intro W base args ds gs before hval0 hW hcnd _
  have hval : ∀ (j : Nat) t v, Try.f4.params[j]? = some t → args[j]? = some v → Value.okWide Try.prog W .any base t v := hval0
  have hW' := hW
  obtain ⟨p, q, hA0, hV, rfl, hfz, hnd⟩ := hW
  obtain ⟨rfl, rfl⟩ := trodVars_none hV
  have hA : DataW.TrodAll enc Try.prog W 0 (fun _ => true) true Try.f4.params.toList args.toList ds p := hA0
  rw [Try.params4] at hA hval
  obtain ⟨v0, vs0, d0, ds0, p0, q0, hargs, rfl, rfl, h0, r0⟩ := trodAll_cons hA
  obtain ⟨v1, vs1, d1, ds1, p1, q1, rfl, rfl, rfl, h1, r1⟩ := trodAll_cons r0
  obtain ⟨v2, vs2, d2, ds2, p2, q2, rfl, rfl, rfl, h2, r2⟩ := trodAll_cons r1
  obtain ⟨rfl, rfl, rfl⟩ := trodAll_nil r2
  obtain rfl : args = #[v0, v1, v2] := by cases args; simp_all
  obtain ⟨a0, rfl, _, _, w0⟩ := open_int Try.underlying3 (hval 0 3 v0 rfl rfl) h0
  obtain ⟨A1, l1, c1, rfl, L1, I1, C1, M1⟩ := open_ints8 Try.underlying24 Try.underlying3 cells_i8 (hval 1 24 v1 rfl rfl) h1
  obtain ⟨A2, l2, c2, rfl, L2, I2, C2, M2⟩ := open_ints8 Try.underlying24 Try.underlying3 cells_i8 (hval 2 24 v2 rfl rfl) h2
  refine (walk a0 (i64_of_wf w0) A1 l1 c1 L1 I1 C1 M1 A2 l2 c2 L2 I2 C2 M2 W).mono fun e W' ⟨he, hg⟩ => ?_
  subst he
  exact ⟨_, rfl, law_post laid (by rw [Try.params4]; exact (by decide +kernel)) rfl (by kernel_rfl) Try.underlying4 rfl hW' hg⟩

theorem over : Rows.pickBackRow.holds Try.pinned (OpenSpec.ofChange Rows.pickBackSpec) :=
  OpenClaim.holds_of_wide 4 Try.f4 rfl rfl rfl rfl rfl rfl rfl ⟨rfl, rfl, rfl, rfl, rfl⟩ rfl rfl rfl rfl rfl (by kernel_rfl) Try.func4 (by kernel_rfl)
    (of_decide_eq_true (by kernel_rfl)) (by unfold Func.isWrapper; first | (rw [if_pos (by decide +kernel)]; kernel_rfl) | (rw [if_neg (by decide +kernel)]; exact ⟨rfl, rfl⟩))
    (fun os started H enc _ => lifted os started H enc)
theorem proved : Rows.PickBackSaid := over
end Go.Proofs.Ytehekdahlnpldaa.pickBack
