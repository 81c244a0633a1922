/- Statement CutSplits: whatever the input is, the Go function returns true and each argument reads as it did. No condition. -/
import Derived.Test.YtpjgnghmhbkmkaaRows
import Derived.Test.YtpjgnghmhbkmkaaCutH
import Derived.Test.YtpjgnghmhbkmkaaVecQ
import Derived.Test.YtpjgnghmhbkmkaaBase
import Derived.ProofKit
import Derived.OpenShut
namespace Go.Proofs.Ytpjgnghmhbkmkaa.cutSplits
open Go.ChangeShapes Go.WideShapes Go.ChangeAt Go.RowKit
set_option linter.unusedVariables false

theorem own : ownKnob Try.prog.godebug = none := by kernel_rfl
theorem laid : laidOutB Try.prog = true := by kernel_rfl

theorem split_len (c : List Int) (p : Int) (R : List Row) (h : splC c p R = 0) : (lft c p R).length + (rgt c p R).length = R.length := by
  unfold lft rgt
  rw [if_pos h, if_pos h]
  exact pcK_both _ _
def Four (w : World) (A1 A2 A3 A4 : Option Addr) (LF RG : List Int) : Prop := Lies w w.heap.size A1 LF ∧ Lies w w.heap.size A2 RG ∧ Lies w w.heap.size A3 LF ∧ Lies w w.heap.size A4 RG
theorem four_of {w w' : World} {A1 A2 A3 A4 : Option Addr} {LF RG : List Int} (h : Lies w w.heap.size A1 LF ∧ Lies w w.heap.size A2 RG) (hb : Below w.heap.size w w') (h3 : Lies w' w'.heap.size A3 LF) (h4 : Lies w' w'.heap.size A4 RG) : Four w' A1 A2 A3 A4 LF RG := ⟨lies_up h.1 hb, lies_up h.2 hb, h3, h4⟩
theorem Four.up {w w' : World} {A1 A2 A3 A4 : Option Addr} {LF RG : List Int} (h : Four w A1 A2 A3 A4 LF RG) (hb : Below w.heap.size w w') : Four w' A1 A2 A3 A4 LF RG := ⟨lies_up h.1 hb, lies_up h.2.1 hb, lies_up h.2.2.1 hb, lies_up h.2.2.2 hb⟩
theorem Four.a {w : World} {A1 A2 A3 A4 : Option Addr} {LF RG : List Int} (h : Four w A1 A2 A3 A4 LF RG) : Lies w w.heap.size A1 LF := h.1
theorem Four.b {w : World} {A1 A2 A3 A4 : Option Addr} {LF RG : List Int} (h : Four w A1 A2 A3 A4 LF RG) : Lies w w.heap.size A2 RG := h.2.1
theorem Four.c {w : World} {A1 A2 A3 A4 : Option Addr} {LF RG : List Int} (h : Four w A1 A2 A3 A4 LF RG) : Lies w w.heap.size A3 LF := h.2.2.1
theorem Four.d {w : World} {A1 A2 A3 A4 : Option Addr} {LF RG : List Int} (h : Four w A1 A2 A3 A4 LF RG) : Lies w w.heap.size A4 RG := h.2.2.2
set_option maxRecDepth 100000 in
set_option maxHeartbeats 8000000 in
theorem main0 {w : World} (A : Option Addr) (a : List Int) (ca : Nat) (p : Int) (hA : Lies w w.heap.size A a) (ha : ∀ x ∈ a, I64 x) (hca : a.length ≤ ca) (hma : ca ≤ 9223372036854775807) (hp : I64 p)
    (D : Option Addr) (R : List Row) (cd : Nat) (hD : LiesR w w.heap.size D R) (hR : OkR R) (hcd : R.length ≤ cd) (hmd : cd ≤ 9223372036854775807)
    (B : Option Addr) (b : List Int) (cb : Nat) (hB : Lies w w.heap.size B b) (hb : ∀ x ∈ b, I64 x) (hcb : b.length ≤ cb) (hmb : cb ≤ 9223372036854775807) (d : Int) (hd : I64 d) (g1 : ¬ 20 < a.length) (g2 : ¬ 20 < b.length) (hm : muchV R 60 = false) (hs : splC a p R = 0) :
    Calls Try.prog 7 #[.agg #[.slice A a.length ca, .int .i64 p], .slice D R.length cd, .slice B b.length cb, .int .i64 d] w fun e w' => e = .returned (.bool true) ∧ Below w.heap.size w w' := by
  have HX := Lib.hid ((Kpc.start w).alloc #[.slice A a.length ca, .int .i64 p] 40)
  have K0 := Lib.hid (fun W (h : Below w.heap.size w W) => ref_Much D R cd w.heap.size 60 W (hD.below h) (by omega))
  obtain ⟨y0, y1, _, _⟩ := HX.out.head.two
  rw [hm] at K0
  have g1' : ¬ (20 : Int) < (a.length : Int) := by omega
  have g2' : ¬ (20 : Int) < (b.length : Int) := by omega
  have hq60 : R.length ≤ 60 := by have := (muchV_no hm).1; omega
  have LA := fun W (h : Below w.heap.size w W) => hA.below h
  have LB := fun W (h : Below w.heap.size w W) => hB.below h
  have LD := fun W (h : Below w.heap.size w W) => hD.below h
  have K1 := Lib.hid (fun W (h : Below w.heap.size w W) => cut_Split A D a R ca cd p W ((LA W h).mono h.size) ((LD W h).mono h.size) hR (by omega) hca (by omega))
  have K2 := Lib.hid (fun W (h : Below w.heap.size w W) => ref_Split A D a R ca cd p W ((LA W h).mono h.size) ((LD W h).mono h.size) (by omega))
  have K3 := Lib.hid (fun W (h : Below w.heap.size w W) => cut_Left A B a b ca cb w.heap.size p W (LA W h) (LB W h) h.size (by omega) (by omega) hca hcb)
  have K4 := Lib.hid (fun W (h : Below w.heap.size w W) => ref_Left9 A B a b ca cb w.heap.size p W (LA W h) (LB W h) h.size)
  have K5 := Lib.hid (fun W (h : Below w.heap.size w W) => cut_Is A a ca w.heap.size p d W (LA W h) h.size (by omega) hca)
  have K6 := Lib.hid (fun W (h : Below w.heap.size w W) => ref_Is9 A a ca w.heap.size p d W (LA W h) h.size)
  unfold GivesS at K1 K2
  have hsl := split_len a p R
  generalize lft a p R = LF at *
  generalize rgt a p R = RG at *
  have KS1 := Lib.hid (fun W A1 A2 c1 c2 (h1 : Lies W W.heap.size A1 LF) (h2 : Lies W W.heap.size A2 LF) (h3 : (LF.length : Int) ≤ 9223372036854775807) => ref_same1 A1 A2 LF LF c1 c2 W.heap.size W h1 h2 h3 h3)
  have KS2 := Lib.hid (fun W A1 A2 c1 c2 (h1 : Lies W W.heap.size A1 RG) (h2 : Lies W W.heap.size A2 RG) (h3 : (RG.length : Int) ≤ 9223372036854775807) => ref_same1 A1 A2 RG RG c1 c2 W.heap.size W h1 h2 h3 h3)
  rw [show decide (LF = LF) = true from by simp] at KS1
  rw [show decide (RG = RG) = true from by simp] at KS2
  generalize lefB a p b = lb at *
  generalize lefC a p b = lc at *
  generalize isC a p d = iq at *
  generalize splC a p R = sp at *
  clear hA hB ha hb hD hR LA LB LD hm
  generalize a.length = N at *
  generalize b.length = M at *
  generalize R.length = Q at *
  have e1 : (sp != sp) = false := by simp
  have e2 : (lb != lb) = false := by simp
  have e3 : (lc != lc) = false := by simp
  have e4 : (iq != iq) = false := by simp
  have tok : True := trivial
  go_enter Try.func7, Try.ntmps7
  go_wp2_with fail
  refine (K0.out _ HX.out.2.1).mono ?_
  rintro e w0 ⟨rfl, rfl⟩
  go_wp2_with fail
  refine (K1.out _ HX.out.2.1).mono ?_
  rintro e w1 ⟨A1, c1, A2, c2, rfl, q1, q2, q3, q4, q5, q6, _, _, b1⟩
  have J1 := Lib.hid (HX.out.below b1)
  have LL := Lib.hid (show Lies w1 w1.heap.size A1 LF ∧ Lies w1 w1.heap.size A2 RG from ⟨q5, q6⟩)
  clear q5 q6 b1
  obtain ⟨x0, x1, _, _⟩ := J1.out.head.two
  go_wp2_with fail
  refine (K2.out _ J1.out.2.1).mono ?_
  rintro e w2 ⟨A3, c3, A4, c4, rfl, r1, r2, r3, r4, r5, r6, _, _, b2⟩
  have J2 := Lib.hid (J1.out.below b2)
  have LL := Lib.hid (four_of LL.out b2 r5 r6)
  clear r5 r6 b2
  obtain ⟨x0, x1, _, _⟩ := J2.out.head.two
  have hLF : Hid ((LF.length : Int) ≤ 9223372036854775807) := by show _ ≤ _; unfold maxLen at q2; omega
  have hRG : Hid ((RG.length : Int) ≤ 9223372036854775807) := by show _ ≤ _; unfold maxLen at q4; omega
  go_wp2_with fail
  refine (K3.out _ J2.out.2.1).mono ?_
  rintro e w3 ⟨rfl, b3⟩
  have J3 := Lib.hid (J2.out.below b3)
  have LL := Lib.hid (LL.out.up b3)
  clear b3
  obtain ⟨x0, x1, _, _⟩ := J3.out.head.two
  go_wp2_with fail
  refine (K4.out _ J3.out.2.1).mono ?_
  rintro e w4 ⟨rfl, b4⟩
  have J4 := Lib.hid (J3.out.below b4)
  have LL := Lib.hid (LL.out.up b4)
  clear b4
  go_wp2
  have bd := (Below.refl w4.heap.size w4).drew
  have J4 := Lib.hid J4.out.drew
  have LL := Lib.hid (LL.out.up bd)
  clear bd
  obtain ⟨x0, x1, _, _⟩ := J4.out.head.two
  clear K0 K1 K2 K3 K4 HX r1 r2 r3 r4 q1 q2 q3 q4 J1 J2 J3
  go_region_held3 (fun W => W.cell? ⟨w.heap.size, 0, none⟩ = some (.slice A N ca) ∧ W.cell? ⟨w.heap.size, 1, none⟩ = some (.int .i64 p)) (go_keep)
    (first
      | (go_at_call 20; have _t := tok; (refine (KS1.out _ _ _ _ _ LL.out.a LL.out.c hLF.out).mono ?_); rintro e w5 ⟨rfl, hw⟩; clear tok; have b5 := qdb hw; have J4 := Lib.hid (J4.out.below b5); have LL := Lib.hid (LL.out.up b5); obtain ⟨x0, x1, _, _⟩ := J4.out.head.two; clear b5 hw)
      | (go_at_call 20; (refine (KS2.out _ _ _ _ _ LL.out.b LL.out.d hRG.out).mono ?_); rintro e w5 ⟨rfl, hw⟩; have b5 := qdb hw; have J4 := Lib.hid (J4.out.below b5); obtain ⟨x0, x1, _, _⟩ := J4.out.head.two; clear b5 hw)
      | (go_at_call 36; (refine (K5.out _ J4.out.2.1).mono ?_); rintro e w5 ⟨rfl, b5⟩; have J4 := Lib.hid (J4.out.below b5); obtain ⟨x0, x1, _, _⟩ := J4.out.head.two; clear b5)
      | (go_at_call 37; (refine (K6.out _ J4.out.2.1).mono ?_); rintro e w5 ⟨rfl, b5⟩; have J4 := Lib.hid (J4.out.below b5); obtain ⟨x0, x1, _, _⟩ := J4.out.head.two; clear b5))
  subst hs
  have hsum : ((LF.length : Int) + (RG.length : Int)) = (Q : Int) := by have := hsl rfl; omega
  have hwr : wrap64 ((LF.length : Int) + (RG.length : Int)) = (Q : Int) := by rw [hsum]; unfold wrap64; omega
  have hqq : ((Q : Int) == (Q : Int)) = true := by simp
  have hwq : wrap64 (Q : Int) = (Q : Int) := by unfold wrap64; omega
  have hqq2 : (((LF.length : Int) + (RG.length : Int)) == (Q : Int)) = true := by rw [hsum]; exact hqq
  go_wp2_with fail
  · refine (lives9 _).mono ?_
    rintro e wl ⟨rfl, hl⟩
    have JL := Lib.hid (J4.out.below hl)
    go_wp2
    go_ret
    exact ⟨rfl, JL.out.2.1⟩
  all_goals
    exfalso
    first | omega | contradiction | simp_all
set_option maxRecDepth 100000 in
set_option maxHeartbeats 8000000 in
theorem mainE {w : World} (A : Option Addr) (a : List Int) (ca : Nat) (p : Int) (hA : Lies w w.heap.size A a) (ha : ∀ x ∈ a, I64 x) (hca : a.length ≤ ca) (hma : ca ≤ 9223372036854775807) (hp : I64 p)
    (D : Option Addr) (R : List Row) (cd : Nat) (hD : LiesR w w.heap.size D R) (hR : OkR R) (hcd : R.length ≤ cd) (hmd : cd ≤ 9223372036854775807)
    (B : Option Addr) (b : List Int) (cb : Nat) (hB : Lies w w.heap.size B b) (hb : ∀ x ∈ b, I64 x) (hcb : b.length ≤ cb) (hmb : cb ≤ 9223372036854775807) (d : Int) (hd : I64 d) (g1 : ¬ 20 < a.length) (g2 : ¬ 20 < b.length) (hm : muchV R 60 = false) (hs : ¬ splC a p R = 0) :
    Calls Try.prog 7 #[.agg #[.slice A a.length ca, .int .i64 p], .slice D R.length cd, .slice B b.length cb, .int .i64 d] w fun e w' => e = .returned (.bool true) ∧ Below w.heap.size w w' := by
  have HX := Lib.hid ((Kpc.start w).alloc #[.slice A a.length ca, .int .i64 p] 40)
  have K0 := Lib.hid (fun W (h : Below w.heap.size w W) => ref_Much D R cd w.heap.size 60 W (hD.below h) (by omega))
  obtain ⟨y0, y1, _, _⟩ := HX.out.head.two
  rw [hm] at K0
  have g1' : ¬ (20 : Int) < (a.length : Int) := by omega
  have g2' : ¬ (20 : Int) < (b.length : Int) := by omega
  have hq60 : R.length ≤ 60 := by have := (muchV_no hm).1; omega
  have LA := fun W (h : Below w.heap.size w W) => hA.below h
  have LB := fun W (h : Below w.heap.size w W) => hB.below h
  have LD := fun W (h : Below w.heap.size w W) => hD.below h
  have K1 := Lib.hid (fun W (h : Below w.heap.size w W) => cut_Split A D a R ca cd p W ((LA W h).mono h.size) ((LD W h).mono h.size) hR (by omega) hca (by omega))
  have K2 := Lib.hid (fun W (h : Below w.heap.size w W) => ref_Split A D a R ca cd p W ((LA W h).mono h.size) ((LD W h).mono h.size) (by omega))
  have K3 := Lib.hid (fun W (h : Below w.heap.size w W) => cut_Left A B a b ca cb w.heap.size p W (LA W h) (LB W h) h.size (by omega) (by omega) hca hcb)
  have K4 := Lib.hid (fun W (h : Below w.heap.size w W) => ref_Left9 A B a b ca cb w.heap.size p W (LA W h) (LB W h) h.size)
  have K5 := Lib.hid (fun W (h : Below w.heap.size w W) => cut_Is A a ca w.heap.size p d W (LA W h) h.size (by omega) hca)
  have K6 := Lib.hid (fun W (h : Below w.heap.size w W) => ref_Is9 A a ca w.heap.size p d W (LA W h) h.size)
  unfold GivesS at K1 K2
  have hsl := split_len a p R
  generalize lft a p R = LF at *
  generalize rgt a p R = RG at *
  have KS1 := Lib.hid (fun W A1 A2 c1 c2 (h1 : Lies W W.heap.size A1 LF) (h2 : Lies W W.heap.size A2 LF) (h3 : (LF.length : Int) ≤ 9223372036854775807) => ref_same1 A1 A2 LF LF c1 c2 W.heap.size W h1 h2 h3 h3)
  have KS2 := Lib.hid (fun W A1 A2 c1 c2 (h1 : Lies W W.heap.size A1 RG) (h2 : Lies W W.heap.size A2 RG) (h3 : (RG.length : Int) ≤ 9223372036854775807) => ref_same1 A1 A2 RG RG c1 c2 W.heap.size W h1 h2 h3 h3)
  rw [show decide (LF = LF) = true from by simp] at KS1
  rw [show decide (RG = RG) = true from by simp] at KS2
  generalize lefB a p b = lb at *
  generalize lefC a p b = lc at *
  generalize isC a p d = iq at *
  generalize splC a p R = sp at *
  clear hA hB ha hb hD hR LA LB LD hm
  generalize a.length = N at *
  generalize b.length = M at *
  generalize R.length = Q at *
  have e1 : (sp != sp) = false := by simp
  have e2 : (lb != lb) = false := by simp
  have e3 : (lc != lc) = false := by simp
  have e4 : (iq != iq) = false := by simp
  have tok : True := trivial
  go_enter Try.func7, Try.ntmps7
  go_wp2_with fail
  refine (K0.out _ HX.out.2.1).mono ?_
  rintro e w0 ⟨rfl, rfl⟩
  go_wp2_with fail
  refine (K1.out _ HX.out.2.1).mono ?_
  rintro e w1 ⟨A1, c1, A2, c2, rfl, q1, q2, q3, q4, q5, q6, _, _, b1⟩
  have J1 := Lib.hid (HX.out.below b1)
  have LL := Lib.hid (show Lies w1 w1.heap.size A1 LF ∧ Lies w1 w1.heap.size A2 RG from ⟨q5, q6⟩)
  clear q5 q6 b1
  obtain ⟨x0, x1, _, _⟩ := J1.out.head.two
  go_wp2_with fail
  refine (K2.out _ J1.out.2.1).mono ?_
  rintro e w2 ⟨A3, c3, A4, c4, rfl, r1, r2, r3, r4, r5, r6, _, _, b2⟩
  have J2 := Lib.hid (J1.out.below b2)
  have LL := Lib.hid (four_of LL.out b2 r5 r6)
  clear r5 r6 b2
  obtain ⟨x0, x1, _, _⟩ := J2.out.head.two
  have hLF : Hid ((LF.length : Int) ≤ 9223372036854775807) := by show _ ≤ _; unfold maxLen at q2; omega
  have hRG : Hid ((RG.length : Int) ≤ 9223372036854775807) := by show _ ≤ _; unfold maxLen at q4; omega
  go_wp2_with fail
  refine (K3.out _ J2.out.2.1).mono ?_
  rintro e w3 ⟨rfl, b3⟩
  have J3 := Lib.hid (J2.out.below b3)
  have LL := Lib.hid (LL.out.up b3)
  clear b3
  obtain ⟨x0, x1, _, _⟩ := J3.out.head.two
  go_wp2_with fail
  refine (K4.out _ J3.out.2.1).mono ?_
  rintro e w4 ⟨rfl, b4⟩
  have J4 := Lib.hid (J3.out.below b4)
  have LL := Lib.hid (LL.out.up b4)
  clear b4
  go_wp2
  have bd := (Below.refl w4.heap.size w4).drew
  have J4 := Lib.hid J4.out.drew
  have LL := Lib.hid (LL.out.up bd)
  clear bd
  obtain ⟨x0, x1, _, _⟩ := J4.out.head.two
  clear K0 K1 K2 K3 K4 HX r1 r2 r3 r4 q1 q2 q3 q4 J1 J2 J3
  go_region_held3 (fun W => W.cell? ⟨w.heap.size, 0, none⟩ = some (.slice A N ca) ∧ W.cell? ⟨w.heap.size, 1, none⟩ = some (.int .i64 p)) (go_keep)
    (first
      | (go_at_call 20; have _t := tok; (refine (KS1.out _ _ _ _ _ LL.out.a LL.out.c hLF.out).mono ?_); rintro e w5 ⟨rfl, hw⟩; clear tok; have b5 := qdb hw; have J4 := Lib.hid (J4.out.below b5); have LL := Lib.hid (LL.out.up b5); obtain ⟨x0, x1, _, _⟩ := J4.out.head.two; clear b5 hw)
      | (go_at_call 20; (refine (KS2.out _ _ _ _ _ LL.out.b LL.out.d hRG.out).mono ?_); rintro e w5 ⟨rfl, hw⟩; have b5 := qdb hw; have J4 := Lib.hid (J4.out.below b5); obtain ⟨x0, x1, _, _⟩ := J4.out.head.two; clear b5 hw)
      | (go_at_call 36; (refine (K5.out _ J4.out.2.1).mono ?_); rintro e w5 ⟨rfl, b5⟩; have J4 := Lib.hid (J4.out.below b5); obtain ⟨x0, x1, _, _⟩ := J4.out.head.two; clear b5)
      | (go_at_call 37; (refine (K6.out _ J4.out.2.1).mono ?_); rintro e w5 ⟨rfl, b5⟩; have J4 := Lib.hid (J4.out.below b5); obtain ⟨x0, x1, _, _⟩ := J4.out.head.two; clear b5))
  have hne : (sp != 0) = true := by simpa using hs
  go_wp2_with fail
  refine (lives9 _).mono ?_
  rintro e wl ⟨rfl, hl⟩
  have JL := Lib.hid (J4.out.below hl)
  go_wp2
  go_ret
  exact ⟨rfl, JL.out.2.1⟩
set_option maxRecDepth 100000 in
set_option maxHeartbeats 8000000 in
theorem walk {w : World} (A : Option Addr) (a : List Int) (ca : Nat) (p : Int) (hA : Lies w w.heap.size A a) (ha : ∀ x ∈ a, I64 x) (hca : a.length ≤ ca) (hma : ca ≤ 9223372036854775807) (hp : I64 p)
    (D : Option Addr) (R : List Row) (cd : Nat) (hD : LiesR w w.heap.size D R) (hR : OkR R) (hcd : R.length ≤ cd) (hmd : cd ≤ 9223372036854775807)
    (B : Option Addr) (b : List Int) (cb : Nat) (hB : Lies w w.heap.size B b) (hb : ∀ x ∈ b, I64 x) (hcb : b.length ≤ cb) (hmb : cb ≤ 9223372036854775807) (d : Int) (hd : I64 d) (_ : World) :
    Calls Try.prog 7 #[.agg #[.slice A a.length ca, .int .i64 p], .slice D R.length cd, .slice B b.length cb, .int .i64 d] w fun e w' => e = .returned (.bool true) ∧ Below w.heap.size w w' := by
  have HX := Lib.hid ((Kpc.start w).alloc #[.slice A a.length ca, .int .i64 p] 40)
  have K0 := Lib.hid (fun W (h : Below w.heap.size w W) => ref_Much D R cd w.heap.size 60 W (hD.below h) (by omega))
  obtain ⟨y0, y1, _, _⟩ := HX.out.head.two
  by_cases g1 : 20 < a.length
  · have g1' : (20 : Int) < (a.length : Int) := by omega
    clear hA hB ha hb hD hR K0
    generalize a.length = N at *
    generalize b.length = M at *
    generalize R.length = Q at *
    go_enter Try.func7, Try.ntmps7
    go_wp2_with fail
    refine (lives9 _).mono ?_
    rintro e wl ⟨rfl, hl⟩
    have JL := Lib.hid (HX.out.below hl)
    go_wp2
    go_ret
    exact ⟨rfl, JL.out.2.1⟩
  · have g1' : ¬ (20 : Int) < (a.length : Int) := by omega
    cases hm : muchV R 60
    · rw [hm] at K0
      by_cases g2 : 20 < b.length
      · have g2' : (20 : Int) < (b.length : Int) := by omega
        clear hA hB ha hb hD hR hm
        generalize a.length = N at *
        generalize b.length = M at *
        generalize R.length = Q at *
        go_enter Try.func7, Try.ntmps7
        go_wp2_with fail
        refine (K0.out _ HX.out.2.1).mono ?_
        rintro e w0 ⟨rfl, rfl⟩
        go_wp2_with fail
        refine (lives9 _).mono ?_
        rintro e wl ⟨rfl, hl⟩
        have JL := Lib.hid (HX.out.below hl)
        go_wp2
        go_ret
        exact ⟨rfl, JL.out.2.1⟩
      · have g2' : ¬ (20 : Int) < (b.length : Int) := by omega
        by_cases hs : splC a p R = 0
        · exact main0 A a ca p hA ha hca hma hp D R cd hD hR hcd hmd B b cb hB hb hcb hmb d hd g1 g2 hm hs
        · exact mainE A a ca p hA ha hca hma hp D R cd hD hR hcd hmd B b cb hB hb hcb hmb d hd g1 g2 hm hs
    · rw [hm] at K0
      clear hA hB ha hb hD hR hm
      generalize a.length = N at *
      generalize b.length = M at *
      generalize R.length = Q at *
      go_enter Try.func7, Try.ntmps7
      go_wp2_with fail
      refine (K0.out _ HX.out.2.1).mono ?_
      rintro e w0 ⟨rfl, rfl⟩
      go_wp2_with fail
      refine (lives9 _).mono ?_
      rintro e wl ⟨rfl, hl⟩
      have JL := Lib.hid (HX.out.below hl)
      go_wp2
      go_ret
      exact ⟨rfl, JL.out.2.1⟩

set_option maxRecDepth 100000 in
theorem lifted (os : Os) (started : os.Started) (H : Type) (enc : TypeId × Value → H) :
    ReturnsInHanded {} Try.checked os 7 .any (Rows.cutSplitsSpec.pre6 enc Try.prog Try.f7 Rows.cutSplitsRow.domain false) (Rows.cutSplitsSpec.post enc Try.prog Try.f7 false true false false) := by
  refine returnsInHanded_of_change (C := Try.checked) own started (by kernel_rfl) Try.func7
    (ChangeSpec.witness6 (enc := enc) (C := Try.checked) false ⟨#[], #[.agg #[.slice none 0 0, .int .i64 0], .slice none 0 0, .slice none 0 0, .int .i64 0], []⟩ 8 (by kernel_rfl) (by kernel_rfl) (by kernel_rfl) (by kernel_rfl)) ?_
  intro W base args ds gs before hval0 hW hcnd _
  have hval : ∀ (j : Nat) t v, Try.f7.params[j]? = some t → args[j]? = some v → Value.okWide Try.prog W .any base t v := hval0
  have hW' := hW
  obtain ⟨p, q, hA0, hV, rfl, hfz, hnd⟩ := hW
  obtain ⟨rfl, rfl⟩ := trodVars_none hV
  have hA : DataW.TrodAll enc Try.prog W 0 (fun _ => true) true Try.f7.params.toList args.toList ds p := hA0
  rw [Try.params7] at hA hval
  obtain ⟨v0, vs0, d0, ds0, p0, q0, hargs, rfl, rfl, h0, r0⟩ := trodAll_cons hA
  obtain ⟨v1, vs1, d1, ds1, p1, q1, rfl, rfl, rfl, h1, r1⟩ := trodAll_cons r0
  obtain ⟨v2, vs2, d2, ds2, p2, q2, rfl, rfl, rfl, h2, r2⟩ := trodAll_cons r1
  obtain ⟨v3, vs3, d3, ds3, p3, q3, rfl, rfl, rfl, h3, r3⟩ := trodAll_cons r2
  obtain ⟨rfl, rfl, rfl⟩ := trodAll_nil r3
  obtain rfl : args = #[v0, v1, v2, v3] := by cases args; simp_all
  obtain ⟨A0, l0, c0, a0, rfl, L0, I0, C0, M0, w0⟩ := open_cut Try.underlying40 Try.underlying24 Try.underlying3 cells_i8 Try.underlying3 (by kernel_rfl) (by kernel_rfl) (hval 0 40 v0 rfl rfl) h0
  obtain ⟨A1, R1, c1, rfl, L1, I1, C1, M1⟩ := open_rows8 Try.underlying41 Try.underlying24 Try.underlying3 cells_l8 cells_i8 (hval 1 41 v1 rfl rfl) h1
  obtain ⟨A2, l2, c2, rfl, L2, I2, C2, M2⟩ := open_ints8 Try.underlying24 Try.underlying3 cells_i8 (hval 2 24 v2 rfl rfl) h2
  obtain ⟨a3, rfl, _, _, w3⟩ := open_int Try.underlying3 (hval 3 3 v3 rfl rfl) h3
  refine (walk A0 l0 c0 a0 L0 I0 C0 M0 w0 A1 R1 c1 L1 I1 C1 M1 A2 l2 c2 L2 I2 C2 M2 a3 (i64_of_wf w3) W).mono fun e W' ⟨he, hg⟩ => ?_
  subst he
  exact ⟨_, rfl, law_post laid (by rw [Try.params7]; exact (by decide +kernel)) rfl (by kernel_rfl) Try.underlying4 rfl hW' hg⟩

theorem over : Rows.cutSplitsRow.holds Try.pinned (OpenSpec.ofChange Rows.cutSplitsSpec) :=
  OpenClaim.holds_of_wide 7 Try.f7 rfl rfl rfl rfl rfl rfl rfl ⟨rfl, rfl, rfl, rfl, rfl⟩ rfl rfl rfl rfl rfl (by kernel_rfl) Try.func7 (by kernel_rfl)
    (of_decide_eq_true (by kernel_rfl)) (by unfold Func.isWrapper; first | (rw [if_pos (by decide +kernel)]; kernel_rfl) | (rw [if_neg (by decide +kernel)]; exact ⟨rfl, rfl⟩))
    (fun os started H enc _ => lifted os started H enc)
theorem proved : Rows.CutSplitsSaid := over
end Go.Proofs.Ytpjgnghmhbkmkaa.cutSplits
