/- Statement BinOne: whatever the input is, the Go function returns true and each argument reads as it did. No condition. -/
import Derived.Test.YtdcemcpcjdkpjaaRows
import Derived.Test.YtdcemcpcjdkpjaaBinO
import Derived.Test.YtdcemcpcjdkpjaaVecT
import Derived.Test.YtdcemcpcjdkpjaaBase
import Derived.ProofKit
import Derived.OpenShut
import Derived.IntWalk
import Derived.Deep.CutRange
import Derived.Deep.CutBlock
namespace Go.Proofs.Ytdcemcpcjdkpjaa.binOne
open Go.ChangeShapes Go.WideShapes Go.ChangeAt Go.RowKit
set_option linter.unusedVariables false

theorem own : ownKnob Try.prog.godebug = none := by kernel_rfl
theorem laid : laidOutB Try.prog = true := by kernel_rfl

/-- the call's memory, between the checks -/
structure OneS (b : List Int) (A : Option Addr) (B1 g1 k1 : Nat) (e1 : Int) (B2 g2 B3 g3 k3 : Nat) (e3 : Int) (B4 g4 k4 : Nat) (e4 : Int) (A8 A9 : Option Addr) (y v : List Int) (w wx : World) : Prop where
  r1 : RdAt wx B1 g1 b k1 e1
  r2 : RdAt wx B2 g2 b k1 e1
  r3 : RdAt wx B3 g3 b k3 e3
  r4 : RdAt wx B4 g4 b k4 e4
  a : LiesY wx wx.heap.size A b
  t : LiesY wx wx.heap.size A8 y
  l : Lies wx wx.heap.size A9 v
  b : Below w.heap.size w wx
theorem OneS.up {b : List Int} {A : Option Addr} {B1 g1 k1 : Nat} {e1 : Int} {B2 g2 B3 g3 k3 : Nat} {e3 : Int} {B4 g4 k4 : Nat} {e4 : Int} {A8 A9 : Option Addr} {y v : List Int} {w wx wy : World}
    (h : OneS b A B1 g1 k1 e1 B2 g2 B3 g3 k3 e3 B4 g4 k4 e4 A8 A9 y v w wx) (hb : Below wx.heap.size wx wy) : OneS b A B1 g1 k1 e1 B2 g2 B3 g3 k3 e3 B4 g4 k4 e4 A8 A9 y v w wy :=
  ⟨h.r1.below hb, h.r2.below hb, h.r3.below hb, h.r4.below hb, h.a.up hb, h.t.up hb, lies_up h.l hb, h.b.trans (hb.mono h.b.size)⟩
def GivesT (b : List Int) (k : Nat) (W : World) (e : Ending) (w' : World) : Prop := (∃ A2 c2, e = .returned (.slice A2 k c2) ∧ LiesY w' w'.heap.size A2 (b.take k)) ∧ Below W.heap.size W w'
theorem givesT {b l : List Int} {k : Nat} {W w' : World} {e : Ending} (h : GivesY l W e w') (hl : l = b.take k) (hk : k ≤ b.length) : GivesT b k W e w' := by
  obtain ⟨⟨v, rfl, h1⟩, h2⟩ := h
  obtain ⟨A1, c1, rfl, g1, -, g3, -, -⟩ := h1.lies
  rw [hl] at g3
  have e : l.length = k := by rw [hl, List.length_take]; omega
  rw [e]
  exact ⟨⟨A1, c1, rfl, g3⟩, h2⟩
set_option maxRecDepth 2000000 in
set_option maxHeartbeats 16000000 in
theorem walk (A : Option Addr) (b : List Int) (c : Nat) {w : World} (hA : LiesY w w.heap.size A b) (hb : byt b) (hbc : b.length ≤ c) (hc : c ≤ 9223372036854775807) (hAc : A = none → c = 0) (_ : World) :
    Calls Try.prog 11 #[.slice A b.length c] w fun e w' => e = .returned (.bool true) ∧ Below w.heap.size w w' := by
  by_cases hl : 600 < b.length
  · have hlg : (600 : Int) < (b.length : Int) := by omega
    clear hA hb hAc
    generalize b.length = N at *
    go_enter Try.func11, Try.ntmps11
    go_wp2_with fail
    refine (lives21 _).mono ?_
    rintro e wl ⟨rfl, bl⟩
    have HB := Lib.hid bl
    clear bl
    go_wp2
    go_ret
    exact ⟨rfl, HB.out⟩
  have hlg : ¬ (600 : Int) < (b.length : Int) := by omega
  have KF := Lib.hid (fun W (h : LiesY W W.heap.size A b) => bin_From b A c W h hAc (by omega) hb)
  have K1 := Lib.hid (fun W B g (h : RdAt W B g b 0 0) => rd_U h)
  have K2 := Lib.hid (fun W B g (h : RdAt W B g b 0 0) => rd_I h)
  have K3 := Lib.hid (fun W B g (h : RdAt W B g b 0 0) => rd_Text 600 (by unfold I64; omega) h)
  have K4 := Lib.hid (fun W B g (h : RdAt W B g b 0 0) => rd_Ints 600 (by unfold I64; omega) h)
  have C1 : Hid ((rU b 0 0).1.2 = 0 → 0 < (rU b 0 0).1.1 ∧ (rU b 0 0).1.1 ≤ b.length ∧ ∀ W, Calls Try.prog 51 #[.int .u64 ((rU b 0 0).2 : Nat)] W (GivesT b (rU b 0 0).1.1 W)) := fun h => by
    obtain ⟨h1, h2, h3⟩ := one_U hb h
    exact ⟨h1, h2, fun W => (ref_UY _ W (rU_bd hb 0 0)).mono fun e w' hg => givesT hg h3 h2⟩
  have C2 : Hid ((rU b 0 0).1.2 = 0 → 0 < (rU b 0 0).1.1 ∧ (rU b 0 0).1.1 ≤ b.length ∧ ∀ W, Calls Try.prog 53 #[.int .i64 (unfoldI (rU b 0 0).2)] W (GivesT b (rU b 0 0).1.1 W)) := fun h => by
    obtain ⟨h1, h2, h3⟩ := one_U hb h
    exact ⟨h1, h2, fun W => (ref_IY _ W (unfold_bd (rU_bd hb 0 0))).mono fun e w' hg => givesT hg (one_I hb h) h2⟩
  have C3 : Hid ((rT b 0 0 600).1.2 = 0 → 0 < (rT b 0 0 600).1.1 ∧ (rT b 0 0 600).1.1 ≤ b.length ∧ ∀ W A c, LiesY W W.heap.size A (rT b 0 0 600).2 → (A = none → c = 0) → Calls Try.prog 55 #[.slice A (rT b 0 0 600).2.length c] W (GivesT b (rT b 0 0 600).1.1 W)) := fun h => by
    obtain ⟨h1, h2, h3⟩ := one_T hb 600 h
    exact ⟨h1, h2, fun W A c q1 q2 => (ref_TY _ A c W q1 q2 (Nat.le_trans (one_Tle 600) (by omega))).mono fun e w' hg => givesT hg h3 h2⟩
  have C4 : Hid ((rL b 0 0 600).1.2 = 0 → 0 < (rL b 0 0 600).1.1 ∧ (rL b 0 0 600).1.1 ≤ b.length ∧ ∀ W A c, Lies W W.heap.size A (rL b 0 0 600).2 → Calls Try.prog 57 #[.slice A (rL b 0 0 600).2.length c] W (GivesT b (rL b 0 0 600).1.1 W)) := fun h => by
    obtain ⟨h1, h2, h3, h4, h5⟩ := one_L hb 600 h
    exact ⟨h1, h2, fun W A c q1 => (ref_LY _ A c W q1 (by omega) h4).mono fun e w' hg => givesT hg h3 h2⟩
  have CS : Hid (∀ W (k : Nat) A2 c2 c A', k ≤ b.length → LiesY W W.heap.size A2 (b.take k) → LiesY W W.heap.size A' b → Calls Try.prog 49 #[.slice A2 k c2, .slice A' k c] W fun e w' => e = .returned (.bool true) ∧ W = w') := fun W k A2 c2 c A' hk h1 h2 => by
    have := ref_SameY (b.take k) A2 A' c2 c W.heap.size W h1 (h2.take k)
    rw [List.length_take, Nat.min_eq_left hk] at this
    exact this
  have HA := Lib.hid hA
  have HA0 := Lib.hid hA
  clear hA hAc hl hb
  generalize unfoldI (rU b 0 0).2 = i at *
  generalize (rU b 0 0).2 = n at *
  generalize (rU b 0 0).1.1 = k1 at *
  generalize (rU b 0 0).1.2 = e1 at *
  generalize (rT b 0 0 600).2 = y at *
  generalize (rT b 0 0 600).1.1 = k3 at *
  generalize (rT b 0 0 600).1.2 = e3 at *
  generalize (rL b 0 0 600).2 = v at *
  generalize (rL b 0 0 600).1.1 = k4 at *
  generalize (rL b 0 0 600).1.2 = e4 at *
  generalize hN : b.length = N at *
  have HN := Lib.hid hN
  clear hN
  go_enter Try.func11, Try.ntmps11
  go_wp2_with fail
  refine (KF.out w HA.out).mono ?_
  rintro e x1 ⟨⟨g1, rfl, h1⟩, h2⟩
  have R1 := Lib.hid h1
  have G1 : Hid (w.heap.size ≤ g1 ∧ g1 < x1.heap.size) := ⟨h1.lt.2.1, h1.lt.1⟩
  have HA := Lib.hid (HA.out.up h2)
  have HB := Lib.hid h2
  clear h1 h2
  go_wp2_with fail
  refine (KF.out x1 HA.out).mono ?_
  rintro e x2 ⟨⟨g2, rfl, h1⟩, h2⟩
  have R1 := Lib.hid (R1.out.below h2)
  have R2 := Lib.hid h1
  have G2 : Hid (x1.heap.size ≤ g2 ∧ g2 < x2.heap.size) := ⟨h1.lt.2.1, h1.lt.1⟩
  have HA := Lib.hid (HA.out.up h2)
  have HB := Lib.hid (HB.out.trans (h2.mono HB.out.size))
  clear h1 h2
  go_wp2_with fail
  refine (KF.out x2 HA.out).mono ?_
  rintro e x3 ⟨⟨g3, rfl, h1⟩, h2⟩
  have R1 := Lib.hid (R1.out.below h2)
  have R2 := Lib.hid (R2.out.below h2)
  have R3 := Lib.hid h1
  have G3 : Hid (x2.heap.size ≤ g3 ∧ g3 < x3.heap.size) := ⟨h1.lt.2.1, h1.lt.1⟩
  have HA := Lib.hid (HA.out.up h2)
  have HB := Lib.hid (HB.out.trans (h2.mono HB.out.size))
  clear h1 h2
  go_wp2_with fail
  refine (KF.out x3 HA.out).mono ?_
  rintro e x4 ⟨⟨g4, rfl, h1⟩, h2⟩
  have R1 := Lib.hid (R1.out.below h2)
  have R2 := Lib.hid (R2.out.below h2)
  have R3 := Lib.hid (R3.out.below h2)
  have R4 := Lib.hid h1
  have G4 : Hid (x3.heap.size ≤ g4 ∧ g4 < x4.heap.size) := ⟨h1.lt.2.1, h1.lt.1⟩
  have HA := Lib.hid (HA.out.up h2)
  have HB := Lib.hid (HB.out.trans (h2.mono HB.out.size))
  clear h1 h2
  have S1 : Hid (w.heap.size ≤ x1.heap.size ∧ x1.heap.size ≤ x2.heap.size ∧ x2.heap.size ≤ x3.heap.size) := by
    have := G1.out; have := G2.out; have := G3.out; (show _ ∧ _); omega
  clear KF
  go_wp2_with fail
  refine (K1.out _ _ _ R1.out).mono ?_
  rintro e z1 ⟨rfl, h1, h2⟩
  have hlow : Below w.heap.size x4 z1 := h2.low G1.out.1 (by have := R1.out.lt; have := G1.out; omega)
  have R1 := Lib.hid h1
  have R2 := Lib.hid (R2.out.wr h2 (.inl (by have := S1.out; have := G2.out; have := G1.out; omega)))
  have R3 := Lib.hid (R3.out.wr h2 (.inl (by have := S1.out; have := G3.out; have := G1.out; omega)))
  have R4 := Lib.hid (R4.out.wr h2 (.inl (by have := S1.out; have := G4.out; have := G1.out; omega)))
  have HB := Lib.hid (HB.out.trans (hlow.mono (by have := S1.out; omega)))
  clear h1 h2 hlow
  go_wp2_with fail
  refine (K2.out _ _ _ R2.out).mono ?_
  rintro e z2 ⟨rfl, h1, h2⟩
  have hlow : Below x1.heap.size z1 z2 := h2.low G2.out.1 (by have := R2.out.lt; have := G2.out; omega)
  have R1 := Lib.hid (R1.out.wr h2 (.inr (by have := S1.out; have := G1.out; have := G2.out; omega)))
  have R2 := Lib.hid h1
  have R3 := Lib.hid (R3.out.wr h2 (.inl (by have := S1.out; have := G3.out; have := G2.out; omega)))
  have R4 := Lib.hid (R4.out.wr h2 (.inl (by have := S1.out; have := G4.out; have := G2.out; omega)))
  have HB := Lib.hid (HB.out.trans (hlow.mono (by have := S1.out; omega)))
  clear h1 h2 hlow
  go_wp2_with fail
  refine (K3.out _ _ _ R3.out).mono ?_
  rintro e z3 ⟨A3, c3, rfl, h0, h1, h2⟩
  have hlow : Below x2.heap.size z2 z3 := h2.low G3.out.1 (by have := R3.out.lt; have := G3.out; omega)
  have ht4 : Hid (g4 < z2.heap.size) := R4.out.lt.1
  have HT := Lib.hid h0
  have R1 := Lib.hid (R1.out.wr h2 (.inr (by have := S1.out; have := G1.out; have := G3.out; omega)))
  have R2 := Lib.hid (R2.out.wr h2 (.inr (by have := S1.out; have := G2.out; have := G3.out; omega)))
  have R3 := Lib.hid h1
  have R4 := Lib.hid (R4.out.wr h2 (.inl (by have := S1.out; have := G4.out; have := G3.out; omega)))
  have HB := Lib.hid (HB.out.trans (hlow.mono (by have := S1.out; omega)))
  clear h0 h1 h2 hlow
  go_wp2_with fail
  refine (K4.out _ _ _ R4.out).mono ?_
  rintro e z4 ⟨A4, c4, rfl, h0, h1, h2⟩
  have hlow : Below x3.heap.size z3 z4 := h2.low G4.out.1 (by have := R4.out.lt; have := G4.out; omega)
  obtain ⟨A4', c4', e4', -, -, g9⟩ := lies_ownI h0
  cases e4'
  obtain ⟨A3', c3', e3', -, -, g8, gn, -⟩ := OwnsY.lies (HT.out.wr h2 ht4.out)
  cases e3'
  have HTn := Lib.hid gn
  have R1 := Lib.hid (R1.out.wr h2 (.inr (by have := S1.out; have := G1.out; have := G4.out; omega)))
  have R2 := Lib.hid (R2.out.wr h2 (.inr (by have := S1.out; have := G2.out; have := G4.out; omega)))
  have R3 := Lib.hid (R3.out.wr h2 (.inr (by have := S1.out; have := G3.out; have := G4.out; omega)))
  have R4 := Lib.hid h1
  have HB := Lib.hid (HB.out.trans (hlow.mono (by have := S1.out; omega)))
  have HS : Hid (OneS b A w.heap.size g1 k1 e1 x1.heap.size g2 x2.heap.size g3 k3 e3 x3.heap.size g4 k4 e4 A3 A4 y v w z4) := ⟨R1.out, R2.out, R3.out, R4.out, (HA0.out.below HB.out).mono HB.out.size, g8, g9, HB.out⟩
  clear h0 h1 h2 hlow g8 g9 gn HT ht4 R1 R2 R3 R4 HA HA0 HB K1 K2 K3 K4 S1 G1 G2 G3 G4
  generalize y.length = yl at *
  generalize v.length = vl at *
  go_upto_region 7 with fail
  go_cut [69] from 45 to 69 (fun s wc => s = .bool false ∧ Hid (OneS b A w.heap.size g1 k1 e1 x1.heap.size g2 x2.heap.size g3 k3 e3 x3.heap.size g4 k4 e4 A3 A4 y v w wc))
  case first =>
    by_cases he : e1 = 0
    · obtain ⟨q1, q2, q3⟩ := C1.out he
      have hn := HN.out
      subst he
      have HC := Lib.hid q3
      have f1 : ¬ (k1 : Int) < 0 := by omega
      have f1b : (0 : Int) ≤ (k1 : Int) := by omega
      have f2 : ¬ (N : Int) < (k1 : Int) := by omega
      have f2b : (k1 : Int) ≤ (N : Int) := by omega
      have f3 : (k1 : Int) ≤ (c : Int) := by omega
      have f4 : ¬ c = 0 := by omega
      have KS := Lib.hid (fun W A2 c2 c A' => CS.out W k1 A2 c2 c A' q2)
      obtain ⟨ad, eA, -⟩ := HS.out.a (by omega)
      subst eA
      clear q1 q2 q3 hn CS C1 C2 C3 C4
      go_wp2_with fail
      refine (rd_Err HS.out.r1).mono ?_
      rintro e wq ⟨rfl, rfl⟩
      go_wp2_with fail
      refine (rd_At HS.out.r1).mono ?_
      rintro e wq ⟨rfl, rfl⟩
      go_wp2_with fail
      refine (rd_At HS.out.r1).mono ?_
      rintro e wq ⟨rfl, rfl⟩
      go_wp2_with fail
      refine (HC.out _).mono ?_
      rintro e wq ⟨⟨A5, c5, rfl, h5⟩, hb⟩
      have H5 := Lib.hid h5
      have HS := Lib.hid (HS.out.up hb)
      clear h5 hb
      go_wp2_with fail
      refine (rd_At HS.out.r1).mono ?_
      rintro e wq ⟨rfl, rfl⟩
      go_wp2_with fail
      refine (KS.out _ _ _ _ _ H5.out HS.out.a).mono ?_
      rintro e wq ⟨rfl, rfl⟩
      go_wp2_with fail
      go_meet
      exact ⟨congrArg Value.bool (by rw [Bool.or_eq_false_iff]; exact ⟨decide_eq_false (by omega), decide_eq_false (by omega)⟩), HS.out⟩
    · have hne : (e1 == 0) = false := by simp [he]
      clear CS C1 C2 C3 C4
      go_wp2_with fail
      refine (rd_Err HS.out.r1).mono ?_
      rintro e wq ⟨rfl, rfl⟩
      go_wp2_with fail
      go_meet
      exact ⟨rfl, HS.out⟩
  case rest =>
  obtain ⟨rfl, HS⟩ := hcut
  go_upto_region 9 with fail
  go_cut [94] from 70 to 94 (fun s wc => s = .bool false ∧ Hid (OneS b A w.heap.size g1 k1 e1 x1.heap.size g2 x2.heap.size g3 k3 e3 x3.heap.size g4 k4 e4 A3 A4 y v w wc))
  case first =>
    by_cases he : e1 = 0
    · obtain ⟨q1, q2, q3⟩ := C2.out he
      have hn := HN.out
      subst he
      have HC := Lib.hid q3
      have f1 : ¬ (k1 : Int) < 0 := by omega
      have f1b : (0 : Int) ≤ (k1 : Int) := by omega
      have f2 : ¬ (N : Int) < (k1 : Int) := by omega
      have f2b : (k1 : Int) ≤ (N : Int) := by omega
      have f3 : (k1 : Int) ≤ (c : Int) := by omega
      have f4 : ¬ c = 0 := by omega
      have KS := Lib.hid (fun W A2 c2 c A' => CS.out W k1 A2 c2 c A' q2)
      obtain ⟨ad, eA, -⟩ := HS.out.a (by omega)
      subst eA
      clear q1 q2 q3 hn CS C1 C2 C3 C4
      go_wp2_with fail
      refine (rd_Err HS.out.r2).mono ?_
      rintro e wq ⟨rfl, rfl⟩
      go_wp2_with fail
      refine (rd_At HS.out.r2).mono ?_
      rintro e wq ⟨rfl, rfl⟩
      go_wp2_with fail
      refine (rd_At HS.out.r2).mono ?_
      rintro e wq ⟨rfl, rfl⟩
      go_wp2_with fail
      refine (HC.out _).mono ?_
      rintro e wq ⟨⟨A5, c5, rfl, h5⟩, hb⟩
      have H5 := Lib.hid h5
      have HS := Lib.hid (HS.out.up hb)
      clear h5 hb
      go_wp2_with fail
      refine (rd_At HS.out.r2).mono ?_
      rintro e wq ⟨rfl, rfl⟩
      go_wp2_with fail
      refine (KS.out _ _ _ _ _ H5.out HS.out.a).mono ?_
      rintro e wq ⟨rfl, rfl⟩
      go_wp2_with fail
      go_meet
      exact ⟨congrArg Value.bool (by rw [Bool.or_eq_false_iff]; exact ⟨decide_eq_false (by omega), decide_eq_false (by omega)⟩), HS.out⟩
    · have hne : (e1 == 0) = false := by simp [he]
      clear CS C1 C2 C3 C4
      go_wp2_with fail
      refine (rd_Err HS.out.r2).mono ?_
      rintro e wq ⟨rfl, rfl⟩
      go_wp2_with fail
      go_meet
      exact ⟨rfl, HS.out⟩
  case rest =>
  obtain ⟨rfl, HS⟩ := hcut
  go_upto_region 11 with fail
  go_cut [119] from 95 to 119 (fun s wc => s = .bool false ∧ Hid (OneS b A w.heap.size g1 k1 e1 x1.heap.size g2 x2.heap.size g3 k3 e3 x3.heap.size g4 k4 e4 A3 A4 y v w wc))
  case first =>
    by_cases he : e3 = 0
    · obtain ⟨q1, q2, q3⟩ := C3.out he
      have hn := HN.out
      subst he
      have HC := Lib.hid q3
      have f1 : ¬ (k3 : Int) < 0 := by omega
      have f1b : (0 : Int) ≤ (k3 : Int) := by omega
      have f2 : ¬ (N : Int) < (k3 : Int) := by omega
      have f2b : (k3 : Int) ≤ (N : Int) := by omega
      have f3 : (k3 : Int) ≤ (c : Int) := by omega
      have f4 : ¬ c = 0 := by omega
      have KS := Lib.hid (fun W A2 c2 c A' => CS.out W k3 A2 c2 c A' q2)
      obtain ⟨ad, eA, -⟩ := HS.out.a (by omega)
      subst eA
      clear q1 q2 q3 hn CS C1 C2 C3 C4
      go_wp2_with fail
      refine (rd_Err HS.out.r3).mono ?_
      rintro e wq ⟨rfl, rfl⟩
      go_wp2_with fail
      refine (rd_At HS.out.r3).mono ?_
      rintro e wq ⟨rfl, rfl⟩
      go_wp2_with fail
      refine (rd_At HS.out.r3).mono ?_
      rintro e wq ⟨rfl, rfl⟩
      go_wp2_with fail
      refine (HC.out _ _ _ HS.out.t HTn.out).mono ?_
      rintro e wq ⟨⟨A5, c5, rfl, h5⟩, hb⟩
      have H5 := Lib.hid h5
      have HS := Lib.hid (HS.out.up hb)
      clear h5 hb
      go_wp2_with fail
      refine (rd_At HS.out.r3).mono ?_
      rintro e wq ⟨rfl, rfl⟩
      go_wp2_with fail
      refine (KS.out _ _ _ _ _ H5.out HS.out.a).mono ?_
      rintro e wq ⟨rfl, rfl⟩
      go_wp2_with fail
      go_meet
      exact ⟨congrArg Value.bool (by rw [Bool.or_eq_false_iff]; exact ⟨decide_eq_false (by omega), decide_eq_false (by omega)⟩), HS.out⟩
    · have hne : (e3 == 0) = false := by simp [he]
      clear CS C1 C2 C3 C4
      go_wp2_with fail
      refine (rd_Err HS.out.r3).mono ?_
      rintro e wq ⟨rfl, rfl⟩
      go_wp2_with fail
      go_meet
      exact ⟨rfl, HS.out⟩
  case rest =>
  obtain ⟨rfl, HS⟩ := hcut
  by_cases he : e4 = 0
  · obtain ⟨q1, q2, q3⟩ := C4.out he
    have hn := HN.out
    subst he
    have HC := Lib.hid q3
    have f1 : ¬ (k4 : Int) < 0 := by omega
    have f1b : (0 : Int) ≤ (k4 : Int) := by omega
    have f2 : ¬ (N : Int) < (k4 : Int) := by omega
    have f2b : (k4 : Int) ≤ (N : Int) := by omega
    have f3 : (k4 : Int) ≤ (c : Int) := by omega
    have f4 : ¬ c = 0 := by omega
    have KS := Lib.hid (fun W A2 c2 c A' => CS.out W k4 A2 c2 c A' q2)
    obtain ⟨ad, eA, -⟩ := HS.out.a (by omega)
    subst eA
    clear q1 q2 q3 hn CS C1 C2 C3 C4
    go_wp2_with fail
    refine (rd_Err HS.out.r4).mono ?_
    rintro e wq ⟨rfl, rfl⟩
    go_wp2_with fail
    refine (rd_At HS.out.r4).mono ?_
    rintro e wq ⟨rfl, rfl⟩
    go_wp2_with fail
    refine (rd_At HS.out.r4).mono ?_
    rintro e wq ⟨rfl, rfl⟩
    go_wp2_with fail
    refine (HC.out _ _ _ HS.out.l).mono ?_
    rintro e wq ⟨⟨A5, c5, rfl, h5⟩, hb⟩
    have H5 := Lib.hid h5
    have HS := Lib.hid (HS.out.up hb)
    clear h5 hb
    go_wp2_with fail
    refine (rd_At HS.out.r4).mono ?_
    rintro e wq ⟨rfl, rfl⟩
    go_wp2_with fail
    refine (KS.out _ _ _ _ _ H5.out HS.out.a).mono ?_
    rintro e wq ⟨rfl, rfl⟩
    go_wp2_with fail
    refine (lives21 _).mono ?_
    rintro e wl ⟨rfl, hb⟩
    have HB := Lib.hid (HS.out.b.trans (hb.mono HS.out.b.size))
    clear hb
    go_wp2
    go_ret
    exact ⟨rfl, HB.out⟩
  · have hne : (e4 == 0) = false := by simp [he]
    clear CS C1 C2 C3 C4
    go_wp2_with fail
    refine (rd_Err HS.out.r4).mono ?_
    rintro e wq ⟨rfl, rfl⟩
    go_wp2_with fail
    refine (lives21 _).mono ?_
    rintro e wl ⟨rfl, hb⟩
    have HB := Lib.hid (HS.out.b.trans (hb.mono HS.out.b.size))
    clear hb
    go_wp2
    go_ret
    exact ⟨rfl, HB.out⟩

set_option maxRecDepth 100000 in
theorem lifted (os : Os) (started : os.Started) (H : Type) (enc : TypeId × Value → H) :
    ReturnsInHanded {} Try.checked os 11 .any (Rows.binOneSpec.pre6 enc Try.prog Try.f11 Rows.binOneRow.domain false) (Rows.binOneSpec.post enc Try.prog Try.f11 false true false false) := by
  refine returnsInHanded_of_change (C := Try.checked) own started (by kernel_rfl) Try.func11
    (ChangeSpec.witness6 (enc := enc) (C := Try.checked) false ⟨#[], #[.slice none 0 0], []⟩ 8 (by kernel_rfl) (by kernel_rfl) (by kernel_rfl) (by kernel_rfl)) ?_
  intro W base args ds gs before hval0 hW hcnd _
  have hval : ∀ (j : Nat) t v, Try.f11.params[j]? = some t → args[j]? = some v → Value.okWide Try.prog W .any base t v := hval0
  have hW' := hW
  obtain ⟨p, q, hA0, hV, rfl, hfz, hnd⟩ := hW
  obtain ⟨rfl, rfl⟩ := trodVars_none hV
  have hA : DataW.TrodAll enc Try.prog W 0 (fun _ => true) true Try.f11.params.toList args.toList ds p := hA0
  rw [Try.params11] at hA hval
  obtain ⟨v0, vs0, d0, ds0, p0, q0, hargs, rfl, rfl, h0, r0⟩ := trodAll_cons hA
  obtain ⟨rfl, rfl, rfl⟩ := trodAll_nil r0
  obtain rfl : args = #[v0] := by cases args; simp_all
  obtain ⟨A0, l0, c0, rfl, L0, I0, C0, M0, N0⟩ := open_bytes Try.underlying77 Try.underlying5 cells_u8 (hval 0 77 v0 rfl rfl) h0
  refine (walk A0 l0 c0 L0 I0 C0 M0 N0 W).mono fun e W' ⟨he, hg⟩ => ?_
  subst he
  exact ⟨_, rfl, law_post laid (by rw [Try.params11]; exact (by decide +kernel)) rfl (by kernel_rfl) Try.underlying4 rfl hW' hg⟩

theorem over : Rows.binOneRow.holds Try.pinned (OpenSpec.ofChange Rows.binOneSpec) :=
  OpenClaim.holds_of_wide 11 Try.f11 rfl rfl rfl rfl rfl rfl rfl ⟨rfl, rfl, rfl, rfl, rfl⟩ rfl rfl rfl rfl rfl (by kernel_rfl) Try.func11 (by kernel_rfl)
    (of_decide_eq_true (by kernel_rfl)) (by unfold Func.isWrapper; first | (rw [if_pos (by decide +kernel)]; kernel_rfl) | (rw [if_neg (by decide +kernel)]; exact ⟨rfl, rfl⟩))
    (fun os started H enc _ => lifted os started H enc)
theorem proved : Rows.BinOneSaid := over
end Go.Proofs.Ytdcemcpcjdkpjaa.binOne
