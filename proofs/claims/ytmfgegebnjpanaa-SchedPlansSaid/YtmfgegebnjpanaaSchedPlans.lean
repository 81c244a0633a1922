/- Statement SchedPlans: whatever the input is, the Go function returns true and each argument reads as it did. No condition. -/
import Derived.Test.YtmfgegebnjpanaaRows
import Derived.Test.YtmfgegebnjpanaaSchN
import Derived.Test.YtmfgegebnjpanaaVecT
import Derived.Test.YtmfgegebnjpanaaBase
import Derived.ProofKit
import Derived.OpenShut
namespace Go.Proofs.Ytmfgegebnjpanaa.schedPlans
open Go.ChangeShapes Go.WideShapes Go.ChangeAt Go.RowKit
set_option linter.unusedVariables false

theorem own : ownKnob Try.prog.godebug = none := by kernel_rfl
theorem laid : laidOutB Try.prog = true := by kernel_rfl

theorem plB_grow (T : Nat) (ev X : Int) (b : List Int) (k : Nat) : (plB T ev X b k).length ≤ b.length + k := by
  induction k with
  | zero => exact Nat.le_refl _
  | succ k ih =>
    show (bornV _ _ _).length ≤ _
    unfold bornV
    split <;> simp <;> omega
set_option maxRecDepth 100000 in
set_option maxHeartbeats 8000000 in
theorem walk (dim win tr sam ev kind part whole tries keep notes : Int) (hwh : I64 whole) {w : World} (n : Int) (hn : I64 n) (A : Option Addr) (b : List Int) (c : Nat) (hA : Lies w w.heap.size A b) (hb : ∀ x ∈ b, I64 x) (hc : b.length ≤ c) (hm : c ≤ 9223372036854775807) (t : Int) (ht : I64 t) (_ : World) :
    Calls Try.prog 14 #[cfV dim win tr sam ev kind part whole tries keep notes, .int .i64 n, .slice A b.length c, .int .i64 t] w fun e w' => e = .returned (.bool true) ∧ Below w.heap.size w w' := by
  have HX := Lib.hid (Box.new w #[.int .i64 dim, .int .i64 win, .int .i64 tr, .int .i64 sam, .int .i64 ev, .int .i64 kind, .int .i64 part, .int .i64 whole, .int .i64 tries, .int .i64 keep, .int .i64 notes] 88)
  obtain ⟨y0, y1, y2, y3, y4, y5, y6, y7, y8, y9, y10⟩ := box11 HX.out
  have HB := Lib.hid ((Below.refl w.heap.size w).alloc (Nat.le_refl _) (.cells #[.int .i64 dim, .int .i64 win, .int .i64 tr, .int .i64 sam, .int .i64 ev, .int .i64 kind, .int .i64 part, .int .i64 whole, .int .i64 tries, .int .i64 keep, .int .i64 notes] 88))
  by_cases h1 : 60 < b.length
  · have h1' : (60 : Int) < (b.length : Int) := by omega
    clear hA hb
    generalize b.length = N at *
    go_enter Try.func14, Try.ntmps14
    go_wp2_with fail
    refine (lives20 _).mono ?_
    rintro e wl ⟨rfl, bl⟩
    have HBL := Lib.hid (HB.out.trans (bl.mono HB.out.size))
    clear bl
    go_wp2
    go_ret
    exact ⟨rfl, HBL.out⟩
  · have h1' : ¬ (60 : Int) < (b.length : Int) := by omega
    have HA := Lib.hid (fun W (h : Below w.heap.size w W) => (hA.below h).mono h.size)
    have K1 := Lib.hid (fun W (h : Lies W W.heap.size A b) => sch_Plan dim win tr sam ev kind part whole tries keep notes hwh n b t A c W h (by omega))
    have K2 := Lib.hid (fun W (h : Lies W W.heap.size A b) => ref20_Plan dim win tr sam ev kind part whole tries keep notes n b t A c W h (by omega))
    generalize decide (CfOk dim win tr sam ev kind part whole tries keep notes) = q at *
    have hlI : (plIL q tr sam ev n b t).length ≤ 1000 := by
      unfold plIL; split
      · rename_i h; rw [plI_len]; have := h.2.2.2; omega
      · simp
    have hlB : (plBL q tr sam ev n b t).length ≤ 9223372036854775807 := by
      unfold plBL; split
      · rename_i h
        have h2 := plB_len (ev := ev) (n := nextV sam ev n) h.2.2.1.1 t.toNat
        have h3 : b.length ≤ tr.toNat := h.2.2.1.1
        by_cases g : tr.toNat ≤ 9223372036854775807
        · omega
        · have := plB_grow tr.toNat ev (nextV sam ev n) b t.toNat
          have := h.2.2.2
          omega
      · simp
    unfold GivesP20 GivesPl at K1 K2
    generalize plIL q tr sam ev n b t = I at *
    generalize plBL q tr sam ev n b t = L at *
    generalize plE q tr n b t = E1 at *
    have KS := Lib.hid (fun (l : List Int) (h0 : (l.length : Int) ≤ 9223372036854775807) W A2 A3 c2 c3 (h : Lies W W.heap.size A2 l) (h2 : Lies W W.heap.size A3 l) => ref_same1 A2 A3 l l c2 c3 W.heap.size W h h2 h0 h0)
    have KS1 := Lib.hid (KS.out I (by omega))
    have KS2 := Lib.hid (KS.out L (by omega))
    rw [decide_eq_true (p := I = I) rfl] at KS1
    rw [decide_eq_true (p := L = L) rfl] at KS2
    have e1 : (E1 == E1) = true := by simp
    clear hA hb KS
    generalize b.length = N at *
    go_enter Try.func14, Try.ntmps14
    go_wp2_with fail
    refine (K1.out _ (HA.out _ HB.out)).mono ?_
    rintro e w1 ⟨A1, c1, A2, c2, rfl, L1, L2, b⟩
    have HX := Lib.hid (HX.out.below b HX.out.lt)
    have HB := Lib.hid (HB.out.trans (b.mono HB.out.size))
    have L1 := Lib.hid L1
    have L2 := Lib.hid L2
    clear b y0 y1 y2 y3 y4 y5 y6 y7 y8 y9 y10
    obtain ⟨y0, y1, y2, y3, y4, y5, y6, y7, y8, y9, y10⟩ := box11 HX.out
    go_wp2_with fail
    refine (K2.out _ (HA.out _ HB.out)).mono ?_
    rintro e w2 ⟨A3, c3, A4, c4, rfl, L3, L4, b⟩
    have HX := Lib.hid (HX.out.below b HX.out.lt)
    have HB := Lib.hid (HB.out.trans (b.mono HB.out.size))
    have L1 := Lib.hid (lies20 L1.out b)
    have L2 := Lib.hid (lies20 L2.out b)
    have L3 := Lib.hid L3
    have L4 := Lib.hid L4
    clear b y0 y1 y2 y3 y4 y5 y6 y7 y8 y9 y10
    obtain ⟨y0, y1, y2, y3, y4, y5, y6, y7, y8, y9, y10⟩ := box11 HX.out
    go_wp2_with fail
    refine (KS1.out _ _ _ _ _ L1.out L3.out).mono ?_
    rintro e w3 ⟨rfl, hw⟩
    have b := belq20 hw
    have HB := Lib.hid (HB.out.trans (b.mono HB.out.size))
    have L2 := Lib.hid (lies20 L2.out b)
    have L4 := Lib.hid (lies20 L4.out b)
    clear b hw y0 y1 y2 y3 y4 y5 y6 y7 y8 y9 y10 HX
    go_wp2_with fail
    refine (KS2.out _ _ _ _ _ L2.out L4.out).mono ?_
    rintro e w4 ⟨rfl, hw⟩
    have b := belq20 hw
    have HB := Lib.hid (HB.out.trans (b.mono HB.out.size))
    clear b hw
    go_wp2_with fail
    refine (lives20 _).mono ?_
    rintro e wl ⟨rfl, bl⟩
    have HBL := Lib.hid (HB.out.trans (bl.mono HB.out.size))
    clear bl
    go_wp2
    go_ret
    exact ⟨rfl, HBL.out⟩

set_option maxRecDepth 100000 in
theorem lifted (os : Os) (started : os.Started) (H : Type) (enc : TypeId × Value → H) :
    ReturnsInHanded {} Try.checked os 14 .any (Rows.schedPlansSpec.pre6 enc Try.prog Try.f14 Rows.schedPlansRow.domain false) (Rows.schedPlansSpec.post enc Try.prog Try.f14 false true false false) := by
  refine returnsInHanded_of_change (C := Try.checked) own started (by kernel_rfl) Try.func14
    (ChangeSpec.witness6 (enc := enc) (C := Try.checked) false ⟨#[], #[.agg #[.int .i64 0, .int .i64 0, .int .i64 0, .int .i64 0, .int .i64 0, .int .i64 0, .int .i64 0, .int .i64 0, .int .i64 0, .int .i64 0, .int .i64 0], .int .i64 0, .slice none 0 0, .int .i64 0], []⟩ 8 (by kernel_rfl) (by kernel_rfl) (by kernel_rfl) (by kernel_rfl)) ?_
  intro W base args ds gs before hval0 hW hcnd _
  have hval : ∀ (j : Nat) t v, Try.f14.params[j]? = some t → args[j]? = some v → Value.okWide Try.prog W .any base t v := hval0
  have hW' := hW
  obtain ⟨p, q, hA0, hV, rfl, hfz, hnd⟩ := hW
  obtain ⟨rfl, rfl⟩ := trodVars_none hV
  have hA : DataW.TrodAll enc Try.prog W 0 (fun _ => true) true Try.f14.params.toList args.toList ds p := hA0
  rw [Try.params14] at hA hval
  obtain ⟨v0, vs0, d0, ds0, p0, q0, hargs, rfl, rfl, h0, r0⟩ := trodAll_cons hA
  obtain ⟨v1, vs1, d1, ds1, p1, q1, rfl, rfl, rfl, h1, r1⟩ := trodAll_cons r0
  obtain ⟨v2, vs2, d2, ds2, p2, q2, rfl, rfl, rfl, h2, r2⟩ := trodAll_cons r1
  obtain ⟨v3, vs3, d3, ds3, p3, q3, rfl, rfl, rfl, h3, r3⟩ := trodAll_cons r2
  obtain ⟨rfl, rfl, rfl⟩ := trodAll_nil r3
  obtain rfl : args = #[v0, v1, v2, v3] := by cases args; simp_all
  obtain ⟨dim0, win0, tr0, sam0, ev0, kind0, part0, whole0, tries0, keep0, notes0, rfl, W0⟩ := open_conf (hval 0 88 v0 rfl rfl) h0
  obtain ⟨a1, rfl, _, _, w1⟩ := open_int Try.underlying3 (hval 1 3 v1 rfl rfl) h1
  obtain ⟨A2, l2, c2, rfl, L2, I2, C2, M2⟩ := open_ints8 Try.underlying30 Try.underlying3 cells_i8 (hval 2 30 v2 rfl rfl) h2
  obtain ⟨a3, rfl, _, _, w3⟩ := open_int Try.underlying3 (hval 3 3 v3 rfl rfl) h3
  refine (walk dim0 win0 tr0 sam0 ev0 kind0 part0 whole0 tries0 keep0 notes0 W0 a1 (i64_of_wf w1) A2 l2 c2 L2 I2 C2 M2 a3 (i64_of_wf w3) W).mono fun e W' ⟨he, hg⟩ => ?_
  subst he
  exact ⟨_, rfl, law_post laid (by rw [Try.params14]; exact (by decide +kernel)) rfl (by kernel_rfl) Try.underlying4 rfl hW' hg⟩

theorem over : Rows.schedPlansRow.holds Try.pinned (OpenSpec.ofChange Rows.schedPlansSpec) :=
  OpenClaim.holds_of_wide 14 Try.f14 rfl rfl rfl rfl rfl rfl rfl ⟨rfl, rfl, rfl, rfl, rfl⟩ rfl rfl rfl rfl rfl (by kernel_rfl) Try.func14 (by kernel_rfl)
    (of_decide_eq_true (by kernel_rfl)) (by unfold Func.isWrapper; first | (rw [if_pos (by decide +kernel)]; kernel_rfl) | (rw [if_neg (by decide +kernel)]; exact ⟨rfl, rfl⟩))
    (fun os started H enc _ => lifted os started H enc)
theorem proved : Rows.SchedPlansSaid := over
end Go.Proofs.Ytmfgegebnjpanaa.schedPlans
