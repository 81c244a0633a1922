/- Statement SchedRights: whatever the input is, the Go function returns true and each argument reads as it did. No condition. -/
import Derived.Test.YtmfgegebnjpanaaRows
import Derived.Test.YtmfgegebnjpanaaSchN
import Derived.Test.YtmfgegebnjpanaaVecT
import Derived.Test.YtmfgegebnjpanaaBase
import Derived.ProofKit
import Derived.OpenShut
namespace Go.Proofs.Ytmfgegebnjpanaa.schedRights
open Go.ChangeShapes Go.WideShapes Go.ChangeAt Go.RowKit
set_option linter.unusedVariables false

theorem own : ownKnob Try.prog.godebug = none := by kernel_rfl
theorem laid : laidOutB Try.prog = true := by kernel_rfl

set_option maxRecDepth 100000 in
set_option maxHeartbeats 8000000 in
theorem walk (dim win tr sam ev kind part whole tries keep notes : Int) (hwh : I64 whole) {w : World} (n : Int) (hn : I64 n) (A : Option Addr) (b : List Int) (c : Nat) (hA : Lies w w.heap.size A b) (hb : ∀ x ∈ b, I64 x) (hc : b.length ≤ c) (hm : c ≤ 9223372036854775807) (_ : World) :
    Calls Try.prog 12 #[cfV dim win tr sam ev kind part whole tries keep notes, .int .i64 n, .slice A b.length c] w fun e w' => e = .returned (.bool true) ∧ Below w.heap.size w w' := by
  have HX := Lib.hid (Box.new w #[.int .i64 dim, .int .i64 win, .int .i64 tr, .int .i64 sam, .int .i64 ev, .int .i64 kind, .int .i64 part, .int .i64 whole, .int .i64 tries, .int .i64 keep, .int .i64 notes] 88)
  obtain ⟨y0, y1, y2, y3, y4, y5, y6, y7, y8, y9, y10⟩ := box11 HX.out
  have HB := Lib.hid ((Below.refl w.heap.size w).alloc (Nat.le_refl _) (.cells #[.int .i64 dim, .int .i64 win, .int .i64 tr, .int .i64 sam, .int .i64 ev, .int .i64 kind, .int .i64 part, .int .i64 whole, .int .i64 tries, .int .i64 keep, .int .i64 notes] 88))
  by_cases h1 : 60 < b.length
  · have h1' : (60 : Int) < (b.length : Int) := by omega
    clear hA hb
    generalize b.length = N at *
    go_enter Try.func12, Try.ntmps12
    go_wp2_with fail
    refine (lives20 _).mono ?_
    rintro e wl ⟨rfl, bl⟩
    have HBL := Lib.hid (HB.out.trans (bl.mono HB.out.size))
    clear bl
    go_wp2
    go_ret
    exact ⟨rfl, HBL.out⟩
  · have h1' : ¬ (60 : Int) < (b.length : Int) := by omega
    have HA := Lib.hid (fun W (h : Below w.heap.size w W) => (hA.below h).mono h.size)
    have K1 := Lib.hid (fun W (h : Lies W W.heap.size A b) => sch_Due dim win tr sam ev kind part whole tries keep notes hwh n hn A b c W h (by omega))
    have K2 := Lib.hid (fun W (h : Lies W W.heap.size A b) => ref20_Due dim win tr sam ev kind part whole tries keep notes n hn A b c W h (by omega))
    have K3 := Lib.hid (fun W => sch_Right dim win tr sam ev kind part whole tries keep notes hwh W)
    have K4 := Lib.hid (fun W => ref20_Right dim win tr sam ev kind part whole tries keep notes W)
    generalize decide (CfOk dim win tr sam ev kind part whole tries keep notes) = q at *
    unfold dueV at K1 K2
    generalize dueN q tr sam ev n b = N1 at *
    generalize dueB q tr sam ev n b = B1 at *
    have e1 : (N1 == N1) = true := by simp
    have e2 : (B1 == B1) = true := by simp
    have e3 : (q == q) = true := by simp
    clear hA hb
    generalize b.length = N at *
    go_enter Try.func12, Try.ntmps12
    go_wp2_with fail
    refine (K1.out _ (HA.out _ HB.out)).mono ?_
    rintro e w1 ⟨rfl, b⟩
    have HX := Lib.hid (HX.out.below b HX.out.lt)
    have HB := Lib.hid (HB.out.trans (b.mono HB.out.size))
    clear b y0 y1 y2 y3 y4 y5 y6 y7 y8 y9 y10
    obtain ⟨y0, y1, y2, y3, y4, y5, y6, y7, y8, y9, y10⟩ := box11 HX.out
    go_wp2_with fail
    refine (K2.out _ (HA.out _ HB.out)).mono ?_
    rintro e w2 ⟨rfl, b⟩
    have HX := Lib.hid (HX.out.below b HX.out.lt)
    have HB := Lib.hid (HB.out.trans (b.mono HB.out.size))
    clear b y0 y1 y2 y3 y4 y5 y6 y7 y8 y9 y10
    obtain ⟨y0, y1, y2, y3, y4, y5, y6, y7, y8, y9, y10⟩ := box11 HX.out
    go_wp2
    have HX := Lib.hid (HX.out.drewN 1)
    have HB := Lib.hid (below_drewN2 HB.out 1)
    clear y0 y1 y2 y3 y4 y5 y6 y7 y8 y9 y10 HA K1 K2
    obtain ⟨y0, y1, y2, y3, y4, y5, y6, y7, y8, y9, y10⟩ := box11 HX.out
    rw [show w2.drewN 1 = w2.drew from rfl] at *
    go_region_held3 (fun W => W.cell? ⟨w.heap.size, 0, none⟩ = some (.int .i64 dim) ∧ W.cell? ⟨w.heap.size, 1, none⟩ = some (.int .i64 win) ∧ W.cell? ⟨w.heap.size, 2, none⟩ = some (.int .i64 tr) ∧ W.cell? ⟨w.heap.size, 3, none⟩ = some (.int .i64 sam) ∧ W.cell? ⟨w.heap.size, 4, none⟩ = some (.int .i64 ev) ∧ W.cell? ⟨w.heap.size, 5, none⟩ = some (.int .i64 kind) ∧ W.cell? ⟨w.heap.size, 6, none⟩ = some (.int .i64 part) ∧ W.cell? ⟨w.heap.size, 7, none⟩ = some (.int .i64 whole) ∧ W.cell? ⟨w.heap.size, 8, none⟩ = some (.int .i64 tries) ∧ W.cell? ⟨w.heap.size, 9, none⟩ = some (.int .i64 keep) ∧ W.cell? ⟨w.heap.size, 10, none⟩ = some (.int .i64 notes)) (go_keep)
      (first
        | (go_at_call 60; refine (K3.out _).mono ?_; rintro e w5 ⟨rfl, b5⟩; have HX := Lib.hid (HX.out.below b5 HX.out.lt); have HB := Lib.hid (HB.out.trans (b5.mono HB.out.size)); obtain ⟨y0, y1, y2, y3, y4, y5, y6, y7, y8, y9, y10⟩ := box11 HX.out; clear b5)
        | (go_at_call 61; refine (K4.out _).mono ?_; rintro e w5 ⟨rfl, b5⟩; have HX := Lib.hid (HX.out.below b5 HX.out.lt); have HB := Lib.hid (HB.out.trans (b5.mono HB.out.size)); obtain ⟨y0, y1, y2, y3, y4, y5, y6, y7, y8, y9, y10⟩ := box11 HX.out; clear b5)
        | (go_at_call 57; refine (lives20 _).mono ?_; rintro e w5 ⟨rfl, b5⟩; have HX := Lib.hid (HX.out.below b5 HX.out.lt); have HB := Lib.hid (HB.out.trans (b5.mono HB.out.size)); obtain ⟨y0, y1, y2, y3, y4, y5, y6, y7, y8, y9, y10⟩ := box11 HX.out; clear b5))
    all_goals
      go_wp2
      go_ret
      exact ⟨rfl, HB.out⟩

set_option maxRecDepth 100000 in
theorem lifted (os : Os) (started : os.Started) (H : Type) (enc : TypeId × Value → H) :
    ReturnsInHanded {} Try.checked os 12 .any (Rows.schedRightsSpec.pre6 enc Try.prog Try.f12 Rows.schedRightsRow.domain false) (Rows.schedRightsSpec.post enc Try.prog Try.f12 false true false false) := by
  refine returnsInHanded_of_change (C := Try.checked) own started (by kernel_rfl) Try.func12
    (ChangeSpec.witness6 (enc := enc) (C := Try.checked) false ⟨#[], #[.agg #[.int .i64 0, .int .i64 0, .int .i64 0, .int .i64 0, .int .i64 0, .int .i64 0, .int .i64 0, .int .i64 0, .int .i64 0, .int .i64 0, .int .i64 0], .int .i64 0, .slice none 0 0], []⟩ 8 (by kernel_rfl) (by kernel_rfl) (by kernel_rfl) (by kernel_rfl)) ?_
  intro W base args ds gs before hval0 hW hcnd _
  have hval : ∀ (j : Nat) t v, Try.f12.params[j]? = some t → args[j]? = some v → Value.okWide Try.prog W .any base t v := hval0
  have hW' := hW
  obtain ⟨p, q, hA0, hV, rfl, hfz, hnd⟩ := hW
  obtain ⟨rfl, rfl⟩ := trodVars_none hV
  have hA : DataW.TrodAll enc Try.prog W 0 (fun _ => true) true Try.f12.params.toList args.toList ds p := hA0
  rw [Try.params12] at hA hval
  obtain ⟨v0, vs0, d0, ds0, p0, q0, hargs, rfl, rfl, h0, r0⟩ := trodAll_cons hA
  obtain ⟨v1, vs1, d1, ds1, p1, q1, rfl, rfl, rfl, h1, r1⟩ := trodAll_cons r0
  obtain ⟨v2, vs2, d2, ds2, p2, q2, rfl, rfl, rfl, h2, r2⟩ := trodAll_cons r1
  obtain ⟨rfl, rfl, rfl⟩ := trodAll_nil r2
  obtain rfl : args = #[v0, v1, v2] := by cases args; simp_all
  obtain ⟨dim0, win0, tr0, sam0, ev0, kind0, part0, whole0, tries0, keep0, notes0, rfl, W0⟩ := open_conf (hval 0 88 v0 rfl rfl) h0
  obtain ⟨a1, rfl, _, _, w1⟩ := open_int Try.underlying3 (hval 1 3 v1 rfl rfl) h1
  obtain ⟨A2, l2, c2, rfl, L2, I2, C2, M2⟩ := open_ints8 Try.underlying30 Try.underlying3 cells_i8 (hval 2 30 v2 rfl rfl) h2
  refine (walk dim0 win0 tr0 sam0 ev0 kind0 part0 whole0 tries0 keep0 notes0 W0 a1 (i64_of_wf w1) A2 l2 c2 L2 I2 C2 M2 W).mono fun e W' ⟨he, hg⟩ => ?_
  subst he
  exact ⟨_, rfl, law_post laid (by rw [Try.params12]; exact (by decide +kernel)) rfl (by kernel_rfl) Try.underlying4 rfl hW' hg⟩

theorem over : Rows.schedRightsRow.holds Try.pinned (OpenSpec.ofChange Rows.schedRightsSpec) :=
  OpenClaim.holds_of_wide 12 Try.f12 rfl rfl rfl rfl rfl rfl rfl ⟨rfl, rfl, rfl, rfl, rfl⟩ rfl rfl rfl rfl rfl (by kernel_rfl) Try.func12 (by kernel_rfl)
    (of_decide_eq_true (by kernel_rfl)) (by unfold Func.isWrapper; first | (rw [if_pos (by decide +kernel)]; kernel_rfl) | (rw [if_neg (by decide +kernel)]; exact ⟨rfl, rfl⟩))
    (fun os started H enc _ => lifted os started H enc)
theorem proved : Rows.SchedRightsSaid := over
end Go.Proofs.Ytmfgegebnjpanaa.schedRights
