/- Statement SchedNexts: whatever the input is, the Go function returns true and each argument reads as it did. No condition. -/
import Derived.Test.YtmfgegebnjpanaaRows
import Derived.Test.YtmfgegebnjpanaaSchN
import Derived.Test.YtmfgegebnjpanaaVecT
import Derived.Test.YtmfgegebnjpanaaBase
import Derived.ProofKit
import Derived.OpenShut
namespace Go.Proofs.Ytmfgegebnjpanaa.schedNexts
open Go.ChangeShapes Go.WideShapes Go.ChangeAt Go.RowKit
set_option linter.unusedVariables false

theorem own : ownKnob Try.prog.godebug = none := by kernel_rfl
theorem laid : laidOutB Try.prog = true := by kernel_rfl

set_option maxRecDepth 100000 in
set_option maxHeartbeats 8000000 in
theorem walk (dim win tr sam ev kind part whole tries keep notes : Int) (hwh : I64 whole) {w : World} (n : Int) (hn : I64 n) (t : Int) (ht : I64 t) (_ : World) :
    Calls Try.prog 13 #[cfV dim win tr sam ev kind part whole tries keep notes, .int .i64 n, .int .i64 t] w fun e w' => e = .returned (.bool true) ∧ Below w.heap.size w w' := by
  have HX := Lib.hid (Box.new w #[.int .i64 dim, .int .i64 win, .int .i64 tr, .int .i64 sam, .int .i64 ev, .int .i64 kind, .int .i64 part, .int .i64 whole, .int .i64 tries, .int .i64 keep, .int .i64 notes] 88)
  obtain ⟨y0, y1, y2, y3, y4, y5, y6, y7, y8, y9, y10⟩ := box11 HX.out
  have HB := Lib.hid ((Below.refl w.heap.size w).alloc (Nat.le_refl _) (.cells #[.int .i64 dim, .int .i64 win, .int .i64 tr, .int .i64 sam, .int .i64 ev, .int .i64 kind, .int .i64 part, .int .i64 whole, .int .i64 tries, .int .i64 keep, .int .i64 notes] 88))
  have K1 := Lib.hid (fun W => sch_Next dim win tr sam ev kind part whole tries keep notes hwh n W)
  have K2 := Lib.hid (fun W => ref20_Next dim win tr sam ev kind part whole tries keep notes n W)
  have K3 := Lib.hid (fun W => sch_Turns dim win tr sam ev kind part whole tries keep notes hwh n t W)
  have K4 := Lib.hid (fun W => ref20_Turns dim win tr sam ev kind part whole tries keep notes n t W)
  generalize decide (CfOk dim win tr sam ev kind part whole tries keep notes) = q at *
  unfold nxV at K1 K2
  unfold tuV at K3 K4
  generalize nxN q sam ev n = N1 at *
  generalize nxE q n = E1 at *
  generalize tuN q sam ev n t = N2 at *
  generalize tuE q n t = E2 at *
  have e1 : (N1 == N1) = true := by simp
  have e2 : (E1 == E1) = true := by simp
  have e3 : (N2 == N2) = true := by simp
  have e4 : (E2 == E2) = true := by simp
  go_enter Try.func13, Try.ntmps13
  go_wp2_with fail
  refine (K1.out _).mono ?_
  rintro e w1 ⟨rfl, b⟩
  have HX := Lib.hid (HX.out.below b HX.out.lt)
  have HB := Lib.hid (HB.out.trans (b.mono HB.out.size))
  clear b y0 y1 y2 y3 y4 y5 y6 y7 y8 y9 y10
  obtain ⟨y0, y1, y2, y3, y4, y5, y6, y7, y8, y9, y10⟩ := box11 HX.out
  go_wp2_with fail
  refine (K2.out _).mono ?_
  rintro e w2 ⟨rfl, b⟩
  have HX := Lib.hid (HX.out.below b HX.out.lt)
  have HB := Lib.hid (HB.out.trans (b.mono HB.out.size))
  clear b y0 y1 y2 y3 y4 y5 y6 y7 y8 y9 y10
  obtain ⟨y0, y1, y2, y3, y4, y5, y6, y7, y8, y9, y10⟩ := box11 HX.out
  go_wp2_with fail
  refine (K3.out _).mono ?_
  rintro e w3 ⟨rfl, b⟩
  have HX := Lib.hid (HX.out.below b HX.out.lt)
  have HB := Lib.hid (HB.out.trans (b.mono HB.out.size))
  clear b y0 y1 y2 y3 y4 y5 y6 y7 y8 y9 y10
  obtain ⟨y0, y1, y2, y3, y4, y5, y6, y7, y8, y9, y10⟩ := box11 HX.out
  go_wp2_with fail
  refine (K4.out _).mono ?_
  rintro e w4 ⟨rfl, b⟩
  have HX := Lib.hid (HX.out.below b HX.out.lt)
  have HB := Lib.hid (HB.out.trans (b.mono HB.out.size))
  clear b y0 y1 y2 y3 y4 y5 y6 y7 y8 y9 y10
  obtain ⟨y0, y1, y2, y3, y4, y5, y6, y7, y8, y9, y10⟩ := box11 HX.out
  go_wp2_with fail
  refine (lives20 _).mono ?_
  rintro e wl ⟨rfl, bl⟩
  have HBL := Lib.hid (HB.out.trans (bl.mono HB.out.size))
  clear bl
  go_wp2
  go_ret
  exact ⟨rfl, HBL.out⟩

set_option maxRecDepth 100000 in
theorem lifted (os : Os) (started : os.Started) (H : Type) (enc : TypeId × Value → H) :
    ReturnsInHanded {} Try.checked os 13 .any (Rows.schedNextsSpec.pre6 enc Try.prog Try.f13 Rows.schedNextsRow.domain false) (Rows.schedNextsSpec.post enc Try.prog Try.f13 false true false false) := by
  refine returnsInHanded_of_change (C := Try.checked) own started (by kernel_rfl) Try.func13
    (ChangeSpec.witness6 (enc := enc) (C := Try.checked) false ⟨#[], #[.agg #[.int .i64 0, .int .i64 0, .int .i64 0, .int .i64 0, .int .i64 0, .int .i64 0, .int .i64 0, .int .i64 0, .int .i64 0, .int .i64 0, .int .i64 0], .int .i64 0, .int .i64 0], []⟩ 8 (by kernel_rfl) (by kernel_rfl) (by kernel_rfl) (by kernel_rfl)) ?_
  intro W base args ds gs before hval0 hW hcnd _
  have hval : ∀ (j : Nat) t v, Try.f13.params[j]? = some t → args[j]? = some v → Value.okWide Try.prog W .any base t v := hval0
  have hW' := hW
  obtain ⟨p, q, hA0, hV, rfl, hfz, hnd⟩ := hW
  obtain ⟨rfl, rfl⟩ := trodVars_none hV
  have hA : DataW.TrodAll enc Try.prog W 0 (fun _ => true) true Try.f13.params.toList args.toList ds p := hA0
  rw [Try.params13] at hA hval
  obtain ⟨v0, vs0, d0, ds0, p0, q0, hargs, rfl, rfl, h0, r0⟩ := trodAll_cons hA
  obtain ⟨v1, vs1, d1, ds1, p1, q1, rfl, rfl, rfl, h1, r1⟩ := trodAll_cons r0
  obtain ⟨v2, vs2, d2, ds2, p2, q2, rfl, rfl, rfl, h2, r2⟩ := trodAll_cons r1
  obtain ⟨rfl, rfl, rfl⟩ := trodAll_nil r2
  obtain rfl : args = #[v0, v1, v2] := by cases args; simp_all
  obtain ⟨dim0, win0, tr0, sam0, ev0, kind0, part0, whole0, tries0, keep0, notes0, rfl, W0⟩ := open_conf (hval 0 88 v0 rfl rfl) h0
  obtain ⟨a1, rfl, _, _, w1⟩ := open_int Try.underlying3 (hval 1 3 v1 rfl rfl) h1
  obtain ⟨a2, rfl, _, _, w2⟩ := open_int Try.underlying3 (hval 2 3 v2 rfl rfl) h2
  refine (walk dim0 win0 tr0 sam0 ev0 kind0 part0 whole0 tries0 keep0 notes0 W0 a1 (i64_of_wf w1) a2 (i64_of_wf w2) W).mono fun e W' ⟨he, hg⟩ => ?_
  subst he
  exact ⟨_, rfl, law_post laid (by rw [Try.params13]; exact (by decide +kernel)) rfl (by kernel_rfl) Try.underlying4 rfl hW' hg⟩

theorem over : Rows.schedNextsRow.holds Try.pinned (OpenSpec.ofChange Rows.schedNextsSpec) :=
  OpenClaim.holds_of_wide 13 Try.f13 rfl rfl rfl rfl rfl rfl rfl ⟨rfl, rfl, rfl, rfl, rfl⟩ rfl rfl rfl rfl rfl (by kernel_rfl) Try.func13 (by kernel_rfl)
    (of_decide_eq_true (by kernel_rfl)) (by unfold Func.isWrapper; first | (rw [if_pos (by decide +kernel)]; kernel_rfl) | (rw [if_neg (by decide +kernel)]; exact ⟨rfl, rfl⟩))
    (fun os started H enc _ => lifted os started H enc)
theorem proved : Rows.SchedNextsSaid := over
end Go.Proofs.Ytmfgegebnjpanaa.schedNexts
