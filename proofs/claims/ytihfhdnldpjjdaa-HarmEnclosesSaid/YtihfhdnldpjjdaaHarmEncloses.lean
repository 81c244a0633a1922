/- Statement HarmEncloses: whatever the input is, the Go function returns true and each argument reads as it did. No condition. -/
import Derived.Test.YtihfhdnldpjjdaaRows
import Derived.Test.YtihfhdnldpjjdaaHarmG
import Derived.Test.YtihfhdnldpjjdaaBase
import Derived.ProofKit
import Derived.OpenShut
namespace Go.Proofs.Ytihfhdnldpjjdaa.harmEncloses
open Go.ChangeShapes Go.WideShapes Go.ChangeAt Go.RowKit
set_option linter.unusedVariables false

theorem own : ownKnob Try.prog.godebug = none := by kernel_rfl
theorem laid : laidOutB Try.prog = true := by kernel_rfl

theorem cmpI_le' {x y : Int} (h : x ≤ y) : cmpI x y ≤ 0 := by unfold cmpI; split <;> (try split) <;> omega
set_option maxHeartbeats 4000000 in
theorem walk (n : Int) (hn : I64 n) (w : World) :
    Calls Try.prog 4 #[.int .i64 n] w fun e w' => e = .returned (.bool true) ∧ Below w.heap.size w w' := by
  have K3 := Lib.hid (harm_low n)
  have K4 := Lib.hid (harm_high n)
  have KH := Lib.hid (ref5_held n)
  have hH := heldN_le n
  generalize heldN n = m at *
  have KS := Lib.hid (law_sum m hH)
  have hs := sum_bds hH
  have hhl := high_low m
  have g1 := enclose_lo m
  have g2 := enclose_hi m
  have h1 := lowF_lt (k := m) hH
  have h2 := topF_lt (k := m) hH
  have h5 := lowF_pos m
  have h6 := topF_nonneg m
  have hp := pw_257_400
  have hp2 := pw_pos 257
  have hp3 := pw_pos 258
  have hp4 := pw_mono (show 257 ≤ 258 by omega)
  have p1 : (1000000000000 : Int) < pw 400 := by
    have : pw 10 ≤ pw 400 := pw_mono (by omega)
    have : (1000000000000 : Int) < pw 10 := by unfold pw; decide +kernel
    omega
  have p3 : pw 10 * pw 258 < pw 400 := by
    rw [← pw_add]
    have h3 : pw (10 + 258) ≤ pw 399 := pw_mono (by omega)
    have h4 : pw 400 = pw 399 * 65536 := pw_s 399
    have h5 := pw_pos 399
    omega
  have p2 : (1000000000000 : Int) < pw 10 := by unfold pw; decide +kernel
  have m1 : lowN m * lowF m < pw 400 := by
    have a1 := Int.mul_le_mul_of_nonneg_right (show lowN m ≤ pw 10 by omega) (show 0 ≤ lowF m by omega)
    have a2 := Int.mul_le_mul_of_nonneg_left (show lowF m ≤ pw 258 by omega) (show 0 ≤ pw 10 by omega)
    omega
  have m2 : topF m * 1073741824 < pw 400 := by
    have a1 := Int.mul_le_mul_of_nonneg_left (show (1073741824 : Int) ≤ pw 10 by omega) h6
    have a2 := Int.mul_le_mul_of_nonneg_right (show topF m ≤ pw 258 by omega) (show 0 ≤ pw 10 by omega)
    rw [Int.mul_comm (pw 258)] at a2
    omega
  have L400 : lowF m < pw 400 := by omega
  have T400 : topF m < pw 400 := by omega
  have c1 := cmpI_le' g1
  have c2 := cmpI_le' g2
  have q1 : IntKind.u64.wrap (lowN m) = lowN m := by simp only [u64w]; omega
  have q2 : IntKind.u64.wrap (highN m) = highN m := by simp only [u64w]; omega
  have u1 : U64 (lowN m) := by unfold U64; omega
  have u2 : U64 (highN m) := by unfold U64; omega
  have l400 : lowN m < pw 400 := by omega
  have H400 : highN m < pw 400 := by omega
  have U400 : (1073741824 : Int) < pw 400 := by omega
  clear g1 g2 h1 h2 hp hp2 hp3 hp4 p1 p2 p3
  obtain ⟨⟨s1, s2⟩, s3, s4⟩ := hs
  obtain ⟨d1, d2⟩ := hhl
  have d3 : ¬ (m : Int) < highN m - lowN m := by omega
  have d4 : ¬ highN m < lowN m := by omega
  go_enter Try.func4, Try.ntmps4
  go_wp2_with fail
  refine (K3.out _).mono ?_
  rintro e w1 ⟨rfl, b1⟩
  go_wp2_with fail
  refine (K4.out _).mono ?_
  rintro e w2 ⟨rfl, b2⟩
  have c2' := b1.trans (b2.mono b1.size)
  go_wp2_with fail
  refine (KH.out _).mono ?_
  rintro e w3 ⟨rfl, rfl⟩
  go_wp2_with fail
  refine (KH.out _).mono ?_
  rintro e w3 ⟨rfl, rfl⟩
  go_wp2_with fail
  refine (KS.out _).mono ?_
  rintro e w3 ⟨vt, vl, rfl, BT, BL, b3⟩
  have c3 := c2'.trans (b3.mono c2'.size)
  go_wp2_with fail
  refine (big_of 1073741824 (by unfold U64; omega) _).mono ?_
  rintro e w4 ⟨v4, rfl, B4, b4⟩
  have c4 := c3.trans (b4.mono c3.size)
  go_wp2_with fail
  refine (bigl_times (BT.below b4) B4 T400 U400).mono ?_
  rintro e w5 ⟨vm, rfl, BM, b5⟩
  have c5 := c4.trans (b5.mono c4.size)
  have BL5 := (BL.below b4).below b5
  go_wp2_with fail
  refine (big_of (lowN m) u1 _).mono ?_
  rintro e w6 ⟨v6, rfl, B6, b6⟩
  have c6 := c5.trans (b6.mono c5.size)
  go_wp2_with fail
  refine (bigl_times B6 (BL5.below b6) l400 L400).mono ?_
  rintro e w7 ⟨v7, rfl, B7, b7⟩
  have c7 := c6.trans (b7.mono c6.size)
  have BM7 := (BM.below b6).below b7
  go_wp2_with fail
  refine (bigl_order B7 BM7 m1).mono ?_
  rintro e w8 ⟨rfl, b8⟩
  have c8 := c7.trans (b8.mono c7.size)
  have BM8 := BM7.below b8
  have BL8 := ((BL5.below b6).below b7).below b8
  generalize cmpI (lowN m * lowF m) (topF m * 1073741824) = z1 at *
  go_wp2_with fail
  refine (big_of (highN m) u2 _).mono ?_
  rintro e w9 ⟨v9, rfl, B9, b9⟩
  have c9 := c8.trans (b9.mono c8.size)
  go_wp2_with fail
  refine (bigl_times B9 (BL8.below b9) H400 L400).mono ?_
  rintro e w10 ⟨v10, rfl, B10, b10⟩
  have c10 := c9.trans (b10.mono c9.size)
  go_wp2_with fail
  refine (bigl_order ((BM8.below b9).below b10) B10 m2).mono ?_
  rintro e w11 ⟨rfl, b11⟩
  have c11 := c10.trans (b11.mono c10.size)
  generalize cmpI (topF m * 1073741824) (highN m * lowF m) = z2 at *
  go_wp2_with fail
  refine (lives5 _).mono ?_
  rintro e w12 ⟨rfl, b12⟩
  go_wp2
  go_ret
  exact ⟨rfl, c11.trans (b12.mono c11.size)⟩

set_option maxRecDepth 100000 in
theorem lifted (os : Os) (started : os.Started) (H : Type) (enc : TypeId × Value → H) :
    ReturnsInHanded {} Try.checked os 4 .any (Rows.harmEnclosesSpec.pre6 enc Try.prog Try.f4 Rows.harmEnclosesRow.domain false) (Rows.harmEnclosesSpec.post enc Try.prog Try.f4 false true false false) := by
  refine returnsInHanded_of_change (C := Try.checked) own started (by kernel_rfl) Try.func4
    (ChangeSpec.witness6 (enc := enc) (C := Try.checked) false ⟨#[], #[.int .i64 0], []⟩ 8 (by kernel_rfl) (by kernel_rfl) (by kernel_rfl) (by kernel_rfl)) ?_
  intro W base args ds gs before hval0 hW hcnd _
  have hval : ∀ (j : Nat) t v, Try.f4.params[j]? = some t → args[j]? = some v → Value.okWide Try.prog W .any base t v := hval0
  have hW' := hW
  obtain ⟨p, q, hA0, hV, rfl, hfz, hnd⟩ := hW
  obtain ⟨rfl, rfl⟩ := trodVars_none hV
  have hA : DataW.TrodAll enc Try.prog W 0 (fun _ => true) true Try.f4.params.toList args.toList ds p := hA0
  rw [Try.params4] at hA hval
  obtain ⟨v0, vs0, d0, ds0, p0, q0, hargs, rfl, rfl, h0, r0⟩ := trodAll_cons hA
  obtain ⟨rfl, rfl, rfl⟩ := trodAll_nil r0
  obtain rfl : args = #[v0] := by cases args; simp_all
  obtain ⟨a0, rfl, _, _, w0⟩ := open_int Try.underlying3 (hval 0 3 v0 rfl rfl) h0
  refine (walk a0 (i64_of_wf w0) W).mono fun e W' ⟨he, hg⟩ => ?_
  subst he
  exact ⟨_, rfl, law_post laid (by rw [Try.params4]; exact (by decide +kernel)) rfl (by kernel_rfl) Try.underlying4 rfl hW' hg⟩

theorem over : Rows.harmEnclosesRow.holds Try.pinned (OpenSpec.ofChange Rows.harmEnclosesSpec) :=
  OpenClaim.holds_of_wide 4 Try.f4 rfl rfl rfl rfl rfl rfl rfl ⟨rfl, rfl, rfl, rfl, rfl⟩ rfl rfl rfl rfl rfl (by kernel_rfl) Try.func4 (by kernel_rfl)
    (of_decide_eq_true (by kernel_rfl)) (by unfold Func.isWrapper; first | (rw [if_pos (by decide +kernel)]; kernel_rfl) | (rw [if_neg (by decide +kernel)]; exact ⟨rfl, rfl⟩))
    (fun os started H enc _ => lifted os started H enc)
theorem proved : Rows.HarmEnclosesSaid := over
end Go.Proofs.Ytihfhdnldpjjdaa.harmEncloses
