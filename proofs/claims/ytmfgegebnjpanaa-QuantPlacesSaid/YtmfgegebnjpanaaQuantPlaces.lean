/- Statement QuantPlaces: whatever the input is, the Go function returns true and each argument reads as it did. No condition. -/
import Derived.Test.YtmfgegebnjpanaaRows
import Derived.Test.YtmfgegebnjpanaaQuaE
import Derived.Test.YtmfgegebnjpanaaVecT
import Derived.Test.YtmfgegebnjpanaaBase
import Derived.ProofKit
import Derived.OpenShut
namespace Go.Proofs.Ytmfgegebnjpanaa.quantPlaces
open Go.ChangeShapes Go.WideShapes Go.ChangeAt Go.RowKit
set_option linter.unusedVariables false

theorem own : ownKnob Try.prog.godebug = none := by kernel_rfl
theorem laid : laidOutB Try.prog = true := by kernel_rfl

set_option maxRecDepth 100000 in
set_option maxHeartbeats 8000000 in
theorem walk {w : World} (n : Int) (hn : I64 n) (p : Int) (hp : I64 p) (d : Int) (hd : I64 d) (_ : World) :
    Calls Try.prog 8 #[.int .i64 n, .int .i64 p, .int .i64 d] w fun e w' => e = .returned (.bool true) ∧ Below w.heap.size w w' := by
  have HB := Lib.hid (Below.refl w.heap.size w)
  have K1 := Lib.hid (fun W => qua_index n p d W)
  have K2 := Lib.hid (fun W => ref19_index n p d W)
  have K3 := Lib.hid (fun W => qua_index (n + 1) p d W)
  unfold idV at K1 K2 K3
  by_cases h : IdxOk n p d
  · have e1 : idE n p d = 0 := by unfold idE; rw [if_pos h]
    rw [e1] at K1 K2
    obtain ⟨k1, k2, -, -⟩ := idN_bd h
    obtain ⟨f1, f2, f3, f4⟩ := idN_fit h
    obtain ⟨b1, b2, b3, b4, b5, b6, b7⟩ := idx_prod h
    have hN : Hid (n < 4096 → idE (n + 1) p d = 0 ∧ (idN (n + 1) p d = idN n p d ∨ idN (n + 1) p d = idN n p d + 1)) := fun h4 => by
      have h' : IdxOk (n + 1) p d := by unfold IdxOk at h ⊢; omega
      exact ⟨by unfold idE; rw [if_pos h'], idN_next h h'⟩
    have hr : 1 ≤ n ∧ n ≤ 4096 := by unfold IdxOk at h; omega
    clear h e1 b1 b2 b3
    generalize idN n p d = k at *
    generalize idN (n + 1) p d = m at *
    generalize idE (n + 1) p d = e at *
    generalize hX1 : (n - k) * d = X1 at *
    generalize hX3 : (n - k + 1) * d = X3 at *
    generalize hX2 : p * n = X2 at *
    have hkk : (k != k) = false := by simp
    have q1 : (m == m) = true := by simp
    by_cases h4 : n < 4096
    · obtain ⟨rfl, hm | hm⟩ := hN.out h4
      · subst hm
        have q2 : (m != m) = false := by simp
        clear hN
        go_enter Try.func8, Try.ntmps8
        go_wp2_with fail
        refine (K1.out _).mono ?_
        rintro e w1 ⟨rfl, rfl⟩
        go_wp2_with fail
        refine (K2.out _).mono ?_
        rintro e w1 ⟨rfl, rfl⟩
        go_wp2_with fail
        refine (K3.out _).mono ?_
        rintro e w1 ⟨rfl, rfl⟩
        go_wp2_with fail
        refine (lives19 _).mono ?_
        rintro e wl ⟨rfl, bl⟩
        have HBL := Lib.hid (HB.out.trans (bl.mono HB.out.size))
        clear bl
        go_wp2
        go_ret
        exact ⟨rfl, HBL.out⟩
      · subst hm
        have q2 : (k + 1 != k) = true := by simp; omega
        have q3 : (k + 1 != k + 1) = false := by simp
        clear hN
        go_enter Try.func8, Try.ntmps8
        go_wp2_with fail
        refine (K1.out _).mono ?_
        rintro e w1 ⟨rfl, rfl⟩
        go_wp2_with fail
        refine (K2.out _).mono ?_
        rintro e w1 ⟨rfl, rfl⟩
        go_wp2_with fail
        refine (K3.out _).mono ?_
        rintro e w1 ⟨rfl, rfl⟩
        go_wp2_with fail
        refine (lives19 _).mono ?_
        rintro e wl ⟨rfl, bl⟩
        have HBL := Lib.hid (HB.out.trans (bl.mono HB.out.size))
        clear bl
        go_wp2
        go_ret
        exact ⟨rfl, HBL.out⟩
    · clear hN
      go_enter Try.func8, Try.ntmps8
      go_wp2_with fail
      refine (K1.out _).mono ?_
      rintro e w1 ⟨rfl, rfl⟩
      go_wp2_with fail
      refine (K2.out _).mono ?_
      rintro e w1 ⟨rfl, rfl⟩
      go_wp2_with fail
      refine (K3.out _).mono ?_
      rintro e w1 ⟨rfl, rfl⟩
      go_wp2_with fail
      refine (lives19 _).mono ?_
      rintro e wl ⟨rfl, bl⟩
      have HBL := Lib.hid (HB.out.trans (bl.mono HB.out.size))
      clear bl
      go_wp2
      go_ret
      exact ⟨rfl, HBL.out⟩
  · have e1 : idE n p d = 1 := by unfold idE; rw [if_neg h]
    rw [e1] at K1 K2
    clear h e1 K3
    generalize idN n p d = k at *
    have hkk : (k != k) = false := by simp
    go_enter Try.func8, Try.ntmps8
    go_wp2_with fail
    refine (K1.out _).mono ?_
    rintro e w1 ⟨rfl, rfl⟩
    go_wp2_with fail
    refine (K2.out _).mono ?_
    rintro e w1 ⟨rfl, rfl⟩
    go_wp2_with fail
    refine (lives19 _).mono ?_
    rintro e wl ⟨rfl, bl⟩
    have HBL := Lib.hid (HB.out.trans (bl.mono HB.out.size))
    clear bl
    go_wp2
    go_ret
    exact ⟨rfl, HBL.out⟩

set_option maxRecDepth 100000 in
theorem lifted (os : Os) (started : os.Started) (H : Type) (enc : TypeId × Value → H) :
    ReturnsInHanded {} Try.checked os 8 .any (Rows.quantPlacesSpec.pre6 enc Try.prog Try.f8 Rows.quantPlacesRow.domain false) (Rows.quantPlacesSpec.post enc Try.prog Try.f8 false true false false) := by
  refine returnsInHanded_of_change (C := Try.checked) own started (by kernel_rfl) Try.func8
    (ChangeSpec.witness6 (enc := enc) (C := Try.checked) false ⟨#[], #[.int .i64 0, .int .i64 0, .int .i64 0], []⟩ 8 (by kernel_rfl) (by kernel_rfl) (by kernel_rfl) (by kernel_rfl)) ?_
  intro W base args ds gs before hval0 hW hcnd _
  have hval : ∀ (j : Nat) t v, Try.f8.params[j]? = some t → args[j]? = some v → Value.okWide Try.prog W .any base t v := hval0
  have hW' := hW
  obtain ⟨p, q, hA0, hV, rfl, hfz, hnd⟩ := hW
  obtain ⟨rfl, rfl⟩ := trodVars_none hV
  have hA : DataW.TrodAll enc Try.prog W 0 (fun _ => true) true Try.f8.params.toList args.toList ds p := hA0
  rw [Try.params8] at hA hval
  obtain ⟨v0, vs0, d0, ds0, p0, q0, hargs, rfl, rfl, h0, r0⟩ := trodAll_cons hA
  obtain ⟨v1, vs1, d1, ds1, p1, q1, rfl, rfl, rfl, h1, r1⟩ := trodAll_cons r0
  obtain ⟨v2, vs2, d2, ds2, p2, q2, rfl, rfl, rfl, h2, r2⟩ := trodAll_cons r1
  obtain ⟨rfl, rfl, rfl⟩ := trodAll_nil r2
  obtain rfl : args = #[v0, v1, v2] := by cases args; simp_all
  obtain ⟨a0, rfl, _, _, w0⟩ := open_int Try.underlying3 (hval 0 3 v0 rfl rfl) h0
  obtain ⟨a1, rfl, _, _, w1⟩ := open_int Try.underlying3 (hval 1 3 v1 rfl rfl) h1
  obtain ⟨a2, rfl, _, _, w2⟩ := open_int Try.underlying3 (hval 2 3 v2 rfl rfl) h2
  refine (walk a0 (i64_of_wf w0) a1 (i64_of_wf w1) a2 (i64_of_wf w2) W).mono fun e W' ⟨he, hg⟩ => ?_
  subst he
  exact ⟨_, rfl, law_post laid (by rw [Try.params8]; exact (by decide +kernel)) rfl (by kernel_rfl) Try.underlying4 rfl hW' hg⟩

theorem over : Rows.quantPlacesRow.holds Try.pinned (OpenSpec.ofChange Rows.quantPlacesSpec) :=
  OpenClaim.holds_of_wide 8 Try.f8 rfl rfl rfl rfl rfl rfl rfl ⟨rfl, rfl, rfl, rfl, rfl⟩ rfl rfl rfl rfl rfl (by kernel_rfl) Try.func8 (by kernel_rfl)
    (of_decide_eq_true (by kernel_rfl)) (by unfold Func.isWrapper; first | (rw [if_pos (by decide +kernel)]; kernel_rfl) | (rw [if_neg (by decide +kernel)]; exact ⟨rfl, rfl⟩))
    (fun os started H enc _ => lifted os started H enc)
theorem proved : Rows.QuantPlacesSaid := over
end Go.Proofs.Ytmfgegebnjpanaa.quantPlaces
