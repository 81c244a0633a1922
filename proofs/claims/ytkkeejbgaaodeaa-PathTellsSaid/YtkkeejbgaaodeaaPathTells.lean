/- Statement PathTells: whatever the input is, the Go function returns true and each argument reads as it did. No condition. -/
import Derived.Test.YtkkeejbgaaodeaaRows
import Derived.Test.YtkkeejbgaaodeaaPatL
import Derived.Test.YtkkeejbgaaodeaaPatU
import Derived.Test.YtkkeejbgaaodeaaTrE
import Derived.Test.YtkkeejbgaaodeaaVecT
import Derived.Test.YtkkeejbgaaodeaaBase
import Derived.ProofKit
import Derived.OpenShut
namespace Go.Proofs.Ytkkeejbgaaodeaa.pathTells
open Go.ChangeShapes Go.WideShapes Go.ChangeAt Go.RowKit
set_option linter.unusedVariables false

theorem own : ownKnob Try.prog.godebug = none := by kernel_rfl
theorem laid : laidOutB Try.prog = true := by kernel_rfl

theorem trail_err (N : List TN) (da : Int) (x : List Int) : (trailV N da x).2 = (lenT N da x).2 := by
  by_cases hT : isT N da = true
  · by_cases hx : isV x da = true
    · rw [lenT_at hT hx]
      unfold trailV
      rw [if_pos hT, if_pos hx]
    · rw [lenT_no hT hx]
      unfold trailV
      rw [if_pos hT, if_neg hx]
  · unfold trailV lenT leafT
    rw [if_neg hT, if_neg hT]
    rfl
set_option maxRecDepth 100000 in
set_option maxHeartbeats 8000000 in
theorem walk {w : World} (da : Int) (A : Option Addr) (N : List TN) (ca : Nat) (hA : LiesT w w.heap.size A N) (oA : okT N) (hca : N.length ≤ ca) (hma : ca ≤ 9223372036854775807) (wa : I64 da)
    (B : Option Addr) (x : List Int) (cb : Nat) (hB : Lies w w.heap.size B x) (hx : ∀ y ∈ x, I64 y) (hcb : x.length ≤ cb) (hmb : cb ≤ 9223372036854775807) (_ : World) :
    Calls Try.prog 9 #[.agg #[.int .i64 da, .slice A N.length ca], .slice B x.length cb] w fun e w' => e = .returned (.bool true) ∧ Below w.heap.size w w' := by
  have HX := Lib.hid ((Kpc.start w).alloc #[.int .i64 da, .slice A N.length ca] 24)
  obtain ⟨y0, y1, _, _⟩ := HX.out.head.two
  have K1 := Lib.hid (fun W (h : Below w.heap.size w W) => ref_MuchT N da A ca w.heap.size W (by omega) (hA.below h) h.size)
  by_cases h1 : muchT N = true ∨ 20 < x.length
  · clear hA hB oA hx
    cases h2 : muchT N with
    | true =>
      rw [h2] at K1
      clear h1 h2
      generalize N.length = n at *
      generalize x.length = m at *
      go_enter Try.func9, Try.ntmps9
      go_wp2_with fail
      refine (K1.out _ HX.out.2.1).mono ?_
      rintro e w1 ⟨rfl, b1⟩
      have J2 := Lib.hid (HX.out.below b1)
      go_wp2_with fail
      refine (lives12 _).mono ?_
      rintro e wl ⟨rfl, hl⟩
      have JL := Lib.hid (J2.out.below hl)
      go_wp2
      go_ret
      exact ⟨rfl, JL.out.2.1⟩
    | false =>
      rw [h2] at K1 h1
      have g1 : (20 : Int) < (x.length : Int) := by
        rcases h1 with h | h
        · cases h
        · omega
      clear h1 h2
      generalize N.length = n at *
      generalize x.length = m at *
      go_enter Try.func9, Try.ntmps9
      go_wp2_with fail
      refine (K1.out _ HX.out.2.1).mono ?_
      rintro e w1 ⟨rfl, b1⟩
      have J2 := Lib.hid (HX.out.below b1)
      go_wp2_with fail
      refine (lives12 _).mono ?_
      rintro e wl ⟨rfl, hl⟩
      have JL := Lib.hid (J2.out.below hl)
      go_wp2
      go_ret
      exact ⟨rfl, JL.out.2.1⟩
  · have h2 : muchT N = false := by
      cases h : muchT N with
      | false => rfl
      | true => exact absurd (.inl h) h1
    have g1 : ¬ (20 : Int) < (x.length : Int) := by omega
    rw [h2] at K1
    obtain ⟨n1, n2⟩ := muchT_len h2
    have HE := Lib.hid (trail_err N da x)
    have KL := Lib.hid (fun W (h : Below w.heap.size w W) => path_Length N da A B x ca cb w.heap.size W (by omega) oA (hA.below h) (hB.below h) (by omega) hcb h.size)
    have KL2 := Lib.hid (fun W (h : Below w.heap.size w W) => ref_Len12 N da A B x ca cb w.heap.size W (by omega) (hA.below h) (hB.below h) h.size)
    have KT := Lib.hid (fun W (h : Below w.heap.size w W) => path_Trail N da A B x ca cb w.heap.size W (by omega) oA (hA.below h) (hB.below h) (by omega) hcb h.size)
    have KT2 := Lib.hid (fun W (h : Below w.heap.size w W) => ref_Trail12 N da A B x ca cb w.heap.size W (by omega) (hA.below h) (hB.below h) h.size)
    unfold GivesTr at KT KT2
    generalize trailV N da x = Z2 at *
    generalize lenT N da x = Z at *
    obtain ⟨p, r⟩ := Z
    obtain ⟨L, r2⟩ := Z2
    obtain rfl : r2 = r := HE.out
    simp only at KL KL2 KT KT2
    have e1 : (p == p) = true := by simp
    have e2 : (r2 == r2) = true := by simp
    have e3 : ((r2 == 0) == (r2 == 0)) = true := by simp
    clear hA hB oA hx h1 h2 n2 HE
    generalize N.length = n at *
    generalize x.length = m at *
    go_enter Try.func9, Try.ntmps9
    go_wp2_with fail
    refine (K1.out _ HX.out.2.1).mono ?_
    rintro e w1 ⟨rfl, b1⟩
    have J1 := Lib.hid (HX.out.below b1)
    clear b1 y0 y1
    obtain ⟨y0, y1, _, _⟩ := J1.out.head.two
    go_wp2_with fail
    refine (KL.out _ J1.out.2.1).mono ?_
    rintro e w2 ⟨rfl, b2⟩
    have J2 := Lib.hid (J1.out.below b2)
    clear b2 y0 y1
    obtain ⟨y0, y1, _, _⟩ := J2.out.head.two
    go_wp2_with fail
    refine (KL2.out _ J2.out.2.1).mono ?_
    rintro e w3 ⟨rfl, b3⟩
    have J3 := Lib.hid (J2.out.below b3)
    clear b3 y0 y1
    obtain ⟨y0, y1, _, _⟩ := J3.out.head.two
    go_wp2_with fail
    refine (KT.out _ J3.out.2.1).mono ?_
    rintro e w4 ⟨A4, c4, rfl, g1, g2, g3, b4⟩
    have J4 := Lib.hid (J3.out.below b4)
    clear b4 y0 y1
    obtain ⟨y0, y1, _, _⟩ := J4.out.head.two
    go_wp2_with fail
    refine (KT2.out _ J4.out.2.1).mono ?_
    rintro e w5 ⟨A5, c5, rfl, g4, g5, g6, b5⟩
    have J5 := Lib.hid (J4.out.below b5)
    unfold maxLen at g2 g5
    have KS := Lib.hid (ref_same1 A4 A5 L L c4 c5 w5.heap.size w5 ((g3.below b5).mono b5.size) g6 (by omega) (by omega))
    rw [decide_eq_true rfl] at KS
    clear b5 y0 y1 g3 g6
    generalize L.length = k at *
    go_wp2_with fail
    refine KS.out.mono ?_
    rintro e w6 ⟨rfl, n6, rfl⟩
    have JB := Lib.hid (below_drewN2 J5.out.2.1 n6)
    go_wp2_with fail
    refine (lives12 _).mono ?_
    rintro e wl ⟨rfl, hl⟩
    have hfin : Below w.heap.size w wl := JB.out.trans (hl.mono JB.out.size)
    go_wp2
    go_ret
    exact ⟨rfl, hfin⟩

set_option maxRecDepth 100000 in
theorem lifted (os : Os) (started : os.Started) (H : Type) (enc : TypeId × Value → H) :
    ReturnsInHanded {} Try.checked os 9 .any (Rows.pathTellsSpec.pre6 enc Try.prog Try.f9 Rows.pathTellsRow.domain false) (Rows.pathTellsSpec.post enc Try.prog Try.f9 false true false false) := by
  refine returnsInHanded_of_change (C := Try.checked) own started (by kernel_rfl) Try.func9
    (ChangeSpec.witness6 (enc := enc) (C := Try.checked) false ⟨#[], #[.agg #[.int .i64 0, .slice none 0 0], .slice none 0 0], []⟩ 8 (by kernel_rfl) (by kernel_rfl) (by kernel_rfl) (by kernel_rfl)) ?_
  intro W base args ds gs before hval0 hW hcnd _
  have hval : ∀ (j : Nat) t v, Try.f9.params[j]? = some t → args[j]? = some v → Value.okWide Try.prog W .any base t v := hval0
  have hW' := hW
  obtain ⟨p, q, hA0, hV, rfl, hfz, hnd⟩ := hW
  obtain ⟨rfl, rfl⟩ := trodVars_none hV
  have hA : DataW.TrodAll enc Try.prog W 0 (fun _ => true) true Try.f9.params.toList args.toList ds p := hA0
  rw [Try.params9] at hA hval
  obtain ⟨v0, vs0, d0, ds0, p0, q0, hargs, rfl, rfl, h0, r0⟩ := trodAll_cons hA
  obtain ⟨v1, vs1, d1, ds1, p1, q1, rfl, rfl, rfl, h1, r1⟩ := trodAll_cons r0
  obtain ⟨rfl, rfl, rfl⟩ := trodAll_nil r1
  obtain rfl : args = #[v0, v1] := by cases args; simp_all
  obtain ⟨a0, A0, N0, c0, rfl, L0, O0, C0, M0, w0⟩ := open_tree (hval 0 24 v0 rfl rfl) h0
  obtain ⟨A1, l1, c1, rfl, L1, I1, C1, M1⟩ := open_ints8 Try.underlying35 Try.underlying3 cells_i8 (hval 1 35 v1 rfl rfl) h1
  refine (walk a0 A0 N0 c0 L0 O0 C0 M0 w0 A1 l1 c1 L1 I1 C1 M1 W).mono fun e W' ⟨he, hg⟩ => ?_
  subst he
  exact ⟨_, rfl, law_post laid (by rw [Try.params9]; exact (by decide +kernel)) rfl (by kernel_rfl) Try.underlying4 rfl hW' hg⟩

theorem over : Rows.pathTellsRow.holds Try.pinned (OpenSpec.ofChange Rows.pathTellsSpec) :=
  OpenClaim.holds_of_wide 9 Try.f9 rfl rfl rfl rfl rfl rfl rfl ⟨rfl, rfl, rfl, rfl, rfl⟩ rfl rfl rfl rfl rfl (by kernel_rfl) Try.func9 (by kernel_rfl)
    (of_decide_eq_true (by kernel_rfl)) (by unfold Func.isWrapper; first | (rw [if_pos (by decide +kernel)]; kernel_rfl) | (rw [if_neg (by decide +kernel)]; exact ⟨rfl, rfl⟩))
    (fun os started H enc _ => lifted os started H enc)
theorem proved : Rows.PathTellsSaid := over
end Go.Proofs.Ytkkeejbgaaodeaa.pathTells
