/- Statement ExplainTells: whatever the input is, the Go function returns true and each argument reads as it did. No condition. -/
import Derived.Test.YteenemdiokajbaaRows
import Derived.Test.YteenemdiokajbaaExpK
import Derived.Test.YteenemdiokajbaaPatL
import Derived.Test.YteenemdiokajbaaTrE
import Derived.Test.YteenemdiokajbaaVecT
import Derived.Test.YteenemdiokajbaaBase
import Derived.ProofKit
import Derived.OpenShut
namespace Go.Proofs.Yteenemdiokajbaa.explainTells
open Go.ChangeShapes Go.WideShapes Go.ChangeAt Go.RowKit
set_option linter.unusedVariables false

theorem own : ownKnob Try.prog.godebug = none := by kernel_rfl
theorem laid : laidOutB Try.prog = true := by kernel_rfl

set_option maxRecDepth 100000 in
set_option maxHeartbeats 8000000 in
theorem walk {w : World} (da : Int) (A : Option Addr) (N : List TN) (ca : Nat) (hA : LiesT w w.heap.size A N) (oA : okT N) (hca : N.length ≤ ca) (hma : ca ≤ 9223372036854775807) (wa : I64 da)
    (B : Option Addr) (x : List Int) (cb : Nat) (hB : Lies w w.heap.size B x) (hx : ∀ y ∈ x, I64 y) (hcb : x.length ≤ cb) (hmb : cb ≤ 9223372036854775807) (k : Int) (hk : I64 k) (_ : World) :
    Calls Try.prog 3 #[.agg #[.int .i64 da, .slice A N.length ca], .slice B x.length cb, .int .i64 k] w fun e w' => e = .returned (.bool true) ∧ Below w.heap.size w w' := by
  have HX := Lib.hid ((Kpc.start w).alloc #[.int .i64 da, .slice A N.length ca] 24)
  obtain ⟨y0, y1⟩ := box_cut HX.out.head
  have K1 := Lib.hid (fun W (h : Below w.heap.size w W) => ref_MuchT N da A ca w.heap.size W (by omega) (hA.below h) h.size)
  by_cases h1 : muchT N = true ∨ 20 < x.length
  · clear hA hB oA hx
    cases h2 : muchT N with
    | true =>
      rw [h2] at K1
      clear h1 h2
      generalize N.length = n at *
      generalize x.length = m at *
      go_enter Try.func3, Try.ntmps3
      go_wp2_with fail
      refine (K1.out _ HX.out.2.1).mono ?_
      rintro e w1 ⟨rfl, b1⟩
      have J1 := Lib.hid (HX.out.below b1)
      clear b1 y0 y1
      go_wp2_with fail
      refine (lives16 _).mono ?_
      rintro e wl ⟨rfl, hl⟩
      have hfin : Below w.heap.size w wl := J1.out.2.1.trans (hl.mono J1.out.2.1.size)
      go_wp2
      go_ret
      exact ⟨rfl, hfin⟩
    | false =>
      rw [h2] at K1 h1
      have g1 : (20 : Int) < (x.length : Int) := by
        rcases h1 with h | h
        · cases h
        · omega
      clear h1 h2
      generalize N.length = n at *
      generalize x.length = m at *
      go_enter Try.func3, Try.ntmps3
      go_wp2_with fail
      refine (K1.out _ HX.out.2.1).mono ?_
      rintro e w1 ⟨rfl, b1⟩
      have J1 := Lib.hid (HX.out.below b1)
      clear b1 y0 y1
      go_wp2_with fail
      refine (lives16 _).mono ?_
      rintro e wl ⟨rfl, hl⟩
      have hfin : Below w.heap.size w wl := J1.out.2.1.trans (hl.mono J1.out.2.1.size)
      go_wp2
      go_ret
      exact ⟨rfl, hfin⟩
  · have h2 : muchT N = false := by
      cases h : muchT N with
      | false => rfl
      | true => exact absurd (.inl h) h1
    have g1 : ¬ (20 : Int) < (x.length : Int) := by omega
    rw [h2] at K1
    obtain ⟨n1, n2⟩ := muchT_len h2
    have KS := Lib.hid (fun W (h : Below w.heap.size w W) => exp_Steps N da A B x ca cb w.heap.size W (by omega) oA (hA.below h) (hB.below h) (by omega) hcb h.size)
    have KS2 := Lib.hid (fun W (h : Below w.heap.size w W) => ref_Steps16 N da A B x ca cb w.heap.size W (by omega) (hA.below h) (hB.below h) h.size)
    have KR := Lib.hid (fun W (h : Below w.heap.size w W) => exp_Room N da A B x ca cb w.heap.size k W (by omega) oA (hA.below h) (hB.below h) (by omega) hcb h.size)
    have KR2 := Lib.hid (fun W (h : Below w.heap.size w W) => ref_Room16 N da A B x ca cb w.heap.size k W (by omega) (hA.below h) (hB.below h) h.size)
    unfold GivesTr at KS KS2
    generalize stepsV N da x = Z at *
    generalize roomV N da x k = Y at *
    obtain ⟨L, r⟩ := Z
    obtain ⟨lo, hi, q⟩ := Y
    simp only at KS KS2 KR KR2
    have e1 : (lo == lo) = true := by simp
    have e2 : (hi == hi) = true := by simp
    have e3 : (q == q) = true := by simp
    have e4 : (r == r) = true := by simp
    clear hA hB oA hx h1 h2 n2
    generalize N.length = n at *
    generalize x.length = m at *
    go_enter Try.func3, Try.ntmps3
    go_wp2_with fail
    refine (K1.out _ HX.out.2.1).mono ?_
    rintro e w1 ⟨rfl, b1⟩
    have J1 := Lib.hid (HX.out.below b1)
    clear b1 y0 y1
    obtain ⟨y0, y1⟩ := box_cut J1.out.head
    go_wp2_with fail
    refine (KS.out _ J1.out.2.1).mono ?_
    rintro e w2 ⟨A2, c2, rfl, g2, g3, l2, b2⟩
    have J2 := Lib.hid (J1.out.below b2)
    have HL2 := Lib.hid l2
    clear b2 y0 y1 l2
    obtain ⟨y0, y1⟩ := box_cut J2.out.head
    go_wp2_with fail
    refine (KS2.out _ J2.out.2.1).mono ?_
    rintro e w3 ⟨A3, c3, rfl, g4, g5, l3, b3⟩
    have J3 := Lib.hid (J2.out.below b3)
    have HL3 := Lib.hid l3
    have HL2b := Lib.hid ((HL2.out.below b3).mono b3.size)
    clear b3 y0 y1 l3
    obtain ⟨y0, y1⟩ := box_cut J3.out.head
    go_wp2_with fail
    refine (KR.out _ J3.out.2.1).mono ?_
    rintro e w4 ⟨rfl, b4⟩
    have J4 := Lib.hid (J3.out.below b4)
    have HL3c := Lib.hid ((HL3.out.below b4).mono b4.size)
    have HL2c := Lib.hid ((HL2b.out.below b4).mono b4.size)
    clear b4 y0 y1
    obtain ⟨y0, y1⟩ := box_cut J4.out.head
    go_wp2_with fail
    refine (KR2.out _ J4.out.2.1).mono ?_
    rintro e w5 ⟨rfl, b5⟩
    have J5 := Lib.hid (J4.out.below b5)
    unfold maxLen at g3 g5
    have KQ := Lib.hid (ref_same1 A2 A3 L L c2 c3 w5.heap.size w5 ((HL2c.out.below b5).mono b5.size) ((HL3c.out.below b5).mono b5.size) (by omega) (by omega))
    rw [decide_eq_true rfl] at KQ
    clear b5 y0 y1
    generalize L.length = ll at *
    go_wp2_with fail
    refine KQ.out.mono ?_
    rintro e w6 ⟨rfl, n6, rfl⟩
    have JB := Lib.hid (below_drewN2 J5.out.2.1 n6)
    go_wp2_with fail
    refine (lives16 _).mono ?_
    rintro e wl ⟨rfl, hl⟩
    have hfin : Below w.heap.size w wl := JB.out.trans (hl.mono JB.out.size)
    go_wp2
    go_ret
    exact ⟨rfl, hfin⟩

set_option maxRecDepth 100000 in
theorem lifted (os : Os) (started : os.Started) (H : Type) (enc : TypeId × Value → H) :
    ReturnsInHanded {} Try.checked os 3 .any (Rows.explainTellsSpec.pre6 enc Try.prog Try.f3 Rows.explainTellsRow.domain false) (Rows.explainTellsSpec.post enc Try.prog Try.f3 false true false false) := by
  refine returnsInHanded_of_change (C := Try.checked) own started (by kernel_rfl) Try.func3
    (ChangeSpec.witness6 (enc := enc) (C := Try.checked) false ⟨#[], #[.agg #[.int .i64 0, .slice none 0 0], .slice none 0 0, .int .i64 0], []⟩ 8 (by kernel_rfl) (by kernel_rfl) (by kernel_rfl) (by kernel_rfl)) ?_
  intro W base args ds gs before hval0 hW hcnd _
  have hval : ∀ (j : Nat) t v, Try.f3.params[j]? = some t → args[j]? = some v → Value.okWide Try.prog W .any base t v := hval0
  have hW' := hW
  obtain ⟨p, q, hA0, hV, rfl, hfz, hnd⟩ := hW
  obtain ⟨rfl, rfl⟩ := trodVars_none hV
  have hA : DataW.TrodAll enc Try.prog W 0 (fun _ => true) true Try.f3.params.toList args.toList ds p := hA0
  rw [Try.params3] at hA hval
  obtain ⟨v0, vs0, d0, ds0, p0, q0, hargs, rfl, rfl, h0, r0⟩ := trodAll_cons hA
  obtain ⟨v1, vs1, d1, ds1, p1, q1, rfl, rfl, rfl, h1, r1⟩ := trodAll_cons r0
  obtain ⟨v2, vs2, d2, ds2, p2, q2, rfl, rfl, rfl, h2, r2⟩ := trodAll_cons r1
  obtain ⟨rfl, rfl, rfl⟩ := trodAll_nil r2
  obtain rfl : args = #[v0, v1, v2] := by cases args; simp_all
  obtain ⟨a0, A0, N0, c0, rfl, L0, O0, C0, M0, w0⟩ := open_tree (hval 0 24 v0 rfl rfl) h0
  obtain ⟨A1, l1, c1, rfl, L1, I1, C1, M1⟩ := open_ints8 Try.underlying25 Try.underlying3 cells_i8 (hval 1 25 v1 rfl rfl) h1
  obtain ⟨a2, rfl, _, _, w2⟩ := open_int Try.underlying3 (hval 2 3 v2 rfl rfl) h2
  refine (walk a0 A0 N0 c0 L0 O0 C0 M0 w0 A1 l1 c1 L1 I1 C1 M1 a2 (i64_of_wf w2) W).mono fun e W' ⟨he, hg⟩ => ?_
  subst he
  exact ⟨_, rfl, law_post laid (by rw [Try.params3]; exact (by decide +kernel)) rfl (by kernel_rfl) Try.underlying4 rfl hW' hg⟩

theorem over : Rows.explainTellsRow.holds Try.pinned (OpenSpec.ofChange Rows.explainTellsSpec) :=
  OpenClaim.holds_of_wide 3 Try.f3 rfl rfl rfl rfl rfl rfl rfl ⟨rfl, rfl, rfl, rfl, rfl⟩ rfl rfl rfl rfl rfl (by kernel_rfl) Try.func3 (by kernel_rfl)
    (of_decide_eq_true (by kernel_rfl)) (by unfold Func.isWrapper; first | (rw [if_pos (by decide +kernel)]; kernel_rfl) | (rw [if_neg (by decide +kernel)]; exact ⟨rfl, rfl⟩))
    (fun os started H enc _ => lifted os started H enc)
theorem proved : Rows.ExplainTellsSaid := over
end Go.Proofs.Yteenemdiokajbaa.explainTells
