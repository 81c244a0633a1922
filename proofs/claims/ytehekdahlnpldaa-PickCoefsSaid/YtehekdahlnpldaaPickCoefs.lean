/- Statement PickCoefs: whatever the input is, the Go function returns true and each argument reads as it did. No condition. -/
import Derived.Test.YtehekdahlnpldaaRows
import Derived.Test.YtehekdahlnpldaaPickR
import Derived.Test.YtehekdahlnpldaaVecQ
import Derived.Test.YtehekdahlnpldaaBase
import Derived.ProofKit
import Derived.OpenShut
namespace Go.Proofs.Ytehekdahlnpldaa.pickCoefs
open Go.ChangeShapes Go.WideShapes Go.ChangeAt Go.RowKit
set_option linter.unusedVariables false

theorem own : ownKnob Try.prog.godebug = none := by kernel_rfl
theorem laid : laidOutB Try.prog = true := by kernel_rfl

theorem cof_in {l : List Int} {a d t : Int} : ∀ x ∈ (cof l a d t).1, -4 ≤ x ∧ x ≤ 4 := by
  by_cases h : (cof l a d t).2.2 = 0
  · exact (partsV_iff.1 (cof_pos h).2.2.2).2.2.2.1
  · rw [(cof_err h).1]; simp
theorem cof_len {l : List Int} {a d t : Int} : (cof l a d t).1.length ≤ 8 := by
  by_cases h : (cof l a d t).2.2 = 0
  · have := partsV_iff.1 (cof_pos h).2.2.2; omega
  · rw [(cof_err h).1]; simp
theorem cof_some {l : List Int} {a d t : Int} (h : (cof l a d t).2.2 = 0) : anyN (cof l a d t).1 = true ∧ ((cof l a d t).1.length : Int) = d := by
  have := partsV_iff.1 (cof_pos h).2.2.2
  exact ⟨(anyN_iff _).2 this.2.2.2.2, this.2.2.1⟩
set_option maxRecDepth 100000 in
set_option maxHeartbeats 8000000 in
theorem walk {w : World} (A : Option Addr) (l : List Int) (c : Nat) (hA : LiesU w w.heap.size A l) (hu : ∀ x ∈ l, U64 x) (hc : l.length ≤ c) (hcm : c ≤ 9223372036854775807) (a : Int) (ha : I64 a) (d : Int) (hd : I64 d) (t : Int) (ht : I64 t) (_ : World) :
    Calls Try.prog 5 #[.slice A l.length c, .int .i64 a, .int .i64 d, .int .i64 t] w fun e w' => e = .returned (.bool true) ∧ Below w.heap.size w w' := by
  by_cases g1 : 300 < l.length
  · clear hA hu
    generalize l.length = N at *
    have g1' : (300 : Int) < (N : Int) := by omega
    go_enter Try.func5, Try.ntmps5
    go_wp2_with fail
    refine (lives7 _).mono ?_
    rintro e wl ⟨rfl, hl⟩
    go_wp2
    go_ret
    exact ⟨rfl, hl⟩
  · have g1' : ¬ (300 : Int) < (l.length : Int) := by omega
    have K1 := Lib.hid (pick_Coefs A l c a d t w hA hu (by omega) ha)
    have K2 := Lib.hid (fun W (h : Below w.heap.size w W) => ref_Coefs7 A l c a d t W ((hA.below h).mono h.size) hu (by omega) ha)
    have HIN := Lib.hid (@cof_in l a d t)
    have HLEN := Lib.hid (@cof_len l a d t)
    have HSO := Lib.hid (@cof_some l a d t)
    unfold GivesC at K1 K2
    generalize cof l a d t = Z at *
    obtain ⟨zc, p, e⟩ := Z
    simp only at K1 K2 HIN HLEN HSO
    clear hA hu g1
    generalize l.length = N at *
    have e2 : (p == p) = true := by simp
    have e3 : (e == e) = true := by simp
    have HE := Lib.hid e3
    go_enter Try.func5, Try.ntmps5
    go_wp2_with fail
    refine K1.out.mono ?_
    rintro e w1 ⟨A1, c1, rfl, q1, q2, q3, _, b1⟩
    have HB1 := Lib.hid b1
    have L1 := Lib.hid q3
    clear b1 q3
    go_wp2_with fail
    refine (K2.out _ HB1.out).mono ?_
    rintro e w2 ⟨A2, c2, rfl, r1, r2, r3, _, b2⟩
    have HB2 := Lib.hid (HB1.out.trans (b2.mono HB1.out.size))
    have L1 := Lib.hid (lies_u7 L1.out b2)
    have L2 := Lib.hid r3
    clear b2 r3
    have KS := Lib.hid (ref_same1 A1 A2 zc zc c1 c2 _ w2 L1.out L2.out (by have := HLEN.out; omega) (by have := HLEN.out; omega))
    rw [show decide (zc = zc) = true from by simp] at KS
    generalize hM : zc.length = M at *
    have HM := Lib.hid hM
    have hM8 : M ≤ 8 := by have := HLEN.out; omega
    clear hM q1 r1
    go_wp2_with fail
    refine KS.out.mono ?_
    rintro e w3 ⟨rfl, hw⟩
    have b3 := bel_q hw
    have HB3 := Lib.hid (HB2.out.trans (b3.mono HB2.out.size))
    have L1 := Lib.hid (lies_u7 L1.out b3)
    clear b3 hw
    go_wp2
    go_loopw [15, 16] (fun s i wr => ∃ k : Nat, k ≤ M ∧ i = .int .i64 k ∧ s = .bool (anyN (zc.take k)) ∧ wr = w3) (fun _ i _ => M - (intOf i).toNat)
    case atStart => exact ⟨0, by omega, rfl, rfl, rfl⟩
    case round =>
      obtain ⟨k, hk, rfl, rfl, rfl⟩ := hrel
      by_cases hlt : k < M
      · have hlg : (k : Int) < (M : Int) := by omega
        obtain ⟨ad, rfl, _, hcell⟩ := L1.out.at (k := k) (by have := HM.out; omega)
        have hx := HIN.out _ (mem_getD (l := zc) (k := k) (by have := HM.out; omega))
        have HT : Hid (anyN (zc.take (k + 1)) = (anyN (zc.take k) || zc.getD k 0 != 0)) := by show _ = _; rw [take_get zc (by have := HM.out; omega), anyN_snoc]
        generalize hs2 : anyN (zc.take (k + 1)) = s2 at *
        have HS2 := Lib.hid hs2
        clear hs2
        generalize anyN (zc.take k) = s at *
        generalize zc.getD k 0 = x at *
        have h1 := hx.1
        have h2 := hx.2
        clear hx
        cases s
        · go_wp2
          refine ⟨⟨k + 1, by omega, by go_num, by rw [HS2.out, HT.out]; rfl, by first | trivial | rfl⟩, by first | (simp [intOf]; done) | (simp [intOf]; omega)⟩
        · go_wp2
          refine ⟨⟨k + 1, by omega, by go_num, by rw [HS2.out, HT.out]; rfl, by first | trivial | rfl⟩, by first | (simp [intOf]; done) | (simp [intOf]; omega)⟩
      · obtain rfl : k = M := by omega
        have HTK : Hid (zc.take k = zc) := by show _ = _; rw [← HM.out, List.take_length]
        rw [HTK.out]
        by_cases he : e = 0
        · subst he
          obtain ⟨g1, g2⟩ := HSO.out rfl
          rw [g1]
          have hkd : (k : Int) = d := g2
          subst hkd
          clear g1 g2
          go_wp2_with fail
          refine (lives7 _).mono ?_
          rintro e wl ⟨rfl, hl⟩
          have HB4 := Lib.hid (HB3.out.trans (hl.mono HB3.out.size))
          clear hl
          go_wp2
          go_ret
          exact ⟨rfl, HB4.out⟩
        · have hne : (e != 0) = true := by simpa using he
          go_wp2_with fail
          refine (lives7 _).mono ?_
          rintro e wl ⟨rfl, hl⟩
          have HB4 := Lib.hid (HB3.out.trans (hl.mono HB3.out.size))
          clear hl
          go_wp2
          go_ret
          exact ⟨rfl, HB4.out⟩

set_option maxRecDepth 100000 in
theorem lifted (os : Os) (started : os.Started) (H : Type) (enc : TypeId × Value → H) :
    ReturnsInHanded {} Try.checked os 5 .any (Rows.pickCoefsSpec.pre6 enc Try.prog Try.f5 Rows.pickCoefsRow.domain false) (Rows.pickCoefsSpec.post enc Try.prog Try.f5 false true false false) := by
  refine returnsInHanded_of_change (C := Try.checked) own started (by kernel_rfl) Try.func5
    (ChangeSpec.witness6 (enc := enc) (C := Try.checked) false ⟨#[], #[.slice none 0 0, .int .i64 0, .int .i64 0, .int .i64 0], []⟩ 8 (by kernel_rfl) (by kernel_rfl) (by kernel_rfl) (by kernel_rfl)) ?_
  intro W base args ds gs before hval0 hW hcnd _
  have hval : ∀ (j : Nat) t v, Try.f5.params[j]? = some t → args[j]? = some v → Value.okWide Try.prog W .any base t v := hval0
  have hW' := hW
  obtain ⟨p, q, hA0, hV, rfl, hfz, hnd⟩ := hW
  obtain ⟨rfl, rfl⟩ := trodVars_none hV
  have hA : DataW.TrodAll enc Try.prog W 0 (fun _ => true) true Try.f5.params.toList args.toList ds p := hA0
  rw [Try.params5] at hA hval
  obtain ⟨v0, vs0, d0, ds0, p0, q0, hargs, rfl, rfl, h0, r0⟩ := trodAll_cons hA
  obtain ⟨v1, vs1, d1, ds1, p1, q1, rfl, rfl, rfl, h1, r1⟩ := trodAll_cons r0
  obtain ⟨v2, vs2, d2, ds2, p2, q2, rfl, rfl, rfl, h2, r2⟩ := trodAll_cons r1
  obtain ⟨v3, vs3, d3, ds3, p3, q3, rfl, rfl, rfl, h3, r3⟩ := trodAll_cons r2
  obtain ⟨rfl, rfl, rfl⟩ := trodAll_nil r3
  obtain rfl : args = #[v0, v1, v2, v3] := by cases args; simp_all
  obtain ⟨A0, l0, c0, rfl, L0, I0, C0, M0⟩ := open_words Try.underlying22 Try.underlying68 cells_u64 (hval 0 22 v0 rfl rfl) h0
  obtain ⟨a1, rfl, _, _, w1⟩ := open_int Try.underlying3 (hval 1 3 v1 rfl rfl) h1
  obtain ⟨a2, rfl, _, _, w2⟩ := open_int Try.underlying3 (hval 2 3 v2 rfl rfl) h2
  obtain ⟨a3, rfl, _, _, w3⟩ := open_int Try.underlying3 (hval 3 3 v3 rfl rfl) h3
  refine (walk A0 l0 c0 L0 I0 C0 M0 a1 (i64_of_wf w1) a2 (i64_of_wf w2) a3 (i64_of_wf w3) W).mono fun e W' ⟨he, hg⟩ => ?_
  subst he
  exact ⟨_, rfl, law_post laid (by rw [Try.params5]; exact (by decide +kernel)) rfl (by kernel_rfl) Try.underlying4 rfl hW' hg⟩

theorem over : Rows.pickCoefsRow.holds Try.pinned (OpenSpec.ofChange Rows.pickCoefsSpec) :=
  OpenClaim.holds_of_wide 5 Try.f5 rfl rfl rfl rfl rfl rfl rfl ⟨rfl, rfl, rfl, rfl, rfl⟩ rfl rfl rfl rfl rfl (by kernel_rfl) Try.func5 (by kernel_rfl)
    (of_decide_eq_true (by kernel_rfl)) (by unfold Func.isWrapper; first | (rw [if_pos (by decide +kernel)]; kernel_rfl) | (rw [if_neg (by decide +kernel)]; exact ⟨rfl, rfl⟩))
    (fun os started H enc _ => lifted os started H enc)
theorem proved : Rows.PickCoefsSaid := over
end Go.Proofs.Ytehekdahlnpldaa.pickCoefs
