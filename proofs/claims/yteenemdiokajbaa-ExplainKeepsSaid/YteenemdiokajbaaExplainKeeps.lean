/- Statement ExplainKeeps: whatever the input is, the Go function returns true and each argument reads as it did. No condition. -/
import Derived.Test.YteenemdiokajbaaRows
import Derived.Test.YteenemdiokajbaaExpT
import Derived.Test.YteenemdiokajbaaPatM
import Derived.Test.YteenemdiokajbaaPatS
import Derived.Test.YteenemdiokajbaaTrE
import Derived.Test.YteenemdiokajbaaVecT
import Derived.Test.YteenemdiokajbaaBase
import Derived.ProofKit
import Derived.OpenShut
namespace Go.Proofs.Yteenemdiokajbaa.explainKeeps
open Go.ChangeShapes Go.WideShapes Go.ChangeAt Go.RowKit
set_option linter.unusedVariables false

theorem own : ownKnob Try.prog.godebug = none := by kernel_rfl
theorem laid : laidOutB Try.prog = true := by kernel_rfl

theorem muchTs_len {T : List TT} (h : muchTs T = false) : T.length ≤ 30 ∧ ∀ t ∈ T, t.n.length ≤ 200 := by
  unfold muchTs at h
  rw [decide_eq_false_iff_not] at h
  refine ⟨Nat.not_lt.1 fun g => h (.inl g), fun t ht => ?_⟩
  have h2 : muchT t.n = false := by
    cases h3 : muchT t.n with
    | false => rfl
    | true => exact absurd (.inr ⟨t, ht, h3⟩) h
  have := (muchT_len h2).1
  omega
set_option maxRecDepth 100000 in
set_option maxHeartbeats 8000000 in
theorem walk {w : World} (A : Option Addr) (T : List TT) (c : Nat) (hA : LiesTs w w.heap.size A T) (oT : ∀ t ∈ T, okT t.n ∧ t.n.length ≤ 9223372036854775807) (hc : T.length ≤ c) (hm : c ≤ 9223372036854775807)
    (B : Option Addr) (x : List Int) (cb : Nat) (hB : Lies w w.heap.size B x) (hx : ∀ y ∈ x, I64 y) (hcb : x.length ≤ cb) (hmb : cb ≤ 9223372036854775807) (k : Int) (hk : I64 k) (v : Int) (hv : I64 v) (_ : World) :
    Calls Try.prog 6 #[.slice A T.length c, .slice B x.length cb, .int .i64 k, .int .i64 v] w fun e w' => e = .returned (.bool true) ∧ Below w.heap.size w w' := by
  have K1 := Lib.hid (ref_Much12 T A c w.heap.size w (by omega) (fun t ht => (oT t ht).2) hA (Nat.le_refl _))
  by_cases h1 : muchTs T = true ∨ 20 < x.length
  · clear hA hB hx oT
    cases h2 : muchTs T with
    | true =>
      rw [h2] at K1
      clear h1 h2
      generalize T.length = n at *
      generalize x.length = m at *
      go_enter Try.func6, Try.ntmps6
      go_wp2_with fail
      refine K1.out.mono ?_
      rintro e w1 ⟨rfl, b1⟩
      have HB1 := Lib.hid b1
      go_wp2_with fail
      refine (lives16 _).mono ?_
      rintro e wl ⟨rfl, hl⟩
      have hfin : Below w.heap.size w wl := HB1.out.trans (hl.mono HB1.out.size)
      go_wp2
      go_ret
      exact ⟨rfl, hfin⟩
    | false =>
      rw [h2] at K1 h1
      have g1 : (20 : Int) < (x.length : Int) := by
        rcases h1 with h | h
        · cases h
        · omega
      clear h1 h2
      generalize T.length = n at *
      generalize x.length = m at *
      go_enter Try.func6, Try.ntmps6
      go_wp2_with fail
      refine K1.out.mono ?_
      rintro e w1 ⟨rfl, b1⟩
      have HB1 := Lib.hid b1
      go_wp2_with fail
      refine (lives16 _).mono ?_
      rintro e wl ⟨rfl, hl⟩
      have hfin : Below w.heap.size w wl := HB1.out.trans (hl.mono HB1.out.size)
      go_wp2
      go_ret
      exact ⟨rfl, hfin⟩
  · have h2 : muchTs T = false := by
      cases h : muchTs T with
      | false => rfl
      | true => exact absurd (.inl h) h1
    have g1 : ¬ (20 : Int) < (x.length : Int) := by omega
    rw [h2] at K1
    obtain ⟨n1, n2⟩ := muchTs_len h2
    have ok : okTs T := fun t ht => ⟨(oT t ht).1, by have := n2 t ht; omega⟩
    have KA := Lib.hid (fun W (h : Below w.heap.size w W) => exp_All T A B x c cb w.heap.size W (by omega) ok (hA.below h) (hB.below h) (by omega) hcb h.size)
    have KS := Lib.hid (fun W (h : Below w.heap.size w W) => path_Sum T A B x c cb w.heap.size W (by omega) ok (hA.below h) (hB.below h) (by omega) hcb h.size)
    have KW := Lib.hid (fun j (hj : j < x.length) W (h : Below w.heap.size w W) => ref_With B x cb w.heap.size j v W (hB.below h) hj (by omega))
    have KS3 := Lib.hid (fun A' (x' : List Int) c' W (h : Below w.heap.size w W) (hl : Lies W W.heap.size A' x') (h8 : x'.length ≤ 20) (hc8 : x'.length ≤ c') => path_Sum T A A' x' c c' W.heap.size W (by omega) ok ((hA.below h).mono h.size) hl (by omega) hc8 (Nat.le_refl _))
    have HK := Lib.hid (fun j => @sum_keep T x j v)
    have HLN := Lib.hid (whyV_len (T := T) (x := x))
    unfold GivesY at KA
    have HWS : Hid (∀ j, (x.set j v).length = x.length) := fun j => by rw [List.length_set]
    generalize whyV T x = Z at *
    obtain ⟨L, z⟩ := Z
    simp only at KA HK HLN
    clear hA hB hx h1 h2 n2 ok oT
    generalize T.length = M at *
    by_cases hz : z = 0
    · subst hz
      obtain ⟨hL, hn0, hn8⟩ := HLN.out rfl
      obtain ⟨n, hn⟩ : ∃ n, n = L.length := ⟨_, rfl⟩
      have HN := Lib.hid hn
      have HX : Hid (x.length = n) := by show _ = _; rw [hn, hL]
      rw [← hL, ← hn] at KA KS g1 ⊢
      clear hn hL HLN hcb
      by_cases hkr : 0 ≤ k ∧ k < (n : Int)
      · obtain ⟨j, rfl⟩ : ∃ j : Nat, k = j := ⟨k.toNat, by omega⟩
        obtain ⟨hk1, hk2⟩ := hkr
        have hjn : j < n := by omega
        have HKj := Lib.hid (fun h1 h2 => HK.out j rfl (by have := HX.out; omega) h1 h2)
        obtain ⟨t, ht⟩ : ∃ t, t = L.getD j ct0 := ⟨_, rfl⟩
        have HT := Lib.hid ht.symm
        rw [← ht] at HKj
        clear ht
        obtain ⟨ts, tl, th⟩ := t
        simp only at HKj
        by_cases hvr : tl ≤ v ∧ v ≤ th
        · obtain ⟨hv1, hv2⟩ := hvr
          obtain ⟨q1, q2⟩ := HKj.out hv1 hv2
          have KWj := Lib.hid (fun W h => KW.out j (by have := HX.out; omega) W h)
          rw [HX.out] at KWj
          have KS4 := Lib.hid (fun A' c' W h hl hc8 => KS3.out A' (x.set j v) c' W h hl (by rw [HWS.out, HX.out]; omega) hc8)
          rw [HWS.out, HX.out, q2] at KS4
          rw [q1] at KS KS4
          have q3 : ¬ v < tl := by omega
          have q4 : ¬ th < v := by omega
          clear q1 q2 KW KS3 HK HKj hv1 hv2
          generalize (sumV T x).1 = s at *
          have e1 : (s == s) = true := by simp
          go_enter Try.func6, Try.ntmps6
          go_wp2_with fail
          refine K1.out.mono ?_
          rintro e w1 ⟨rfl, b1⟩
          have HB1 := Lib.hid b1
          clear b1
          go_wp2_with fail
          refine (KA.out _ HB1.out).mono ?_
          rintro e w2 ⟨A2, c2, rfl, h2, b2⟩
          obtain ⟨g, rfl, hg, oy⟩ := h2 (by have := HN.out; omega)
          have HB2 : Hid (Below w.heap.size w w2) := HB1.out.trans (b2.mono HB1.out.size)
          obtain ⟨u0, u1, u2⟩ := oy.at (k := j) (by have := HN.out; omega)
          rw [HT.out] at u0 u1 u2
          simp only at u0 u1 u2
          clear b2 h2 oy
          go_wp2_with fail
          refine (KS.out _ HB2.out).mono ?_
          rintro e w3 ⟨rfl, b3⟩
          have HB3 : Hid (Below w.heap.size w w3) := HB2.out.trans (b3.mono HB2.out.size)
          clear b3 u0 u1 u2
          go_wp2_with fail
          refine (KWj.out _ HB3.out).mono ?_
          rintro e w4 ⟨g4, c4, rfl, hc4, hg4, ho4, b4⟩
          have HB4 : Hid (Below w.heap.size w w4) := HB3.out.trans (b4.mono HB3.out.size)
          have HL4 := Lib.hid ho4.lies
          have KS5 := Lib.hid (KS4.out _ c4 _ HB4.out HL4.out hc4)
          clear b4 ho4
          go_wp2_with fail
          refine KS5.out.mono ?_
          rintro e w5 ⟨rfl, b5⟩
          have HB5 : Hid (Below w.heap.size w w5) := HB4.out.trans (b5.mono HB4.out.size)
          clear b5
          go_wp2_with fail
          refine (lives16 _).mono ?_
          rintro e wl ⟨rfl, hl⟩
          have hfin : Below w.heap.size w wl := HB5.out.trans (hl.mono HB5.out.size)
          go_wp2
          go_ret
          exact ⟨rfl, hfin⟩
        · clear HK HKj KS KW KS3
          by_cases hlo : v < tl
          · go_enter Try.func6, Try.ntmps6
            go_wp2_with fail
            refine K1.out.mono ?_
            rintro e w1 ⟨rfl, b1⟩
            have HB1 := Lib.hid b1
            clear b1
            go_wp2_with fail
            refine (KA.out _ HB1.out).mono ?_
            rintro e w2 ⟨A2, c2, rfl, h2, b2⟩
            obtain ⟨g, rfl, hg, oy⟩ := h2 (by have := HN.out; omega)
            have HB2 : Hid (Below w.heap.size w w2) := HB1.out.trans (b2.mono HB1.out.size)
            obtain ⟨u0, u1, u2⟩ := oy.at (k := j) (by have := HN.out; omega)
            rw [HT.out] at u0 u1 u2
            simp only at u0 u1 u2
            clear b2 h2 oy
            go_wp2_with fail
            refine (lives16 _).mono ?_
            rintro e wl ⟨rfl, hl⟩
            have hfin : Below w.heap.size w wl := HB2.out.trans (hl.mono HB2.out.size)
            go_wp2
            go_ret
            exact ⟨rfl, hfin⟩
          · have hhi : th < v := by omega
            go_enter Try.func6, Try.ntmps6
            go_wp2_with fail
            refine K1.out.mono ?_
            rintro e w1 ⟨rfl, b1⟩
            have HB1 := Lib.hid b1
            clear b1
            go_wp2_with fail
            refine (KA.out _ HB1.out).mono ?_
            rintro e w2 ⟨A2, c2, rfl, h2, b2⟩
            obtain ⟨g, rfl, hg, oy⟩ := h2 (by have := HN.out; omega)
            have HB2 : Hid (Below w.heap.size w w2) := HB1.out.trans (b2.mono HB1.out.size)
            obtain ⟨u0, u1, u2⟩ := oy.at (k := j) (by have := HN.out; omega)
            rw [HT.out] at u0 u1 u2
            simp only at u0 u1 u2
            clear b2 h2 oy
            go_wp2_with fail
            refine (lives16 _).mono ?_
            rintro e wl ⟨rfl, hl⟩
            have hfin : Below w.heap.size w wl := HB2.out.trans (hl.mono HB2.out.size)
            go_wp2
            go_ret
            exact ⟨rfl, hfin⟩
      · clear HK KS KW KS3
        by_cases hk0 : k < 0
        · go_enter Try.func6, Try.ntmps6
          go_wp2_with fail
          refine K1.out.mono ?_
          rintro e w1 ⟨rfl, b1⟩
          have HB1 := Lib.hid b1
          clear b1
          go_wp2_with fail
          refine (KA.out _ HB1.out).mono ?_
          rintro e w2 ⟨A2, c2, rfl, h2, b2⟩
          have HB2 : Hid (Below w.heap.size w w2) := HB1.out.trans (b2.mono HB1.out.size)
          clear b2 h2
          go_wp2_with fail
          refine (lives16 _).mono ?_
          rintro e wl ⟨rfl, hl⟩
          have hfin : Below w.heap.size w wl := HB2.out.trans (hl.mono HB2.out.size)
          go_wp2
          go_ret
          exact ⟨rfl, hfin⟩
        · have hk3 : ¬ k < (n : Int) := by omega
          go_enter Try.func6, Try.ntmps6
          go_wp2_with fail
          refine K1.out.mono ?_
          rintro e w1 ⟨rfl, b1⟩
          have HB1 := Lib.hid b1
          clear b1
          go_wp2_with fail
          refine (KA.out _ HB1.out).mono ?_
          rintro e w2 ⟨A2, c2, rfl, h2, b2⟩
          have HB2 : Hid (Below w.heap.size w w2) := HB1.out.trans (b2.mono HB1.out.size)
          clear b2 h2
          go_wp2_with fail
          refine (lives16 _).mono ?_
          rintro e wl ⟨rfl, hl⟩
          have hfin : Below w.heap.size w wl := HB2.out.trans (hl.mono HB2.out.size)
          go_wp2
          go_ret
          exact ⟨rfl, hfin⟩
    · have hz0 : (z == 0) = false := by simpa using hz
      clear HK KS KW KS3 HLN
      generalize L.length = n at *
      generalize x.length = m at *
      go_enter Try.func6, Try.ntmps6
      go_wp2_with fail
      refine K1.out.mono ?_
      rintro e w1 ⟨rfl, b1⟩
      have HB1 := Lib.hid b1
      clear b1
      go_wp2_with fail
      refine (KA.out _ HB1.out).mono ?_
      rintro e w2 ⟨A2, c2, rfl, h2, b2⟩
      have HB2 : Hid (Below w.heap.size w w2) := HB1.out.trans (b2.mono HB1.out.size)
      clear b2 h2
      go_wp2_with fail
      refine (lives16 _).mono ?_
      rintro e wl ⟨rfl, hl⟩
      have hfin : Below w.heap.size w wl := HB2.out.trans (hl.mono HB2.out.size)
      go_wp2
      go_ret
      exact ⟨rfl, hfin⟩

set_option maxRecDepth 100000 in
theorem lifted (os : Os) (started : os.Started) (H : Type) (enc : TypeId × Value → H) :
    ReturnsInHanded {} Try.checked os 6 .any (Rows.explainKeepsSpec.pre6 enc Try.prog Try.f6 Rows.explainKeepsRow.domain false) (Rows.explainKeepsSpec.post enc Try.prog Try.f6 false true false false) := by
  refine returnsInHanded_of_change (C := Try.checked) own started (by kernel_rfl) Try.func6
    (ChangeSpec.witness6 (enc := enc) (C := Try.checked) false ⟨#[], #[.slice none 0 0, .slice none 0 0, .int .i64 0, .int .i64 0], []⟩ 8 (by kernel_rfl) (by kernel_rfl) (by kernel_rfl) (by kernel_rfl)) ?_
  intro W base args ds gs before hval0 hW hcnd _
  have hval : ∀ (j : Nat) t v, Try.f6.params[j]? = some t → args[j]? = some v → Value.okWide Try.prog W .any base t v := hval0
  have hW' := hW
  obtain ⟨p, q, hA0, hV, rfl, hfz, hnd⟩ := hW
  obtain ⟨rfl, rfl⟩ := trodVars_none hV
  have hA : DataW.TrodAll enc Try.prog W 0 (fun _ => true) true Try.f6.params.toList args.toList ds p := hA0
  rw [Try.params6] at hA hval
  obtain ⟨v0, vs0, d0, ds0, p0, q0, hargs, rfl, rfl, h0, r0⟩ := trodAll_cons hA
  obtain ⟨v1, vs1, d1, ds1, p1, q1, rfl, rfl, rfl, h1, r1⟩ := trodAll_cons r0
  obtain ⟨v2, vs2, d2, ds2, p2, q2, rfl, rfl, rfl, h2, r2⟩ := trodAll_cons r1
  obtain ⟨v3, vs3, d3, ds3, p3, q3, rfl, rfl, rfl, h3, r3⟩ := trodAll_cons r2
  obtain ⟨rfl, rfl, rfl⟩ := trodAll_nil r3
  obtain rfl : args = #[v0, v1, v2, v3] := by cases args; simp_all
  obtain ⟨A0, T0, c0, rfl, L0, O0, C0, M0⟩ := open_trees (hval 0 39 v0 rfl rfl) h0
  obtain ⟨A1, l1, c1, rfl, L1, I1, C1, M1⟩ := open_ints8 Try.underlying25 Try.underlying3 cells_i8 (hval 1 25 v1 rfl rfl) h1
  obtain ⟨a2, rfl, _, _, w2⟩ := open_int Try.underlying3 (hval 2 3 v2 rfl rfl) h2
  obtain ⟨a3, rfl, _, _, w3⟩ := open_int Try.underlying3 (hval 3 3 v3 rfl rfl) h3
  refine (walk A0 T0 c0 L0 O0 C0 M0 A1 l1 c1 L1 I1 C1 M1 a2 (i64_of_wf w2) a3 (i64_of_wf w3) W).mono fun e W' ⟨he, hg⟩ => ?_
  subst he
  exact ⟨_, rfl, law_post laid (by rw [Try.params6]; exact (by decide +kernel)) rfl (by kernel_rfl) Try.underlying4 rfl hW' hg⟩

theorem over : Rows.explainKeepsRow.holds Try.pinned (OpenSpec.ofChange Rows.explainKeepsSpec) :=
  OpenClaim.holds_of_wide 6 Try.f6 rfl rfl rfl rfl rfl rfl rfl ⟨rfl, rfl, rfl, rfl, rfl⟩ rfl rfl rfl rfl rfl (by kernel_rfl) Try.func6 (by kernel_rfl)
    (of_decide_eq_true (by kernel_rfl)) (by unfold Func.isWrapper; first | (rw [if_pos (by decide +kernel)]; kernel_rfl) | (rw [if_neg (by decide +kernel)]; exact ⟨rfl, rfl⟩))
    (fun os started H enc _ => lifted os started H enc)
theorem proved : Rows.ExplainKeepsSaid := over
end Go.Proofs.Yteenemdiokajbaa.explainKeeps
