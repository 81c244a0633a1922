/- Statement ExplainAll: whatever the input is, the Go function returns true and each argument reads as it did. No condition. -/
import Derived.Test.YteenemdiokajbaaRows
import Derived.Test.YteenemdiokajbaaExpW
import Derived.Test.YteenemdiokajbaaPatM
import Derived.Test.YteenemdiokajbaaPatS
import Derived.Test.YteenemdiokajbaaTrE
import Derived.Test.YteenemdiokajbaaVecT
import Derived.Test.YteenemdiokajbaaBase
import Derived.ProofKit
import Derived.OpenShut
namespace Go.Proofs.Yteenemdiokajbaa.explainAll
open Go.ChangeShapes Go.WideShapes Go.ChangeAt Go.RowKit
set_option linter.unusedVariables false

theorem own : ownKnob Try.prog.godebug = none := by kernel_rfl
theorem laid : laidOutB Try.prog = true := by kernel_rfl

theorem muchTs_len {T : List TT} (h : muchTs T = false) : T.length ≤ 30 ∧ ∀ t ∈ T, t.n.length ≤ 200 := by
  unfold muchTs at h
  rw [decide_eq_false_iff_not] at h
  refine ⟨Nat.not_lt.1 fun g => h (.inl g), fun t ht => ?_⟩
  have h2 : muchT t.n = false := by
    cases h3 : muchT t.n with
    | false => rfl
    | true => exact absurd (.inr ⟨t, ht, h3⟩) h
  have := (muchT_len h2).1
  omega
theorem why_small (T : List TT) (x : List Int) : (whyV T x).1.length ≤ 8 := by
  have h := whyV_len (T := T) (x := x)
  by_cases h0 : (whyV T x).2 = 0
  · have := h h0
    omega
  · have : (whyV T x).1 = [] := by
      unfold whyV at h0 ⊢
      by_cases h1 : (sumV T x).2 = 0
      · rw [if_pos h1] at h0
        exact absurd rfl h0
      · rw [if_neg h1]
    rw [this]
    simp
set_option maxRecDepth 100000 in
set_option maxHeartbeats 8000000 in
theorem walk {w : World} (A : Option Addr) (T : List TT) (c : Nat) (hA : LiesTs w w.heap.size A T) (oT : ∀ t ∈ T, okT t.n ∧ t.n.length ≤ 9223372036854775807) (hc : T.length ≤ c) (hm : c ≤ 9223372036854775807)
    (B : Option Addr) (x : List Int) (cb : Nat) (hB : Lies w w.heap.size B x) (hx : ∀ y ∈ x, I64 y) (hcb : x.length ≤ cb) (hmb : cb ≤ 9223372036854775807) (_ : World) :
    Calls Try.prog 5 #[.slice A T.length c, .slice B x.length cb] w fun e w' => e = .returned (.bool true) ∧ Below w.heap.size w w' := by
  have K1 := Lib.hid (ref_Much12 T A c w.heap.size w (by omega) (fun t ht => (oT t ht).2) hA (Nat.le_refl _))
  by_cases h1 : muchTs T = true ∨ 20 < x.length
  · clear hA hB hx oT
    cases h2 : muchTs T with
    | true =>
      rw [h2] at K1
      clear h1 h2
      generalize T.length = n at *
      generalize x.length = m at *
      go_enter Try.func5, Try.ntmps5
      go_wp2_with fail
      refine K1.out.mono ?_
      rintro e w1 ⟨rfl, b1⟩
      have HB1 := Lib.hid b1
      go_wp2_with fail
      refine (lives16 _).mono ?_
      rintro e wl ⟨rfl, hl⟩
      have hfin : Below w.heap.size w wl := HB1.out.trans (hl.mono HB1.out.size)
      go_wp2
      go_ret
      exact ⟨rfl, hfin⟩
    | false =>
      rw [h2] at K1 h1
      have g1 : (20 : Int) < (x.length : Int) := by
        rcases h1 with h | h
        · cases h
        · omega
      clear h1 h2
      generalize T.length = n at *
      generalize x.length = m at *
      go_enter Try.func5, Try.ntmps5
      go_wp2_with fail
      refine K1.out.mono ?_
      rintro e w1 ⟨rfl, b1⟩
      have HB1 := Lib.hid b1
      go_wp2_with fail
      refine (lives16 _).mono ?_
      rintro e wl ⟨rfl, hl⟩
      have hfin : Below w.heap.size w wl := HB1.out.trans (hl.mono HB1.out.size)
      go_wp2
      go_ret
      exact ⟨rfl, hfin⟩
  · have h2 : muchTs T = false := by
      cases h : muchTs T with
      | false => rfl
      | true => exact absurd (.inl h) h1
    have g1 : ¬ (20 : Int) < (x.length : Int) := by omega
    rw [h2] at K1
    obtain ⟨n1, n2⟩ := muchTs_len h2
    have ok : okTs T := fun t ht => ⟨(oT t ht).1, by have := n2 t ht; omega⟩
    have KA := Lib.hid (fun W (h : Below w.heap.size w W) => exp_All T A B x c cb w.heap.size W (by omega) ok (hA.below h) (hB.below h) (by omega) hcb h.size)
    have KR := Lib.hid (fun W (h : Below w.heap.size w W) => ref_All16 T A B x c cb w.heap.size W (by omega) ok (hA.below h) (hB.below h) h.size)
    have KM := Lib.hid (fun W (h : Below w.heap.size w W) => exp_Main T A B x c cb w.heap.size W (by omega) ok (hA.below h) (hB.below h) (by omega) hcb h.size)
    have KN := Lib.hid (fun W (h : Below w.heap.size w W) => ref_Main16 T A B x c cb w.heap.size W (by omega) ok (hA.below h) (hB.below h) h.size)
    unfold GivesY at KA
    unfold GivesL at KR
    have hn8 := why_small T x
    generalize mainV T x = Q at *
    generalize whyV T x = Z at *
    obtain ⟨L, z⟩ := Z
    obtain ⟨p, q⟩ := Q
    simp only at KA KR KM KN hn8
    obtain ⟨n, hn⟩ : ∃ n, n = L.length := ⟨_, rfl⟩
    have HN := Lib.hid hn
    rw [← hn] at KA KR hn8
    have hn9 : (n : Int) ≤ 8 := by omega
    have e1 : (z == z) = true := by simp
    have e2 : (p == p) = true := by simp
    have e3 : (q == q) = true := by simp
    have e4 : ((n : Int) == (n : Int)) = true := by simp
    clear hA hB hx h1 h2 n2 ok oT hn
    generalize T.length = M at *
    generalize x.length = m at *
    go_enter Try.func5, Try.ntmps5
    go_wp2_with fail
    refine K1.out.mono ?_
    rintro e w1 ⟨rfl, b1⟩
    have HB1 := Lib.hid b1
    clear b1
    go_wp2_with fail
    refine (KA.out _ HB1.out).mono ?_
    rintro e w2 ⟨A2, c2, rfl, h2, b2⟩
    have HLA : Hid (LiesC w2 w2.heap.size A2 L) := fun h0 => by
      obtain ⟨g, rfl, hg, oy⟩ := h2 (by have := HN.out; omega)
      exact oy.lies h0
    have HB2 : Hid (Below w.heap.size w w2) := HB1.out.trans (b2.mono HB1.out.size)
    clear b2 h2
    go_wp2_with fail
    refine (KR.out _ HB2.out).mono ?_
    rintro e w3 ⟨A3, c3, rfl, h3, b3⟩
    have HLA3 : Hid (LiesC w3 w3.heap.size A2 L) := (HLA.out.below b3).mono b3.size
    have HLB3 : Hid (LiesC w3 w3.heap.size A3 L) := h3
    have HB3 : Hid (Below w.heap.size w w3) := HB2.out.trans (b3.mono HB2.out.size)
    clear b3 h3 HLA
    go_wp2_with fail
    refine (KM.out _ HB3.out).mono ?_
    rintro e w4 ⟨rfl, b4⟩
    have HLA4 : Hid (LiesC w4 w4.heap.size A2 L) := (HLA3.out.below b4).mono b4.size
    have HLB4 : Hid (LiesC w4 w4.heap.size A3 L) := (HLB3.out.below b4).mono b4.size
    have HB4 : Hid (Below w.heap.size w w4) := HB3.out.trans (b4.mono HB3.out.size)
    clear b4 HLA3 HLB3
    go_wp2_with fail
    refine (KN.out _ HB4.out).mono ?_
    rintro e w5 ⟨rfl, b5⟩
    have HLA5 : Hid (LiesC w5 w5.heap.size A2 L) := (HLA4.out.below b5).mono b5.size
    have HLB5 : Hid (LiesC w5 w5.heap.size A3 L) := (HLB4.out.below b5).mono b5.size
    have HB5 : Hid (Below w.heap.size w w5) := HB4.out.trans (b5.mono HB4.out.size)
    have hsz5 := HB5.out.size
    clear b5 HLA4 HLB4
    go_wp2
    go_loopw [13] (fun iv wr => ∃ k : Nat, k ≤ n ∧ iv = .int .i64 k ∧ Hid (Below w5.heap.size w5 wr)) (fun iv _ => n - (intOf iv).toNat)
    case atStart => exact ⟨0, by omega, rfl, Below.refl _ _⟩
    case round =>
      obtain ⟨k, hk, rfl, HB⟩ := hrel
      by_cases hlt : k < n
      · have hlg : (k : Int) < (n : Int) := by omega
        obtain ⟨ad, eA, _, hcA⟩ := (HLA5.out.below HB.out) (by have := HN.out; omega)
        obtain ⟨ad', eB, _, hcB⟩ := (HLB5.out.below HB.out) (by have := HN.out; omega)
        subst eA
        subst eB
        obtain ⟨u0, u1, u2⟩ := hcA k (by have := HN.out; omega)
        obtain ⟨v0, v1, v2⟩ := hcB k (by have := HN.out; omega)
        clear hcA hcB
        generalize (L.getD k ct0).lo = tl at *
        generalize (L.getD k ct0).hi = th at *
        generalize (L.getD k ct0).st = ts at *
        have f1 : (ts == ts) = true := by simp
        have f2 : (tl == tl) = true := by simp
        have f3 : (th == th) = true := by simp
        have HBd := Lib.hid (fun m => below_drewN2 HB.out m)
        go_wp2
        go_quiet (fail)
        go_wp2
        exact ⟨⟨k + 1, by omega, by go_num, HBd.out _⟩, by first | (simp [intOf]; done) | (simp [intOf]; omega)⟩
      · obtain rfl : k = n := by omega
        have HB6 : Hid (Below w.heap.size w wr) := HB5.out.trans (HB.out.mono hsz5)
        go_wp2_with fail
        refine (lives16 _).mono ?_
        rintro e wl ⟨rfl, hl⟩
        have hfin : Below w.heap.size w wl := HB6.out.trans (hl.mono HB6.out.size)
        go_wp2
        go_ret
        exact ⟨rfl, hfin⟩

set_option maxRecDepth 100000 in
theorem lifted (os : Os) (started : os.Started) (H : Type) (enc : TypeId × Value → H) :
    ReturnsInHanded {} Try.checked os 5 .any (Rows.explainAllSpec.pre6 enc Try.prog Try.f5 Rows.explainAllRow.domain false) (Rows.explainAllSpec.post enc Try.prog Try.f5 false true false false) := by
  refine returnsInHanded_of_change (C := Try.checked) own started (by kernel_rfl) Try.func5
    (ChangeSpec.witness6 (enc := enc) (C := Try.checked) false ⟨#[], #[.slice none 0 0, .slice none 0 0], []⟩ 8 (by kernel_rfl) (by kernel_rfl) (by kernel_rfl) (by kernel_rfl)) ?_
  intro W base args ds gs before hval0 hW hcnd _
  have hval : ∀ (j : Nat) t v, Try.f5.params[j]? = some t → args[j]? = some v → Value.okWide Try.prog W .any base t v := hval0
  have hW' := hW
  obtain ⟨p, q, hA0, hV, rfl, hfz, hnd⟩ := hW
  obtain ⟨rfl, rfl⟩ := trodVars_none hV
  have hA : DataW.TrodAll enc Try.prog W 0 (fun _ => true) true Try.f5.params.toList args.toList ds p := hA0
  rw [Try.params5] at hA hval
  obtain ⟨v0, vs0, d0, ds0, p0, q0, hargs, rfl, rfl, h0, r0⟩ := trodAll_cons hA
  obtain ⟨v1, vs1, d1, ds1, p1, q1, rfl, rfl, rfl, h1, r1⟩ := trodAll_cons r0
  obtain ⟨rfl, rfl, rfl⟩ := trodAll_nil r1
  obtain rfl : args = #[v0, v1] := by cases args; simp_all
  obtain ⟨A0, T0, c0, rfl, L0, O0, C0, M0⟩ := open_trees (hval 0 39 v0 rfl rfl) h0
  obtain ⟨A1, l1, c1, rfl, L1, I1, C1, M1⟩ := open_ints8 Try.underlying25 Try.underlying3 cells_i8 (hval 1 25 v1 rfl rfl) h1
  refine (walk A0 T0 c0 L0 O0 C0 M0 A1 l1 c1 L1 I1 C1 M1 W).mono fun e W' ⟨he, hg⟩ => ?_
  subst he
  exact ⟨_, rfl, law_post laid (by rw [Try.params5]; exact (by decide +kernel)) rfl (by kernel_rfl) Try.underlying4 rfl hW' hg⟩

theorem over : Rows.explainAllRow.holds Try.pinned (OpenSpec.ofChange Rows.explainAllSpec) :=
  OpenClaim.holds_of_wide 5 Try.f5 rfl rfl rfl rfl rfl rfl rfl ⟨rfl, rfl, rfl, rfl, rfl⟩ rfl rfl rfl rfl rfl (by kernel_rfl) Try.func5 (by kernel_rfl)
    (of_decide_eq_true (by kernel_rfl)) (by unfold Func.isWrapper; first | (rw [if_pos (by decide +kernel)]; kernel_rfl) | (rw [if_neg (by decide +kernel)]; exact ⟨rfl, rfl⟩))
    (fun os started H enc _ => lifted os started H enc)
theorem proved : Rows.ExplainAllSaid := over
end Go.Proofs.Yteenemdiokajbaa.explainAll
