/- Statement DrawTells: whatever the input is, the Go function returns true and each argument reads as it did. No condition. -/
import Derived.Test.YtihfhdnldpjjdaaRows
import Derived.Test.YtihfhdnldpjjdaaDrawF
import Derived.Test.YtihfhdnldpjjdaaBase
import Derived.ProofKit
import Derived.OpenShut
namespace Go.Proofs.Ytihfhdnldpjjdaa.drawTells
open Go.ChangeShapes Go.WideShapes Go.ChangeAt Go.RowKit
set_option linter.unusedVariables false

theorem own : ownKnob Try.prog.godebug = none := by kernel_rfl
theorem laid : laidOutB Try.prog = true := by kernel_rfl

theorem rng_in {l : List Int} {a lo hi t : Int} (h1 : I64 lo) (h2 : I64 hi) (h : (rng l a lo hi t).2.2 = 0) : lo ≤ (rng l a lo hi t).1 ∧ (rng l a lo hi t).1 ≤ hi := by
  unfold I64 at h1 h2
  unfold rng at h ⊢
  split at h
  · rename_i hc
    rw [if_pos hc]
    split at h
    · rename_i hz
      rw [if_pos hz]
      split at h
      · rename_i hx
        rw [if_pos hx]
        have := wrap64_i64 (l.getD a.toNat 0)
        unfold I64 at this
        simp only
        omega
      · simp at h
    · rename_i hz
      rw [if_neg hz]
      have hlt := bnd_lt (l := l) (a := a) (n := hi - lo + 1) (t := t) (by omega)
      simp only at h ⊢
      split at h
      · rename_i hx
        rw [if_pos hx]
        simp only
        omega
      · rename_i hx
        exact absurd h hx
  · simp at h
set_option maxHeartbeats 4000000 in
theorem walk (A : Option Addr) (l : List Int) (c : Nat) {w : World} (hA : LiesU w w.heap.size A l) (hu : ∀ x ∈ l, U64 x) (hc : l.length ≤ c) (hm : c ≤ 9223372036854775807) (f : Int) (hf : I64 f) (n : Int) (hn : U64 n) (lo : Int) (hlo : I64 lo) (hi : Int) (hhi : I64 hi) (t : Int) (ht : I64 t) (_ : World) :
    Calls Try.prog 8 #[.slice A l.length c, .int .i64 f, .int .u64 n, .int .i64 lo, .int .i64 hi, .int .i64 t] w fun e w' => e = .returned (.bool true) ∧ Below w.heap.size w w' := by
  by_cases h1 : 200 < l.length
  · generalize l.length = N at *
    go_enter Try.func8, Try.ntmps8
    go_wp2_with fail
    refine (lives6 _).mono ?_
    rintro e w1 ⟨rfl, b1⟩
    go_wp2
    go_ret
    exact ⟨rfl, b1⟩
  have HA := Lib.hid (fun W (h : Below w.heap.size w W) => (hA.below h).mono h.size)
  have K1 := Lib.hid (fun W h => draw_bound A l c f n t W (HA.out W h) hu (by omega) hn hf)
  have K2 := Lib.hid (fun W h => ref_bound6 A l c f n t W (HA.out W h) hu (by omega) hn hf)
  have K3 := Lib.hid (fun W h => draw_range A l c f lo hi t W (HA.out W h) hu (by omega) hlo hhi hf)
  have K4 := Lib.hid (fun W h => ref_range6 A l c f lo hi t W (HA.out W h) hu (by omega) hlo hhi hf)
  have K5 := Lib.hid (fun W h => draw_coin A l c f lo hi t W (HA.out W h) hu (by omega) hlo hhi hf)
  have K6 := Lib.hid (fun W h => ref_coin6 A l c f lo hi t W (HA.out W h) hu (by omega) hlo hhi hf)
  have HR := Lib.hid (rng_in (l := l) (a := f) (t := t) hlo hhi)
  generalize bnd l f n t = F at *
  generalize rng l f lo hi t = G at *
  generalize coin l f lo hi t = C at *
  obtain ⟨x1, x2, x3⟩ := F
  obtain ⟨y1, y2, y3⟩ := G
  obtain ⟨z1, z2, z3⟩ := C
  clear hA hu HA
  generalize l.length = N at *
  by_cases hy : y3 = 0
  · obtain ⟨g1, g2⟩ := HR.out hy
    simp only at g1 g2
    subst hy
    go_enter Try.func8, Try.ntmps8
    go_wp2_with fail
    refine (K1.out _ (Below.refl _ _)).mono ?_
    rintro e w1 ⟨rfl, b1⟩
    go_wp2_with fail
    refine (K2.out _ b1).mono ?_
    rintro e w2 ⟨rfl, m2, rfl⟩
    have c2 := below_drewN' b1 m2
    go_wp2_with fail
    refine (K3.out _ c2).mono ?_
    rintro e w3 ⟨rfl, b3⟩
    have c3 := c2.trans (b3.mono c2.size)
    go_wp2_with fail
    refine (K4.out _ c3).mono ?_
    rintro e w4 ⟨rfl, b4⟩
    have c4 := c3.trans (b4.mono c3.size)
    go_wp2_with fail
    refine (K5.out _ c4).mono ?_
    rintro e w5 ⟨rfl, b5⟩
    have c5 := c4.trans (b5.mono c4.size)
    go_wp2_with fail
    refine (K6.out _ c5).mono ?_
    rintro e w6 ⟨rfl, b6⟩
    have c6 := c5.trans (b6.mono c5.size)
    cases z1 <;> (
      go_wp2_with fail
      refine (lives6 _).mono ?_
      rintro e w7 ⟨rfl, b7⟩
      go_wp2
      go_ret
      exact ⟨rfl, c6.trans (b7.mono c6.size)⟩)
  · have hy2 : (y3 == 0) = false := by simpa using hy
    go_enter Try.func8, Try.ntmps8
    go_wp2_with fail
    refine (K1.out _ (Below.refl _ _)).mono ?_
    rintro e w1 ⟨rfl, b1⟩
    go_wp2_with fail
    refine (K2.out _ b1).mono ?_
    rintro e w2 ⟨rfl, m2, rfl⟩
    have c2 := below_drewN' b1 m2
    go_wp2_with fail
    refine (K3.out _ c2).mono ?_
    rintro e w3 ⟨rfl, b3⟩
    have c3 := c2.trans (b3.mono c2.size)
    go_wp2_with fail
    refine (K4.out _ c3).mono ?_
    rintro e w4 ⟨rfl, b4⟩
    have c4 := c3.trans (b4.mono c3.size)
    go_wp2_with fail
    refine (K5.out _ c4).mono ?_
    rintro e w5 ⟨rfl, b5⟩
    have c5 := c4.trans (b5.mono c4.size)
    go_wp2_with fail
    refine (K6.out _ c5).mono ?_
    rintro e w6 ⟨rfl, b6⟩
    have c6 := c5.trans (b6.mono c5.size)
    cases z1 <;> (
      go_wp2_with fail
      refine (lives6 _).mono ?_
      rintro e w7 ⟨rfl, b7⟩
      go_wp2
      go_ret
      exact ⟨rfl, c6.trans (b7.mono c6.size)⟩)

set_option maxRecDepth 100000 in
theorem lifted (os : Os) (started : os.Started) (H : Type) (enc : TypeId × Value → H) :
    ReturnsInHanded {} Try.checked os 8 .any (Rows.drawTellsSpec.pre6 enc Try.prog Try.f8 Rows.drawTellsRow.domain false) (Rows.drawTellsSpec.post enc Try.prog Try.f8 false true false false) := by
  refine returnsInHanded_of_change (C := Try.checked) own started (by kernel_rfl) Try.func8
    (ChangeSpec.witness6 (enc := enc) (C := Try.checked) false ⟨#[], #[.slice none 0 0, .int .i64 0, .int .u64 0, .int .i64 0, .int .i64 0, .int .i64 0], []⟩ 8 (by kernel_rfl) (by kernel_rfl) (by kernel_rfl) (by kernel_rfl)) ?_
  intro W base args ds gs before hval0 hW hcnd _
  have hval : ∀ (j : Nat) t v, Try.f8.params[j]? = some t → args[j]? = some v → Value.okWide Try.prog W .any base t v := hval0
  have hW' := hW
  obtain ⟨p, q, hA0, hV, rfl, hfz, hnd⟩ := hW
  obtain ⟨rfl, rfl⟩ := trodVars_none hV
  have hA : DataW.TrodAll enc Try.prog W 0 (fun _ => true) true Try.f8.params.toList args.toList ds p := hA0
  rw [Try.params8] at hA hval
  obtain ⟨v0, vs0, d0, ds0, p0, q0, hargs, rfl, rfl, h0, r0⟩ := trodAll_cons hA
  obtain ⟨v1, vs1, d1, ds1, p1, q1, rfl, rfl, rfl, h1, r1⟩ := trodAll_cons r0
  obtain ⟨v2, vs2, d2, ds2, p2, q2, rfl, rfl, rfl, h2, r2⟩ := trodAll_cons r1
  obtain ⟨v3, vs3, d3, ds3, p3, q3, rfl, rfl, rfl, h3, r3⟩ := trodAll_cons r2
  obtain ⟨v4, vs4, d4, ds4, p4, q4, rfl, rfl, rfl, h4, r4⟩ := trodAll_cons r3
  obtain ⟨v5, vs5, d5, ds5, p5, q5, rfl, rfl, rfl, h5, r5⟩ := trodAll_cons r4
  obtain ⟨rfl, rfl, rfl⟩ := trodAll_nil r5
  obtain rfl : args = #[v0, v1, v2, v3, v4, v5] := by cases args; simp_all
  obtain ⟨A0, l0, c0, rfl, L0, I0, C0, M0⟩ := open_words Try.underlying44 Try.underlying35 cells_u64 (hval 0 44 v0 rfl rfl) h0
  obtain ⟨a1, rfl, _, _, w1⟩ := open_int Try.underlying3 (hval 1 3 v1 rfl rfl) h1
  obtain ⟨a2, rfl, _, _, w2⟩ := open_int Try.underlying35 (hval 2 35 v2 rfl rfl) h2
  obtain ⟨a3, rfl, _, _, w3⟩ := open_int Try.underlying3 (hval 3 3 v3 rfl rfl) h3
  obtain ⟨a4, rfl, _, _, w4⟩ := open_int Try.underlying3 (hval 4 3 v4 rfl rfl) h4
  obtain ⟨a5, rfl, _, _, w5⟩ := open_int Try.underlying3 (hval 5 3 v5 rfl rfl) h5
  refine (walk A0 l0 c0 L0 I0 C0 M0 a1 (i64_of_wf w1) a2 (u64_of_wf w2) a3 (i64_of_wf w3) a4 (i64_of_wf w4) a5 (i64_of_wf w5) W).mono fun e W' ⟨he, hg⟩ => ?_
  subst he
  exact ⟨_, rfl, law_post laid (by rw [Try.params8]; exact (by decide +kernel)) rfl (by kernel_rfl) Try.underlying4 rfl hW' hg⟩

theorem over : Rows.drawTellsRow.holds Try.pinned (OpenSpec.ofChange Rows.drawTellsSpec) :=
  OpenClaim.holds_of_wide 8 Try.f8 rfl rfl rfl rfl rfl rfl rfl ⟨rfl, rfl, rfl, rfl, rfl⟩ rfl rfl rfl rfl rfl (by kernel_rfl) Try.func8 (by kernel_rfl)
    (of_decide_eq_true (by kernel_rfl)) (by unfold Func.isWrapper; first | (rw [if_pos (by decide +kernel)]; kernel_rfl) | (rw [if_neg (by decide +kernel)]; exact ⟨rfl, rfl⟩))
    (fun os started H enc _ => lifted os started H enc)
theorem proved : Rows.DrawTellsSaid := over
end Go.Proofs.Ytihfhdnldpjjdaa.drawTells
