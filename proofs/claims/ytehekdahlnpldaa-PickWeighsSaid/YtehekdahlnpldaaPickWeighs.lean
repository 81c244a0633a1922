/- Statement PickWeighs: whatever the input is, the Go function returns true and each argument reads as it did. No condition. -/
import Derived.Test.YtehekdahlnpldaaRows
import Derived.Test.YtehekdahlnpldaaPickR
import Derived.Test.YtehekdahlnpldaaVecQ
import Derived.Test.YtehekdahlnpldaaBase
import Derived.ProofKit
import Derived.OpenShut
namespace Go.Proofs.Ytehekdahlnpldaa.pickWeighs
open Go.ChangeShapes Go.WideShapes Go.ChangeAt Go.RowKit
set_option linter.unusedVariables false

theorem own : ownKnob Try.prog.godebug = none := by kernel_rfl
theorem laid : laidOutB Try.prog = true := by kernel_rfl

theorem psum_find {l : List Int} {x : Int} (h0 : 0 ≤ x) : ∀ m, (∀ j, j < m → wIn (l.getD j 0)) → x < psum l m → ∃ i, i < m ∧ x < psum l (i + 1) ∧ psum l i ≤ x ∧ ∀ j, j < i → ¬ x < psum l (j + 1)
  | 0, _, h => by simp only [psum] at h; omega
  | m + 1, hw, h => by
    by_cases g : x < psum l m
    · obtain ⟨i, h1, h2, h3, h4⟩ := psum_find h0 m (fun j hj => hw j (by omega)) g
      exact ⟨i, by omega, h2, h3, h4⟩
    · refine ⟨m, by omega, h, by omega, fun j hj => ?_⟩
      have := psum_mono (l := l) (m := m) (fun q hq => hw q (by omega)) (i := j + 1) (by omega)
      omega
theorem wgh_place {l : List Int} {a : Int} {ws : List Int} {t : Int} (h : (wgh l a ws t).2.2 = 0) : ∃ i : Nat, (wgh l a ws t).1 = i ∧ i < ws.length ∧ 0 < ws.getD i 0 := by
  by_cases g : wOk ws ∧ 0 < psum ws ws.length ∧ 0 ≤ a ∧ 1 ≤ t ∧ t ≤ 64
  · obtain ⟨h1, h2, h3⟩ := g
    rw [wgh_yes h1 h2 h3] at h ⊢
    have hlt := bnd_lt (l := l) (a := a) (n := psum ws ws.length) (t := t) h2
    generalize bnd l a (psum ws ws.length) t = F at *
    obtain ⟨x, p, e⟩ := F
    simp only at h hlt ⊢
    by_cases he : e = 0
    · rw [if_pos he]
      obtain ⟨i, g1, g2, g3, g4⟩ := psum_find hlt.1 ws.length h1.2 hlt.2
      refine ⟨i, wIdx_eq g1 g2 g4, g1, ?_⟩
      simp only [psum] at g2
      omega
    · rw [if_neg he] at h; exact absurd h he
  · unfold wgh at h
    rw [if_neg g] at h
    simp at h
set_option maxRecDepth 100000 in
set_option maxHeartbeats 8000000 in
theorem walk {w : World} (A : Option Addr) (l : List Int) (c : Nat) (hA : LiesU w w.heap.size A l) (hu : ∀ x ∈ l, U64 x) (hc : l.length ≤ c) (hcm : c ≤ 9223372036854775807) (a : Int) (ha : I64 a)
    (D : Option Addr) (ws : List Int) (cd : Nat) (hD : Lies w w.heap.size D ws) (hiw : ∀ x ∈ ws, I64 x) (hcd : ws.length ≤ cd) (hmd : cd ≤ 9223372036854775807) (t : Int) (ht : I64 t) (_ : World) :
    Calls Try.prog 6 #[.slice A l.length c, .int .i64 a, .slice D ws.length cd, .int .i64 t] w fun e w' => e = .returned (.bool true) ∧ Below w.heap.size w w' := by
  by_cases g1 : 300 < l.length
  · clear hA hD hu hiw
    generalize l.length = N at *
    generalize ws.length = M at *
    have g1' : (300 : Int) < (N : Int) := by omega
    go_enter Try.func6, Try.ntmps6
    go_wp2_with fail
    refine (lives7 _).mono ?_
    rintro e wl ⟨rfl, hl⟩
    go_wp2
    go_ret
    exact ⟨rfl, hl⟩
  · by_cases g2 : 300 < ws.length
    · clear hA hD hu hiw
      generalize l.length = N at *
      generalize ws.length = M at *
      have g1' : ¬ (300 : Int) < (N : Int) := by omega
      have g2' : (300 : Int) < (M : Int) := by omega
      go_enter Try.func6, Try.ntmps6
      go_wp2_with fail
      refine (lives7 _).mono ?_
      rintro e wl ⟨rfl, hl⟩
      go_wp2
      go_ret
      exact ⟨rfl, hl⟩
    · have g1' : ¬ (300 : Int) < (l.length : Int) := by omega
      have g2' : ¬ (300 : Int) < (ws.length : Int) := by omega
      have K1 := Lib.hid (pick_Weigh A D l ws c cd a t w hA hu (by omega) hD (by omega) ha)
      have K2 := Lib.hid (fun W (h : Below w.heap.size w W) => ref_Weigh A D l ws c cd a t W ((hA.below h).mono h.size) hu (by omega) ((hD.below h).mono h.size) (by omega) ha)
      have HP := Lib.hid (@wgh_place l a ws t)
      have HL := Lib.hid (fun W (h : Below w.heap.size w W) => (hD.below h))
      unfold GivesW at K1 K2
      generalize wgh l a ws t = Z at *
      obtain ⟨k, p, e⟩ := Z
      simp only at K1 K2 HP
      clear hA hD hu hiw g1 g2
      generalize l.length = N at *
      generalize hM : ws.length = M at *
      have HM := Lib.hid hM
      clear hM
      have e1 : (k == k) = true := by simp
      have e2 : (p == p) = true := by simp
      have e3 : (e == e) = true := by simp
      by_cases he : e = 0
      · subst he
        obtain ⟨i, hi1, hi2, hi3⟩ := HP.out rfl
        subst hi1
        have hg : (i : Int) < (M : Int) := by omega
        have HI := Lib.hid hi2
        go_enter Try.func6, Try.ntmps6
        go_wp2_with fail
        refine K1.out.mono ?_
        rintro e w1 ⟨rfl, b1⟩
        have HB1 := Lib.hid b1
        clear b1
        go_wp2_with fail
        refine (K2.out _ HB1.out).mono ?_
        rintro e w2 ⟨rfl, b2⟩
        have HB2 := Lib.hid (HB1.out.trans (b2.mono HB1.out.size))
        obtain ⟨ad, rfl, _, hcell⟩ := (HL.out _ HB2.out).at (k := i) (by have := HM.out; omega)
        clear b2
        generalize ws.getD i 0 = y at *
        go_wp2_with fail
        refine (lives7 _).mono ?_
        rintro e wl ⟨rfl, hl⟩
        have HB3 := Lib.hid (HB2.out.trans (hl.mono HB2.out.size))
        clear hl
        go_wp2
        go_ret
        exact ⟨rfl, HB3.out⟩
      · have hne : (e != 0) = true := by simpa using he
        go_enter Try.func6, Try.ntmps6
        go_wp2_with fail
        refine K1.out.mono ?_
        rintro e w1 ⟨rfl, b1⟩
        have HB1 := Lib.hid b1
        clear b1
        go_wp2_with fail
        refine (K2.out _ HB1.out).mono ?_
        rintro e w2 ⟨rfl, b2⟩
        have HB2 := Lib.hid (HB1.out.trans (b2.mono HB1.out.size))
        clear b2
        go_wp2_with fail
        refine (lives7 _).mono ?_
        rintro e wl ⟨rfl, hl⟩
        have HB3 := Lib.hid (HB2.out.trans (hl.mono HB2.out.size))
        clear hl
        go_wp2
        go_ret
        exact ⟨rfl, HB3.out⟩

set_option maxRecDepth 100000 in
theorem lifted (os : Os) (started : os.Started) (H : Type) (enc : TypeId × Value → H) :
    ReturnsInHanded {} Try.checked os 6 .any (Rows.pickWeighsSpec.pre6 enc Try.prog Try.f6 Rows.pickWeighsRow.domain false) (Rows.pickWeighsSpec.post enc Try.prog Try.f6 false true false false) := by
  refine returnsInHanded_of_change (C := Try.checked) own started (by kernel_rfl) Try.func6
    (ChangeSpec.witness6 (enc := enc) (C := Try.checked) false ⟨#[], #[.slice none 0 0, .int .i64 0, .slice none 0 0, .int .i64 0], []⟩ 8 (by kernel_rfl) (by kernel_rfl) (by kernel_rfl) (by kernel_rfl)) ?_
  intro W base args ds gs before hval0 hW hcnd _
  have hval : ∀ (j : Nat) t v, Try.f6.params[j]? = some t → args[j]? = some v → Value.okWide Try.prog W .any base t v := hval0
  have hW' := hW
  obtain ⟨p, q, hA0, hV, rfl, hfz, hnd⟩ := hW
  obtain ⟨rfl, rfl⟩ := trodVars_none hV
  have hA : DataW.TrodAll enc Try.prog W 0 (fun _ => true) true Try.f6.params.toList args.toList ds p := hA0
  rw [Try.params6] at hA hval
  obtain ⟨v0, vs0, d0, ds0, p0, q0, hargs, rfl, rfl, h0, r0⟩ := trodAll_cons hA
  obtain ⟨v1, vs1, d1, ds1, p1, q1, rfl, rfl, rfl, h1, r1⟩ := trodAll_cons r0
  obtain ⟨v2, vs2, d2, ds2, p2, q2, rfl, rfl, rfl, h2, r2⟩ := trodAll_cons r1
  obtain ⟨v3, vs3, d3, ds3, p3, q3, rfl, rfl, rfl, h3, r3⟩ := trodAll_cons r2
  obtain ⟨rfl, rfl, rfl⟩ := trodAll_nil r3
  obtain rfl : args = #[v0, v1, v2, v3] := by cases args; simp_all
  obtain ⟨A0, l0, c0, rfl, L0, I0, C0, M0⟩ := open_words Try.underlying22 Try.underlying68 cells_u64 (hval 0 22 v0 rfl rfl) h0
  obtain ⟨a1, rfl, _, _, w1⟩ := open_int Try.underlying3 (hval 1 3 v1 rfl rfl) h1
  obtain ⟨A2, l2, c2, rfl, L2, I2, C2, M2⟩ := open_ints8 Try.underlying24 Try.underlying3 cells_i8 (hval 2 24 v2 rfl rfl) h2
  obtain ⟨a3, rfl, _, _, w3⟩ := open_int Try.underlying3 (hval 3 3 v3 rfl rfl) h3
  refine (walk A0 l0 c0 L0 I0 C0 M0 a1 (i64_of_wf w1) A2 l2 c2 L2 I2 C2 M2 a3 (i64_of_wf w3) W).mono fun e W' ⟨he, hg⟩ => ?_
  subst he
  exact ⟨_, rfl, law_post laid (by rw [Try.params6]; exact (by decide +kernel)) rfl (by kernel_rfl) Try.underlying4 rfl hW' hg⟩

theorem over : Rows.pickWeighsRow.holds Try.pinned (OpenSpec.ofChange Rows.pickWeighsSpec) :=
  OpenClaim.holds_of_wide 6 Try.f6 rfl rfl rfl rfl rfl rfl rfl ⟨rfl, rfl, rfl, rfl, rfl⟩ rfl rfl rfl rfl rfl (by kernel_rfl) Try.func6 (by kernel_rfl)
    (of_decide_eq_true (by kernel_rfl)) (by unfold Func.isWrapper; first | (rw [if_pos (by decide +kernel)]; kernel_rfl) | (rw [if_neg (by decide +kernel)]; exact ⟨rfl, rfl⟩))
    (fun os started H enc _ => lifted os started H enc)
theorem proved : Rows.PickWeighsSaid := over
end Go.Proofs.Ytehekdahlnpldaa.pickWeighs
