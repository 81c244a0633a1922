/- Statement TreeBounds: whatever the input is, the Go function returns true and each argument reads as it did. No condition. -/
import Derived.Test.YtednigfcpicelaaRows
import Derived.Test.YtednigfcpicelaaTrD
import Derived.Test.YtednigfcpicelaaVecT
import Derived.Test.YtednigfcpicelaaTreeJ
import Derived.Test.YtednigfcpicelaaTreeC
import Derived.Test.YtednigfcpicelaaBase
import Derived.ProofKit
import Derived.OpenShut
namespace Go.Proofs.Ytednigfcpicelaa.treeBounds
open Go.ChangeShapes Go.WideShapes Go.ChangeAt Go.RowKit
set_option linter.unusedVariables false

theorem own : ownKnob Try.prog.godebug = none := by kernel_rfl
theorem laid : laidOutB Try.prog = true := by kernel_rfl

theorem not_much {R : List Row} {l : List Int} (h : ¬ (muchV R 70 = true ∨ 300 < l.length)) : muchV R 70 = false ∧ ¬ (300 : Int) < (l.length : Int) ∧ l.length ≤ 300 := by
  refine ⟨?_, by omega, by omega⟩
  cases h2 : muchV R 70 with
  | false => rfl
  | true => exact absurd (.inl h2) h
set_option maxRecDepth 100000 in
set_option maxHeartbeats 8000000 in
theorem walk {w : World} (k : Int) (hk : I64 k) (D : Option Addr) (R : List Row) (cd : Nat) (hD : LiesR w w.heap.size D R) (hR : OkR R) (hcd : R.length ≤ cd) (hmd : cd ≤ 9223372036854775807)
    (A : Option Addr) (l : List Int) (ca : Nat) (hA : LiesU w w.heap.size A l) (hu : ∀ x ∈ l, U64 x) (hca : l.length ≤ ca) (hma : ca ≤ 9223372036854775807) (a : Int) (ha : I64 a) (t : Int) (ht : I64 t) (_ : World) :
    Calls Try.prog 5 #[.int .i64 k, .slice D R.length cd, .slice A l.length ca, .int .i64 a, .int .i64 t] w fun e w' => e = .returned (.bool true) ∧ Below w.heap.size w w' := by
  have K0 := Lib.hid (ref_Much D R cd w.heap.size 70 w hD (by omega))
  by_cases h1 : muchV R 70 = true ∨ 300 < l.length
  · clear hA hD hu hR
    generalize hmu : muchV R 70 = mu at *
    generalize l.length = N at *
    generalize R.length = Q at *
    cases mu
    · have g1 : (300 : Int) < (N : Int) := by
        rcases h1 with h | h
        · cases h
        · omega
      clear h1 hmu
      go_enter Try.func5, Try.ntmps5
      go_wp2_with fail
      refine K0.out.mono ?_
      rintro e w0 ⟨rfl, rfl⟩
      go_wp2_with fail
      refine (lives10 _).mono ?_
      rintro e wl ⟨rfl, hl⟩
      go_wp2
      go_ret
      exact ⟨rfl, hl⟩
    · clear h1 hmu
      go_enter Try.func5, Try.ntmps5
      go_wp2_with fail
      refine K0.out.mono ?_
      rintro e w0 ⟨rfl, rfl⟩
      go_wp2_with fail
      refine (lives10 _).mono ?_
      rintro e wl ⟨rfl, hl⟩
      go_wp2
      go_ret
      exact ⟨rfl, hl⟩
  · obtain ⟨l4, j1, _⟩ := not_much h1
    rw [l4] at K0
    have KD1 := Lib.hid (tree_Grow D A R l cd ca k a t w hD hR hA hu (by omega) ha (by omega) hcd)
    unfold GivesG at KD1
    have HZI : Hid ((groG k R l a t).2.2.2 = 0 → I64 (groG k R l a t).2.2.1) := fun h => by
      rw [(groG_good h).2.2.2.2.2.2.1]; exact grN_i64 (by omega) _ R a ha
    have HGD := Lib.hid (@groG_good k a t R l)
    have HGE := Lib.hid (@groG_err k a t R l)
    generalize groG k R l a t = Z at *
    by_cases hz : Z.2.2.2 = 0
    · obtain ⟨q1, q2, q3, q4, q5, q6, q7, q8, q9, q10⟩ := HGD.out hz
      have hzi := HZI.out hz
      clear HGD HGE HZI q7
      obtain ⟨zd, zn, za, ze⟩ := Z
      simp only at hz q6 q8 q9 hzi KD1
      subst hz
      subst q6
      obtain ⟨_, g2, g3, g4, g5, _⟩ := q8
      simp only at g2 g3 g4 g5
      rw [← q10] at g5
      have hR0 : 0 < R.length := q1.1
      have ha0 : 0 ≤ a := q2.2.1
      have HIT := Lib.hid q9
      have HSZ := Lib.hid g2
      clear hA hD hu hR h1 l4 q1 q2 q9 q10 g2
      generalize l.length = N at *
      generalize R.length = Q at *
      generalize dimR R = dm at *
      have KM := Lib.hid (fun W => tree_Most k dm Q t W)
      generalize mostT k dm Q t = mo at *
      go_enter Try.func5, Try.ntmps5
      go_wp2_with fail
      refine K0.out.mono ?_
      rintro e w0 ⟨rfl, rfl⟩
      go_wp2_with fail
      refine KD1.out.mono ?_
      rintro e w1 ⟨A1, N1, c1, rfl, m1, l1, o1, b1⟩
      have HM1 := Lib.hid m1
      have HO1 := Lib.hid o1
      have J1 := Lib.hid (((Kpc.start w).below b1).alloc #[.int .i64 dm, .slice A1 N1.length c1] 24)
      have H1 := Lib.hid (liesT_up l1 ((Below.refl _ _).alloc (Nat.le_refl _) (.cells #[.int .i64 dm, .slice A1 N1.length c1] 24)))
      have hn1 : N1.length = zn.length := by have := congrArg List.length m1; simpa using this
      have hsz : (N1.getD 0 tn0).sz = Q := by
        have : cnt (N1.getD 0 tn0) = zn.getD 0 tn0 := by rw [← map_getD_cnt, m1]
        rw [← HSZ.out, ← this]; rfl
      have hcz : zn.map cnt = zn := by
        rw [← m1, List.map_map]
        exact List.map_congr_left fun n _ => rfl
      have hT := isT_same (N := N1) HIT.out (m1.trans hcz.symm)
      have hp1 := isT_len hT
      obtain ⟨ad, eA, _, _⟩ := H1.out.at (k := 0) hp1.1
      subst eA
      have HC : Hid (∀ W, LiesT W W.heap.size (some ad) N1 → W.cell? ⟨ad.block, ad.off + 4, none⟩ = some (.int .i64 Q)) := fun W h => by
        obtain ⟨ad', e', _, ⟨_, _, _, _, c4⟩, _⟩ := h.at (k := 0) hp1.1
        cases e'
        rw [hsz] at c4
        exact c4
      have K1 := Lib.hid (fun W h => tree_isT N1 dm (some ad) c1 W.heap.size W (by omega) HO1.out h (Nat.le_refl _))
      have K2 := Lib.hid (fun W h => ref_isT N1 dm (some ad) c1 W.heap.size W (by omega) h (Nat.le_refl _))
      rw [hT] at K1 K2
      have hlen : (N1.length : Int) ≤ 2 * (Q : Int) - 1 := by omega
      have hlen0 : (0 : Int) < (N1.length : Int) := by omega
      have hQ0 : (0 : Int) < (Q : Int) := by omega
      have hQ64 : (Q : Int) ≤ 64 := by omega
      obtain ⟨hzi1, hzi2⟩ := hzi
      have e1 : ((Q : Int) == (Q : Int)) = true := by simp
      clear l1 b1 m1 o1 hsz hcz hT hn1 hp1 HIT HSZ HM1
      generalize N1.length = n1 at *
      obtain ⟨x0, x1, _, _⟩ := J1.out.head.two
      go_wp2_with fail
      refine (K1.out _ H1.out).mono ?_
      rintro e w2 ⟨rfl, b2⟩
      have J2 := Lib.hid (J1.out.below b2)
      have H2 := Lib.hid (liesT_up H1.out b2)
      clear b2 x0 x1
      obtain ⟨x0, x1, _, _⟩ := J2.out.head.two
      go_wp2_with fail
      refine (K2.out _ H2.out).mono ?_
      rintro e w3 ⟨rfl, b3⟩
      have J3 := Lib.hid (J2.out.below b3)
      have H3 := Lib.hid (liesT_up H2.out b3)
      clear b3 x0 x1
      obtain ⟨x0, x1, _, _⟩ := J3.out.head.two
      have x4 := HC.out _ H3.out
      go_wp2_with fail
      refine (KM.out _).mono ?_
      rintro e w4 ⟨rfl, rfl⟩
      go_wp2_with fail
      refine (lives10 _).mono ?_
      rintro e wl ⟨rfl, hl⟩
      have J4 := Lib.hid (J3.out.below hl)
      go_wp2
      go_ret
      exact ⟨rfl, J4.out.2.1⟩
    · have hZ := HGE.out hz
      clear HGD HGE HZI
      generalize Z.2.2.2 = ze at *
      subst hZ
      simp only at KD1
      clear hA hD hu hR h1 l4
      generalize l.length = N at *
      generalize R.length = Q at *
      have hne : (ze != 0) = true := by simp [hz]
      go_enter Try.func5, Try.ntmps5
      go_wp2_with fail
      refine K0.out.mono ?_
      rintro e w0 ⟨rfl, rfl⟩
      go_wp2_with fail
      refine KD1.out.mono ?_
      rintro e w1 ⟨A1, N1, c1, rfl, m1, l1, o1, b1⟩
      have hn1 : N1.length = 0 := by have := congrArg List.length m1; simpa using this
      rw [hn1]
      have J1 := Lib.hid (((Kpc.start w).below b1).alloc #[.int .i64 0, .slice A1 0 c1] 24)
      clear m1 l1 o1 b1 hn1
      obtain ⟨x0, x1, _, _⟩ := J1.out.head.two
      go_wp2_with fail
      refine (lives10 _).mono ?_
      rintro e wl ⟨rfl, hl⟩
      have J4 := Lib.hid (J1.out.below hl)
      go_wp2
      go_ret
      exact ⟨rfl, J4.out.2.1⟩

set_option maxRecDepth 100000 in
theorem lifted (os : Os) (started : os.Started) (H : Type) (enc : TypeId × Value → H) :
    ReturnsInHanded {} Try.checked os 5 .any (Rows.treeBoundsSpec.pre6 enc Try.prog Try.f5 Rows.treeBoundsRow.domain false) (Rows.treeBoundsSpec.post enc Try.prog Try.f5 false true false false) := by
  refine returnsInHanded_of_change (C := Try.checked) own started (by kernel_rfl) Try.func5
    (ChangeSpec.witness6 (enc := enc) (C := Try.checked) false ⟨#[], #[.int .i64 0, .slice none 0 0, .slice none 0 0, .int .i64 0, .int .i64 0], []⟩ 8 (by kernel_rfl) (by kernel_rfl) (by kernel_rfl) (by kernel_rfl)) ?_
  intro W base args ds gs before hval0 hW hcnd _
  have hval : ∀ (j : Nat) t v, Try.f5.params[j]? = some t → args[j]? = some v → Value.okWide Try.prog W .any base t v := hval0
  have hW' := hW
  obtain ⟨p, q, hA0, hV, rfl, hfz, hnd⟩ := hW
  obtain ⟨rfl, rfl⟩ := trodVars_none hV
  have hA : DataW.TrodAll enc Try.prog W 0 (fun _ => true) true Try.f5.params.toList args.toList ds p := hA0
  rw [Try.params5] at hA hval
  obtain ⟨v0, vs0, d0, ds0, p0, q0, hargs, rfl, rfl, h0, r0⟩ := trodAll_cons hA
  obtain ⟨v1, vs1, d1, ds1, p1, q1, rfl, rfl, rfl, h1, r1⟩ := trodAll_cons r0
  obtain ⟨v2, vs2, d2, ds2, p2, q2, rfl, rfl, rfl, h2, r2⟩ := trodAll_cons r1
  obtain ⟨v3, vs3, d3, ds3, p3, q3, rfl, rfl, rfl, h3, r3⟩ := trodAll_cons r2
  obtain ⟨v4, vs4, d4, ds4, p4, q4, rfl, rfl, rfl, h4, r4⟩ := trodAll_cons r3
  obtain ⟨rfl, rfl, rfl⟩ := trodAll_nil r4
  obtain rfl : args = #[v0, v1, v2, v3, v4] := by cases args; simp_all
  obtain ⟨a0, rfl, _, _, w0⟩ := open_int Try.underlying3 (hval 0 3 v0 rfl rfl) h0
  obtain ⟨A1, R1, c1, rfl, L1, I1, C1, M1⟩ := open_rows8 Try.underlying28 Try.underlying35 Try.underlying3 cells_l8 cells_i8 (hval 1 28 v1 rfl rfl) h1
  obtain ⟨A2, l2, c2, rfl, L2, I2, C2, M2⟩ := open_words Try.underlying29 Try.underlying57 cells_u64 (hval 2 29 v2 rfl rfl) h2
  obtain ⟨a3, rfl, _, _, w3⟩ := open_int Try.underlying3 (hval 3 3 v3 rfl rfl) h3
  obtain ⟨a4, rfl, _, _, w4⟩ := open_int Try.underlying3 (hval 4 3 v4 rfl rfl) h4
  refine (walk a0 (i64_of_wf w0) A1 R1 c1 L1 I1 C1 M1 A2 l2 c2 L2 I2 C2 M2 a3 (i64_of_wf w3) a4 (i64_of_wf w4) W).mono fun e W' ⟨he, hg⟩ => ?_
  subst he
  exact ⟨_, rfl, law_post laid (by rw [Try.params5]; exact (by decide +kernel)) rfl (by kernel_rfl) Try.underlying4 rfl hW' hg⟩

theorem over : Rows.treeBoundsRow.holds Try.pinned (OpenSpec.ofChange Rows.treeBoundsSpec) :=
  OpenClaim.holds_of_wide 5 Try.f5 rfl rfl rfl rfl rfl rfl rfl ⟨rfl, rfl, rfl, rfl, rfl⟩ rfl rfl rfl rfl rfl (by kernel_rfl) Try.func5 (by kernel_rfl)
    (of_decide_eq_true (by kernel_rfl)) (by unfold Func.isWrapper; first | (rw [if_pos (by decide +kernel)]; kernel_rfl) | (rw [if_neg (by decide +kernel)]; exact ⟨rfl, rfl⟩))
    (fun os started H enc _ => lifted os started H enc)
theorem proved : Rows.TreeBoundsSaid := over
end Go.Proofs.Ytednigfcpicelaa.treeBounds
