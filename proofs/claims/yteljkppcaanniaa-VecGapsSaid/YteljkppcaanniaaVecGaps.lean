/- Statement VecGaps: whatever the input is, the Go function returns true and each argument reads as it did. No condition. -/
import Derived.Test.YteljkppcaanniaaRows
import Derived.Test.YteljkppcaanniaaVecO
import Derived.Test.YteljkppcaanniaaVecQ
import Derived.Test.YteljkppcaanniaaBase
import Derived.ProofKit
import Derived.OpenShut
namespace Go.Proofs.Yteljkppcaanniaa.vecGaps
open Go.ChangeShapes Go.WideShapes Go.ChangeAt Go.RowKit
set_option linter.unusedVariables false

theorem own : ownKnob Try.prog.godebug = none := by kernel_rfl
theorem laid : laidOutB Try.prog = true := by kernel_rfl

theorem gap_sym (a b : List Int) : gapE b a = gapE a b := by
  rw [Bool.eq_iff_iff, gapE_iff]
  unfold gapE
  rw [Bool.and_eq_true]
  exact And.comm
theorem gapNN_sym (a b : List Int) : gapNN b a = gapNN a b := by
  unfold gapNN
  rw [gap_sym]
  by_cases h : gapE a b = true
  · rw [if_pos h, if_pos h, (gapE_ok h).2.2.1, gapI_symm]
  · rw [if_neg h, if_neg h]
theorem gapCC_sym (a b : List Int) : gapCC b a = gapCC a b := by unfold gapCC; rw [gap_sym]
theorem gapCC_or (a b : List Int) : gapCC a b = 0 ∨ gapCC a b = 80 := by unfold gapCC; split <;> simp
theorem gapCC_zero {a b : List Int} : gapCC a b = 0 ↔ gapE a b = true := by
  unfold gapCC
  cases gapE a b <;> simp
theorem gap_zero {a b : List Int} (h : gapE a b = true) : gapNN a b = 0 ↔ a = b := by
  unfold gapNN; rw [if_pos h]
  exact gap_same (gapE_ok h).2.2.1.symm
theorem gap_via {a b c : List Int} (h1 : gapE a b = true) (h2 : gapE b c = true) : gapE a c = true ∧ gapNN a c ≤ gapNN a b + gapNN b c := by
  have h3 : gapE a c = true := by
    obtain ⟨x1, x2⟩ := gapE_iff.1 h1
    obtain ⟨y1, y2⟩ := gapE_iff.1 h2
    refine gapE_iff.2 ⟨x1, ?_⟩
    have e := (gapE_ok h1).2.2.1
    rw [← e]; exact y2
  refine ⟨h3, ?_⟩
  unfold gapNN
  rw [if_pos h1, if_pos h2, if_pos h3, (gapE_ok h1).2.2.1]
  exact gapI_tri a b c a.length
theorem gap_bd {a b : List Int} : 0 ≤ gapNN a b ∧ gapNN a b ≤ 34359738360 := by
  unfold gapNN
  split
  · rename_i h
    obtain ⟨h1, h2, _, h4⟩ := gapE_ok h
    have := gapI_bd h1 h2 a.length
    omega
  · omega
set_option maxRecDepth 100000 in
set_option maxHeartbeats 8000000 in
theorem walk (A : Option Addr) (a : List Int) (ca : Nat) {w : World} (hA : Lies w w.heap.size A a) (ha : ∀ x ∈ a, I64 x) (hca : a.length ≤ ca) (hma : ca ≤ 9223372036854775807) (B : Option Addr) (b : List Int) (cb : Nat) (hB : Lies w w.heap.size B b) (hb : ∀ x ∈ b, I64 x) (hcb : b.length ≤ cb) (hmb : cb ≤ 9223372036854775807) (C : Option Addr) (c : List Int) (cc : Nat) (hC : Lies w w.heap.size C c) (hc : ∀ x ∈ c, I64 x) (hcc : c.length ≤ cc) (hmc : cc ≤ 9223372036854775807)
    (D : Option Addr) (R : List Row) (cd : Nat) (hD : LiesR w w.heap.size D R) (hR : OkR R) (hcd : R.length ≤ cd) (hmd : cd ≤ 9223372036854775807) (_ : World) :
    Calls Try.prog 11 #[.slice A a.length ca, .slice B b.length cb, .slice C c.length cc, .slice D R.length cd] w fun e w' => e = .returned (.bool true) ∧ Below w.heap.size w w' := by
  have K0 := Lib.hid (ref_Much D R cd w.heap.size 60 w hD (by omega))
  by_cases h1 : 30 < a.length ∨ 30 < b.length ∨ 30 < c.length ∨ muchV R 60 = true
  · clear hA hB hC hD ha hb hc hR
    generalize hmu : muchV R 60 = mu at *
    generalize a.length = N at *
    generalize b.length = M at *
    generalize c.length = L at *
    generalize R.length = Q at *
    by_cases g1 : 30 < N
    · have g1' : (30 : Int) < (N : Int) := by omega
      clear h1 hmu
      go_enter Try.func11, Try.ntmps11
      go_wp2_with fail
      refine (lives8 _).mono ?_
      rintro e wl ⟨rfl, hl⟩
      go_wp2
      go_ret
      exact ⟨rfl, below_tr (Below.refl _ _) hl⟩
    · have g1' : ¬ (30 : Int) < (N : Int) := by omega
      by_cases g2 : 30 < M
      · have g2' : (30 : Int) < (M : Int) := by omega
        clear h1 hmu
        go_enter Try.func11, Try.ntmps11
        go_wp2_with fail
        refine (lives8 _).mono ?_
        rintro e wl ⟨rfl, hl⟩
        go_wp2
        go_ret
        exact ⟨rfl, below_tr (Below.refl _ _) hl⟩
      · have g2' : ¬ (30 : Int) < (M : Int) := by omega
        by_cases g3 : 30 < L
        · have g3' : (30 : Int) < (L : Int) := by omega
          clear h1 hmu
          go_enter Try.func11, Try.ntmps11
          go_wp2_with fail
          refine (lives8 _).mono ?_
          rintro e wl ⟨rfl, hl⟩
          go_wp2
          go_ret
          exact ⟨rfl, below_tr (Below.refl _ _) hl⟩
        · have g3' : ¬ (30 : Int) < (L : Int) := by omega
          obtain rfl : mu = true := by
            rcases h1 with h | h | h | h
            · omega
            · omega
            · omega
            · exact h
          clear h1 hmu
          go_enter Try.func11, Try.ntmps11
          go_wp2_with fail
          refine K0.out.mono ?_
          rintro e w0 ⟨rfl, rfl⟩
          go_wp2_with fail
          refine (lives8 _).mono ?_
          rintro e wl ⟨rfl, hl⟩
          go_wp2
          go_ret
          exact ⟨rfl, below_tr (Below.refl _ _) hl⟩
  · have l1 : a.length ≤ 30 := by omega
    have l2 : b.length ≤ 30 := by omega
    have l3 : c.length ≤ 30 := by omega
    have l4 : muchV R 60 = false := by
      cases h : muchV R 60 with
      | false => rfl
      | true => exact absurd (.inr (.inr (.inr h))) h1
    rw [l4] at K0
    have i1 : ((a.length : Nat) : Int) ≤ 9223372036854775807 := by omega
    have i2 : ((b.length : Nat) : Int) ≤ 9223372036854775807 := by omega
    have i3 : ((c.length : Nat) : Int) ≤ 9223372036854775807 := by omega
    have i4 : ((R.length : Nat) : Int) ≤ 9223372036854775807 := by omega
    have j1 : ¬ (30 : Int) < (a.length : Int) := by omega
    have j2 : ¬ (30 : Int) < (b.length : Int) := by omega
    have j3 : ¬ (30 : Int) < (c.length : Int) := by omega
    have LA := fun W (h : Below w.heap.size w W) => (hA.below h).mono h.size
    have LB := fun W (h : Below w.heap.size w W) => (hB.below h).mono h.size
    have LC := fun W (h : Below w.heap.size w W) => (hC.below h).mono h.size
    have LD := fun W (h : Below w.heap.size w W) => (hD.below h).mono h.size
    have K1 := Lib.hid (fun W h => vec_Gap A B a b ca cb W.heap.size W (LA W h) (LB W h) i1 i2 hca hcb)
    have K2 := Lib.hid (fun W h => ref_Gap A B a b ca cb W.heap.size W (LA W h) (LB W h))
    have K3 := Lib.hid (fun W h => vec_Gap B A b a cb ca W.heap.size W (LB W h) (LA W h) i2 i1 hcb hca)
    rw [gapNN_sym a b, gapCC_sym a b] at K3
    have K4 := Lib.hid (fun W h => ref_same1 A B a b ca cb W.heap.size W (LA W h) (LB W h) i1 i2)
    have K5 := Lib.hid (fun W h => vec_Gap B C b c cb cc W.heap.size W (LB W h) (LC W h) i2 i3 hcb hcc)
    have K6 := Lib.hid (fun W h => vec_Gap A C a c ca cc W.heap.size W (LA W h) (LC W h) i1 i3 hca hcc)
    have K7 := Lib.hid (fun W h => vec_Near D A R a cd ca W.heap.size W (LD W h) (LA W h) hR i1 i4 hca)
    have K8 := Lib.hid (fun W h => ref_Near D A R a cd ca W.heap.size W (LD W h) (LA W h) i4)
    have HZ := Lib.hid (fun h => gap_zero (a := a) (b := b) (gapCC_zero.1 h))
    have HV : Hid (gapCC a b = 0 → gapCC b c = 0 → gapCC a c = 0 ∧ gapNN a c ≤ gapNN a b + gapNN b c) := fun x y => ⟨gapCC_zero.2 (gap_via (gapCC_zero.1 x) (gapCC_zero.1 y)).1, (gap_via (gapCC_zero.1 x) (gapCC_zero.1 y)).2⟩
    have e1 := gapCC_or a b
    have e2 := gapCC_or b c
    have e3 := gapCC_or a c
    obtain ⟨n1, n2⟩ := gap_bd (a := a) (b := b)
    obtain ⟨m1, m2⟩ := gap_bd (a := b) (b := c)
    obtain ⟨k1, k2⟩ := gap_bd (a := a) (b := c)
    generalize gapNN a b = n at *
    generalize gapCC a b = x at *
    generalize gapNN b c = m at *
    generalize gapCC b c = y at *
    generalize gapNN a c = k at *
    generalize gapCC a c = z at *
    generalize nearAt R a = q1 at *
    generalize nearFar R a = q2 at *
    generalize nearC R a = q3 at *
    generalize hsm : decide (a = b) = sm at *
    have HS : Hid (x = 0 → sm = (n == 0)) := fun hx => by
      rw [← hsm, Bool.eq_iff_iff, decide_eq_true_iff, beq_iff_eq]
      exact (HZ.out hx).symm
    clear hA hB hC hD ha hb hc LA LB LC LD HZ h1 hsm hR l4
    generalize a.length = N at *
    generalize b.length = M at *
    generalize c.length = L at *
    generalize R.length = Q at *
    rcases e1 with rfl | rfl
    · have hsm := HS.out rfl
      by_cases hn : n = 0
      all_goals
        have hn0 : (n == 0) = sm := hsm.symm
        have hn1 := Lib.hid hsm
        clear hsm HS
        rcases e2 with rfl | rfl
        · obtain ⟨rfl, hle⟩ := HV.out rfl rfl
          have hle' : decide (n + m < k) = false := decide_eq_false (by omega)
          clear HV e3 hn hn1
          go_enter Try.func11, Try.ntmps11
          go_wp2_with fail
          refine K0.out.mono ?_
          rintro e w0 ⟨rfl, rfl⟩
          go_wp2_with fail
          refine (K1.out _ (Below.refl _ _)).mono ?_
          rintro e w1 ⟨rfl, hw⟩
          have c1 := below_qd (Below.refl _ _) hw
          clear hw
          go_wp2_with fail
          refine (K2.out _ c1).mono ?_
          rintro e w2 ⟨rfl, hw⟩
          have c2 := below_qd c1 hw
          clear hw
          go_wp2_with fail
          refine (K3.out _ c2).mono ?_
          rintro e w3 ⟨rfl, hw⟩
          have c3 := below_qd c2 hw
          clear hw
          go_wp2_with fail
          refine (K4.out _ c3).mono ?_
          rintro e w4 ⟨rfl, hw⟩
          have c4 := below_qd c3 hw
          clear hw
          go_wp2_with fail
          refine (K5.out _ c4).mono ?_
          rintro e w5 ⟨rfl, hw⟩
          have c5 := below_qd c4 hw
          clear hw
          go_wp2_with fail
          refine (K6.out _ c5).mono ?_
          rintro e w6 ⟨rfl, hw⟩
          have c6 := below_qd c5 hw
          clear hw
          go_wp2_with fail
          refine (K7.out _ c6).mono ?_
          rintro e w7 ⟨rfl, hw⟩
          have c7 := below_qd c6 hw
          clear hw
          go_wp2_with fail
          refine (K8.out _ c7).mono ?_
          rintro e w8 ⟨rfl, hw⟩
          have c8 := below_qd c7 hw
          clear hw
          go_wp2_with fail
          refine (lives8 _).mono ?_
          rintro e wl ⟨rfl, hl⟩
          go_wp2
          go_ret
          exact ⟨rfl, below_tr c8 hl⟩
        · clear HV e3 hn hn1
          go_enter Try.func11, Try.ntmps11
          go_wp2_with fail
          refine K0.out.mono ?_
          rintro e w0 ⟨rfl, rfl⟩
          go_wp2_with fail
          refine (K1.out _ (Below.refl _ _)).mono ?_
          rintro e w1 ⟨rfl, hw⟩
          have c1 := below_qd (Below.refl _ _) hw
          clear hw
          go_wp2_with fail
          refine (K2.out _ c1).mono ?_
          rintro e w2 ⟨rfl, hw⟩
          have c2 := below_qd c1 hw
          clear hw
          go_wp2_with fail
          refine (K3.out _ c2).mono ?_
          rintro e w3 ⟨rfl, hw⟩
          have c3 := below_qd c2 hw
          clear hw
          go_wp2_with fail
          refine (K4.out _ c3).mono ?_
          rintro e w4 ⟨rfl, hw⟩
          have c4 := below_qd c3 hw
          clear hw
          go_wp2_with fail
          refine (K5.out _ c4).mono ?_
          rintro e w5 ⟨rfl, hw⟩
          have c5 := below_qd c4 hw
          clear hw
          go_wp2_with fail
          refine (K6.out _ c5).mono ?_
          rintro e w6 ⟨rfl, hw⟩
          have c6 := below_qd c5 hw
          clear hw
          go_wp2_with fail
          refine (K7.out _ c6).mono ?_
          rintro e w7 ⟨rfl, hw⟩
          have c7 := below_qd c6 hw
          clear hw
          go_wp2_with fail
          refine (K8.out _ c7).mono ?_
          rintro e w8 ⟨rfl, hw⟩
          have c8 := below_qd c7 hw
          clear hw
          go_wp2_with fail
          refine (lives8 _).mono ?_
          rintro e wl ⟨rfl, hl⟩
          go_wp2
          go_ret
          exact ⟨rfl, below_tr c8 hl⟩
    · clear HS HV e2 e3
      go_enter Try.func11, Try.ntmps11
      go_wp2_with fail
      refine K0.out.mono ?_
      rintro e w0 ⟨rfl, rfl⟩
      go_wp2_with fail
      refine (K1.out _ (Below.refl _ _)).mono ?_
      rintro e w1 ⟨rfl, hw⟩
      have c1 := below_qd (Below.refl _ _) hw
      clear hw
      go_wp2_with fail
      refine (K2.out _ c1).mono ?_
      rintro e w2 ⟨rfl, hw⟩
      have c2 := below_qd c1 hw
      clear hw
      go_wp2_with fail
      refine (K3.out _ c2).mono ?_
      rintro e w3 ⟨rfl, hw⟩
      have c3 := below_qd c2 hw
      clear hw
      go_wp2_with fail
      refine (K5.out _ c3).mono ?_
      rintro e w4 ⟨rfl, hw⟩
      have c4 := below_qd c3 hw
      clear hw
      go_wp2_with fail
      refine (K6.out _ c4).mono ?_
      rintro e w5 ⟨rfl, hw⟩
      have c5 := below_qd c4 hw
      clear hw
      go_wp2_with fail
      refine (K7.out _ c5).mono ?_
      rintro e w6 ⟨rfl, hw⟩
      have c6 := below_qd c5 hw
      clear hw
      go_wp2_with fail
      refine (K8.out _ c6).mono ?_
      rintro e w7 ⟨rfl, hw⟩
      have c7 := below_qd c6 hw
      clear hw
      go_wp2_with fail
      refine (lives8 _).mono ?_
      rintro e wl ⟨rfl, hl⟩
      go_wp2
      go_ret
      exact ⟨rfl, below_tr c7 hl⟩

set_option maxRecDepth 100000 in
theorem lifted (os : Os) (started : os.Started) (H : Type) (enc : TypeId × Value → H) :
    ReturnsInHanded {} Try.checked os 11 .any (Rows.vecGapsSpec.pre6 enc Try.prog Try.f11 Rows.vecGapsRow.domain false) (Rows.vecGapsSpec.post enc Try.prog Try.f11 false true false false) := by
  refine returnsInHanded_of_change (C := Try.checked) own started (by kernel_rfl) Try.func11
    (ChangeSpec.witness6 (enc := enc) (C := Try.checked) false ⟨#[], #[.slice none 0 0, .slice none 0 0, .slice none 0 0, .slice none 0 0], []⟩ 8 (by kernel_rfl) (by kernel_rfl) (by kernel_rfl) (by kernel_rfl)) ?_
  intro W base args ds gs before hval0 hW hcnd _
  have hval : ∀ (j : Nat) t v, Try.f11.params[j]? = some t → args[j]? = some v → Value.okWide Try.prog W .any base t v := hval0
  have hW' := hW
  obtain ⟨p, q, hA0, hV, rfl, hfz, hnd⟩ := hW
  obtain ⟨rfl, rfl⟩ := trodVars_none hV
  have hA : DataW.TrodAll enc Try.prog W 0 (fun _ => true) true Try.f11.params.toList args.toList ds p := hA0
  rw [Try.params11] at hA hval
  obtain ⟨v0, vs0, d0, ds0, p0, q0, hargs, rfl, rfl, h0, r0⟩ := trodAll_cons hA
  obtain ⟨v1, vs1, d1, ds1, p1, q1, rfl, rfl, rfl, h1, r1⟩ := trodAll_cons r0
  obtain ⟨v2, vs2, d2, ds2, p2, q2, rfl, rfl, rfl, h2, r2⟩ := trodAll_cons r1
  obtain ⟨v3, vs3, d3, ds3, p3, q3, rfl, rfl, rfl, h3, r3⟩ := trodAll_cons r2
  obtain ⟨rfl, rfl, rfl⟩ := trodAll_nil r3
  obtain rfl : args = #[v0, v1, v2, v3] := by cases args; simp_all
  obtain ⟨A0, l0, c0, rfl, L0, I0, C0, M0⟩ := open_ints8 Try.underlying24 Try.underlying3 cells_i8 (hval 0 24 v0 rfl rfl) h0
  obtain ⟨A1, l1, c1, rfl, L1, I1, C1, M1⟩ := open_ints8 Try.underlying24 Try.underlying3 cells_i8 (hval 1 24 v1 rfl rfl) h1
  obtain ⟨A2, l2, c2, rfl, L2, I2, C2, M2⟩ := open_ints8 Try.underlying24 Try.underlying3 cells_i8 (hval 2 24 v2 rfl rfl) h2
  obtain ⟨A3, R3, c3, rfl, L3, I3, C3, M3⟩ := open_rows8 Try.underlying43 Try.underlying24 Try.underlying3 cells_l8 cells_i8 (hval 3 43 v3 rfl rfl) h3
  refine (walk A0 l0 c0 L0 I0 C0 M0 A1 l1 c1 L1 I1 C1 M1 A2 l2 c2 L2 I2 C2 M2 A3 R3 c3 L3 I3 C3 M3 W).mono fun e W' ⟨he, hg⟩ => ?_
  subst he
  exact ⟨_, rfl, law_post laid (by rw [Try.params11]; exact (by decide +kernel)) rfl (by kernel_rfl) Try.underlying4 rfl hW' hg⟩

theorem over : Rows.vecGapsRow.holds Try.pinned (OpenSpec.ofChange Rows.vecGapsSpec) :=
  OpenClaim.holds_of_wide 11 Try.f11 rfl rfl rfl rfl rfl rfl rfl ⟨rfl, rfl, rfl, rfl, rfl⟩ rfl rfl rfl rfl rfl (by kernel_rfl) Try.func11 (by kernel_rfl)
    (of_decide_eq_true (by kernel_rfl)) (by unfold Func.isWrapper; first | (rw [if_pos (by decide +kernel)]; kernel_rfl) | (rw [if_neg (by decide +kernel)]; exact ⟨rfl, rfl⟩))
    (fun os started H enc _ => lifted os started H enc)
theorem proved : Rows.VecGapsSaid := over
end Go.Proofs.Yteljkppcaanniaa.vecGaps
