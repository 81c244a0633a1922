/- Statement VecOrders: whatever the input is, the Go function returns true and each argument reads as it did. No condition. -/
import Derived.Test.YteljkppcaanniaaRows
import Derived.Test.YteljkppcaanniaaVecO
import Derived.Test.YteljkppcaanniaaVecQ
import Derived.Test.YteljkppcaanniaaBase
import Derived.ProofKit
import Derived.OpenShut
namespace Go.Proofs.Yteljkppcaanniaa.vecOrders
open Go.ChangeShapes Go.WideShapes Go.ChangeAt Go.RowKit
set_option linter.unusedVariables false

theorem own : ownKnob Try.prog.godebug = none := by kernel_rfl
theorem laid : laidOutB Try.prog = true := by kernel_rfl

set_option maxRecDepth 100000 in
set_option maxHeartbeats 4000000 in
theorem walk (A : Option Addr) (a : List Int) (ca : Nat) {w : World} (hA : Lies w w.heap.size A a) (ha : ∀ x ∈ a, I64 x) (hca : a.length ≤ ca) (hma : ca ≤ 9223372036854775807) (B : Option Addr) (b : List Int) (cb : Nat) (hB : Lies w w.heap.size B b) (hb : ∀ x ∈ b, I64 x) (hcb : b.length ≤ cb) (hmb : cb ≤ 9223372036854775807) (C : Option Addr) (c : List Int) (cc : Nat) (hC : Lies w w.heap.size C c) (hc : ∀ x ∈ c, I64 x) (hcc : c.length ≤ cc) (hmc : cc ≤ 9223372036854775807) (_ : World) :
    Calls Try.prog 10 #[.slice A a.length ca, .slice B b.length cb, .slice C c.length cc] w fun e w' => e = .returned (.bool true) ∧ Below w.heap.size w w' := by
  by_cases h1 : 30 < a.length ∨ 30 < b.length ∨ 30 < c.length
  · clear hA hB hC ha hb hc
    generalize a.length = N at *
    generalize b.length = M at *
    generalize c.length = L at *
    by_cases g1 : 30 < N
    · have g1' : (30 : Int) < (N : Int) := by omega
      go_enter Try.func10, Try.ntmps10
      go_wp2_with fail
      refine (lives8 _).mono ?_
      rintro e w1 ⟨rfl, b1⟩
      go_wp2
      go_ret
      exact ⟨rfl, b1⟩
    · have g1' : ¬ (30 : Int) < (N : Int) := by omega
      by_cases g2 : 30 < M
      · have g2' : (30 : Int) < (M : Int) := by omega
        go_enter Try.func10, Try.ntmps10
        go_wp2_with fail
        refine (lives8 _).mono ?_
        rintro e w1 ⟨rfl, b1⟩
        go_wp2
        go_ret
        exact ⟨rfl, b1⟩
      · have g2' : ¬ (30 : Int) < (M : Int) := by omega
        have g3' : (30 : Int) < (L : Int) := by omega
        go_enter Try.func10, Try.ntmps10
        go_wp2_with fail
        refine (lives8 _).mono ?_
        rintro e w1 ⟨rfl, b1⟩
        go_wp2
        go_ret
        exact ⟨rfl, b1⟩
  · have l1 : a.length ≤ 30 := by omega
    have l2 : b.length ≤ 30 := by omega
    have l3 : c.length ≤ 30 := by omega
    have i1 : ((a.length : Nat) : Int) ≤ 9223372036854775807 := by omega
    have i2 : ((b.length : Nat) : Int) ≤ 9223372036854775807 := by omega
    have i3 : ((c.length : Nat) : Int) ≤ 9223372036854775807 := by omega
    have j1 : ¬ (30 : Int) < (a.length : Int) := by omega
    have j2 : ¬ (30 : Int) < (b.length : Int) := by omega
    have j3 : ¬ (30 : Int) < (c.length : Int) := by omega
    have LA := fun W (h : Below w.heap.size w W) => (hA.below h).mono h.size
    have LB := fun W (h : Below w.heap.size w W) => (hB.below h).mono h.size
    have LC := fun W (h : Below w.heap.size w W) => (hC.below h).mono h.size
    have K1 := Lib.hid (fun W h => vec_Order A B a b ca cb W.heap.size W (LA W h) (LB W h) i1 i2)
    have K2 := Lib.hid (fun W h => ref_Order A B a b ca cb W.heap.size W (LA W h) (LB W h) i1 i2)
    have K3 := Lib.hid (fun W h => vec_Order B A b a cb ca W.heap.size W (LB W h) (LA W h) i2 i1)
    have K4 := Lib.hid (fun W h => ref_same1 A B a b ca cb W.heap.size W (LA W h) (LB W h) i1 i2)
    have K5 := Lib.hid (fun W h => vec_Order B C b c cb cc W.heap.size W (LB W h) (LC W h) i2 i3)
    have K6 := Lib.hid (fun W h => vec_Order A C a c ca cc W.heap.size W (LA W h) (LC W h) i1 i3)
    have K7 := Lib.hid (fun W h => vec_Open A B a b ca cb W (LA W h) (LB W h) (by omega) (by omega))
    have K8 := Lib.hid (fun W h => ref_Open A B a b ca cb W (LA W h) (LB W h) (by omega) (by omega))
    have HZ := Lib.hid (ordL_zero a b)
    have HT := Lib.hid (ordL_tri a b c)
    have hop : ((openL a b).length : Int) ≤ 9223372036854775807 := by
      have := openK_len a b (min a.length b.length)
      unfold openL; omega
    have K9 := Lib.hid (fun W A1 A2 c1 c2 (h1 : Lies W W.heap.size A1 (openL a b)) (h2 : Lies W W.heap.size A2 (openL a b)) => ref_same1 A1 A2 (openL a b) (openL a b) c1 c2 W.heap.size W h1 h2 hop hop)
    rw [show decide (openL a b = openL a b) = true from by simp] at K9
    rw [ordL_swap a b] at K3
    have hcs := ordL_cases a b
    generalize ordL a b = n at *
    generalize ordL b c = m at *
    generalize ordL a c = k at *
    generalize openL a b = O at *
    have HS : Hid (decide (a = b) = (n == 0)) := by
      show _ = _
      rw [Bool.eq_iff_iff, decide_eq_true_iff, beq_iff_eq]
      exact HZ.out.symm
    generalize decide (a = b) = sm at *
    clear hA hB hC ha hb hc LA LB LC HZ h1
    generalize a.length = N at *
    generalize b.length = M at *
    generalize c.length = L at *
    rcases hcs with rfl | rfl | rfl
    · obtain rfl : sm = false := HS.out
      by_cases hm : m < 0
      · have hk : k < 0 := HT.out (by omega) hm
        have hk' : decide (0 ≤ k) = false := decide_eq_false (by omega)
        simp only [Int.neg_neg] at K3
        go_enter Try.func10, Try.ntmps10
        go_wp2_with fail
        refine (K1.out _ (Below.refl _ _)).mono ?_
        rintro e w1 ⟨rfl, hw⟩
        have c1 := below_qd (Below.refl _ _) hw
        clear hw
        go_wp2_with fail
        refine (K2.out _ c1).mono ?_
        rintro e w2 ⟨rfl, hw⟩
        have c2 := below_qd c1 hw
        clear hw
        go_wp2_with fail
        refine (K3.out _ c2).mono ?_
        rintro e w3 ⟨rfl, hw⟩
        have c3 := below_qd c2 hw
        clear hw
        go_wp2_with fail
        refine (K4.out _ c3).mono ?_
        rintro e w4 ⟨rfl, hw⟩
        have c4 := below_qd c3 hw
        clear hw
        go_wp2_with fail
        refine (K5.out _ c4).mono ?_
        rintro e w5 ⟨rfl, hw⟩
        have c5 := below_qd c4 hw
        clear hw
        go_wp2_with fail
        refine (K6.out _ c5).mono ?_
        rintro e w6 ⟨rfl, hw⟩
        have c6 := below_qd c5 hw
        clear hw
        go_wp2_with fail
        refine (K7.out _ c6).mono ?_
        rintro e wa ⟨A1, c1, rfl, _, _, La, ba⟩
        have ca1 := below_tr c6 ba
        go_wp2_with fail
        refine (K8.out _ ca1).mono ?_
        rintro e wb ⟨A2, c2, rfl, _, _, Lb, bb⟩
        have cb1 := below_tr ca1 bb
        go_wp2_with fail
        refine (K9.out _ _ _ _ _ ((La.below bb).mono bb.size) Lb).mono ?_
        rintro e wd ⟨rfl, hw⟩
        have cd1 := below_qd cb1 hw
        clear hw
        go_wp2_with fail
        refine (lives8 _).mono ?_
        rintro e wl ⟨rfl, hl⟩
        go_wp2
        go_ret
        exact ⟨rfl, below_tr cd1 hl⟩
      · have hm' : decide (m < 0) = false := decide_eq_false hm
        simp only [Int.neg_neg] at K3
        go_enter Try.func10, Try.ntmps10
        go_wp2_with fail
        refine (K1.out _ (Below.refl _ _)).mono ?_
        rintro e w1 ⟨rfl, hw⟩
        have c1 := below_qd (Below.refl _ _) hw
        clear hw
        go_wp2_with fail
        refine (K2.out _ c1).mono ?_
        rintro e w2 ⟨rfl, hw⟩
        have c2 := below_qd c1 hw
        clear hw
        go_wp2_with fail
        refine (K3.out _ c2).mono ?_
        rintro e w3 ⟨rfl, hw⟩
        have c3 := below_qd c2 hw
        clear hw
        go_wp2_with fail
        refine (K4.out _ c3).mono ?_
        rintro e w4 ⟨rfl, hw⟩
        have c4 := below_qd c3 hw
        clear hw
        go_wp2_with fail
        refine (K5.out _ c4).mono ?_
        rintro e w5 ⟨rfl, hw⟩
        have c5 := below_qd c4 hw
        clear hw
        go_wp2_with fail
        refine (K7.out _ c5).mono ?_
        rintro e wa ⟨A1, c1, rfl, _, _, La, ba⟩
        have ca1 := below_tr c5 ba
        go_wp2_with fail
        refine (K8.out _ ca1).mono ?_
        rintro e wb ⟨A2, c2, rfl, _, _, Lb, bb⟩
        have cb1 := below_tr ca1 bb
        go_wp2_with fail
        refine (K9.out _ _ _ _ _ ((La.below bb).mono bb.size) Lb).mono ?_
        rintro e wd ⟨rfl, hw⟩
        have cd1 := below_qd cb1 hw
        clear hw
        go_wp2_with fail
        refine (lives8 _).mono ?_
        rintro e wl ⟨rfl, hl⟩
        go_wp2
        go_ret
        exact ⟨rfl, below_tr cd1 hl⟩
    · obtain rfl : sm = true := HS.out
      simp only [Int.neg_zero] at K3
      go_enter Try.func10, Try.ntmps10
      go_wp2_with fail
      refine (K1.out _ (Below.refl _ _)).mono ?_
      rintro e w1 ⟨rfl, hw⟩
      have c1 := below_qd (Below.refl _ _) hw
      clear hw
      go_wp2_with fail
      refine (K2.out _ c1).mono ?_
      rintro e w2 ⟨rfl, hw⟩
      have c2 := below_qd c1 hw
      clear hw
      go_wp2_with fail
      refine (K3.out _ c2).mono ?_
      rintro e w3 ⟨rfl, hw⟩
      have c3 := below_qd c2 hw
      clear hw
      go_wp2_with fail
      refine (K4.out _ c3).mono ?_
      rintro e w4 ⟨rfl, hw⟩
      have c4 := below_qd c3 hw
      clear hw
      go_wp2_with fail
      refine (K7.out _ c4).mono ?_
      rintro e wa ⟨A1, c1, rfl, _, _, La, ba⟩
      have ca1 := below_tr c4 ba
      go_wp2_with fail
      refine (K8.out _ ca1).mono ?_
      rintro e wb ⟨A2, c2, rfl, _, _, Lb, bb⟩
      have cb1 := below_tr ca1 bb
      go_wp2_with fail
      refine (K9.out _ _ _ _ _ ((La.below bb).mono bb.size) Lb).mono ?_
      rintro e wd ⟨rfl, hw⟩
      have cd1 := below_qd cb1 hw
      clear hw
      go_wp2_with fail
      refine (lives8 _).mono ?_
      rintro e wl ⟨rfl, hl⟩
      go_wp2
      go_ret
      exact ⟨rfl, below_tr cd1 hl⟩
    · obtain rfl : sm = false := HS.out
      go_enter Try.func10, Try.ntmps10
      go_wp2_with fail
      refine (K1.out _ (Below.refl _ _)).mono ?_
      rintro e w1 ⟨rfl, hw⟩
      have c1 := below_qd (Below.refl _ _) hw
      clear hw
      go_wp2_with fail
      refine (K2.out _ c1).mono ?_
      rintro e w2 ⟨rfl, hw⟩
      have c2 := below_qd c1 hw
      clear hw
      go_wp2_with fail
      refine (K3.out _ c2).mono ?_
      rintro e w3 ⟨rfl, hw⟩
      have c3 := below_qd c2 hw
      clear hw
      go_wp2_with fail
      refine (K4.out _ c3).mono ?_
      rintro e w4 ⟨rfl, hw⟩
      have c4 := below_qd c3 hw
      clear hw
      go_wp2_with fail
      refine (K7.out _ c4).mono ?_
      rintro e wa ⟨A1, c1, rfl, _, _, La, ba⟩
      have ca1 := below_tr c4 ba
      go_wp2_with fail
      refine (K8.out _ ca1).mono ?_
      rintro e wb ⟨A2, c2, rfl, _, _, Lb, bb⟩
      have cb1 := below_tr ca1 bb
      go_wp2_with fail
      refine (K9.out _ _ _ _ _ ((La.below bb).mono bb.size) Lb).mono ?_
      rintro e wd ⟨rfl, hw⟩
      have cd1 := below_qd cb1 hw
      clear hw
      go_wp2_with fail
      refine (lives8 _).mono ?_
      rintro e wl ⟨rfl, hl⟩
      go_wp2
      go_ret
      exact ⟨rfl, below_tr cd1 hl⟩

set_option maxRecDepth 100000 in
theorem lifted (os : Os) (started : os.Started) (H : Type) (enc : TypeId × Value → H) :
    ReturnsInHanded {} Try.checked os 10 .any (Rows.vecOrdersSpec.pre6 enc Try.prog Try.f10 Rows.vecOrdersRow.domain false) (Rows.vecOrdersSpec.post enc Try.prog Try.f10 false true false false) := by
  refine returnsInHanded_of_change (C := Try.checked) own started (by kernel_rfl) Try.func10
    (ChangeSpec.witness6 (enc := enc) (C := Try.checked) false ⟨#[], #[.slice none 0 0, .slice none 0 0, .slice none 0 0], []⟩ 8 (by kernel_rfl) (by kernel_rfl) (by kernel_rfl) (by kernel_rfl)) ?_
  intro W base args ds gs before hval0 hW hcnd _
  have hval : ∀ (j : Nat) t v, Try.f10.params[j]? = some t → args[j]? = some v → Value.okWide Try.prog W .any base t v := hval0
  have hW' := hW
  obtain ⟨p, q, hA0, hV, rfl, hfz, hnd⟩ := hW
  obtain ⟨rfl, rfl⟩ := trodVars_none hV
  have hA : DataW.TrodAll enc Try.prog W 0 (fun _ => true) true Try.f10.params.toList args.toList ds p := hA0
  rw [Try.params10] at hA hval
  obtain ⟨v0, vs0, d0, ds0, p0, q0, hargs, rfl, rfl, h0, r0⟩ := trodAll_cons hA
  obtain ⟨v1, vs1, d1, ds1, p1, q1, rfl, rfl, rfl, h1, r1⟩ := trodAll_cons r0
  obtain ⟨v2, vs2, d2, ds2, p2, q2, rfl, rfl, rfl, h2, r2⟩ := trodAll_cons r1
  obtain ⟨rfl, rfl, rfl⟩ := trodAll_nil r2
  obtain rfl : args = #[v0, v1, v2] := by cases args; simp_all
  obtain ⟨A0, l0, c0, rfl, L0, I0, C0, M0⟩ := open_ints8 Try.underlying24 Try.underlying3 cells_i8 (hval 0 24 v0 rfl rfl) h0
  obtain ⟨A1, l1, c1, rfl, L1, I1, C1, M1⟩ := open_ints8 Try.underlying24 Try.underlying3 cells_i8 (hval 1 24 v1 rfl rfl) h1
  obtain ⟨A2, l2, c2, rfl, L2, I2, C2, M2⟩ := open_ints8 Try.underlying24 Try.underlying3 cells_i8 (hval 2 24 v2 rfl rfl) h2
  refine (walk A0 l0 c0 L0 I0 C0 M0 A1 l1 c1 L1 I1 C1 M1 A2 l2 c2 L2 I2 C2 M2 W).mono fun e W' ⟨he, hg⟩ => ?_
  subst he
  exact ⟨_, rfl, law_post laid (by rw [Try.params10]; exact (by decide +kernel)) rfl (by kernel_rfl) Try.underlying4 rfl hW' hg⟩

theorem over : Rows.vecOrdersRow.holds Try.pinned (OpenSpec.ofChange Rows.vecOrdersSpec) :=
  OpenClaim.holds_of_wide 10 Try.f10 rfl rfl rfl rfl rfl rfl rfl ⟨rfl, rfl, rfl, rfl, rfl⟩ rfl rfl rfl rfl rfl (by kernel_rfl) Try.func10 (by kernel_rfl)
    (of_decide_eq_true (by kernel_rfl)) (by unfold Func.isWrapper; first | (rw [if_pos (by decide +kernel)]; kernel_rfl) | (rw [if_neg (by decide +kernel)]; exact ⟨rfl, rfl⟩))
    (fun os started H enc _ => lifted os started H enc)
theorem proved : Rows.VecOrdersSaid := over
end Go.Proofs.Yteljkppcaanniaa.vecOrders
