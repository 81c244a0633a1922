/- Statement DrawNexts: whatever the input is, the Go function returns true and each argument reads as it did. No condition. -/
import Derived.Test.YtihfhdnldpjjdaaRows
import Derived.Test.YtihfhdnldpjjdaaDrawF
import Derived.Test.YtihfhdnldpjjdaaBase
import Derived.ProofKit
import Derived.OpenShut
namespace Go.Proofs.Ytihfhdnldpjjdaa.drawNexts
open Go.ChangeShapes Go.WideShapes Go.ChangeAt Go.RowKit
set_option linter.unusedVariables false

theorem own : ownKnob Try.prog.godebug = none := by kernel_rfl
theorem laid : laidOutB Try.prog = true := by kernel_rfl

set_option maxHeartbeats 4000000 in
theorem walk (A : Option Addr) (l : List Int) (c : Nat) {w : World} (hA : LiesU w w.heap.size A l) (hu : ∀ x ∈ l, U64 x) (hc : l.length ≤ c) (hm : c ≤ 9223372036854775807) (f : Int) (hf : I64 f) (t : Int) (ht : I64 t) (_ : World) :
    Calls Try.prog 7 #[.slice A l.length c, .int .i64 f, .int .i64 t] w fun e w' => e = .returned (.bool true) ∧ Below w.heap.size w w' := by
  by_cases h1 : 200 < l.length
  · generalize l.length = N at *
    go_enter Try.func7, Try.ntmps7
    go_wp2_with fail
    refine (lives6 _).mono ?_
    rintro e w1 ⟨rfl, b1⟩
    go_wp2
    go_ret
    exact ⟨rfl, b1⟩
  have KN := Lib.hid (draw_next A l c _ f w hA (by omega))
  have KF := Lib.hid (draw_left A l.length c f w (by omega))
  have KU := Lib.hid (draw_used A l c f t w hA (by omega) hc)
  by_cases hbad : f < 0 ∨ t < f ∨ l.length < t
  · rw [show usedL l f t = [] from by unfold usedL; rw [if_pos hbad]] at KU
    by_cases h0 : f < 0
    · rw [show Ending.returned (nextV l f) = _ from (nextV_neg h0).symm] at KN
      rw [show leftN l.length f = 0 from by unfold leftN; rw [if_pos (by omega)]] at KF
      clear hA hu
      generalize l.length = N at *
      go_enter Try.func7, Try.ntmps7
      go_wp2_with fail
      refine KN.out.mono ?_
      rintro e w1 ⟨rfl, rfl⟩
      go_wp2_with fail
      refine KF.out.mono ?_
      rintro e w1 ⟨rfl, rfl⟩
      go_wp2_with fail
      refine KU.out.mono ?_
      rintro e w2 ⟨A2, c2, rfl, _, hm2, hL2, b2⟩
      go_wp2_with fail
      refine (lives6 _).mono ?_
      rintro e w4 ⟨rfl, b4⟩
      go_wp2
      go_ret
      exact ⟨rfl, b2.trans (b4.mono b2.size)⟩
    · by_cases h2 : (l.length : Int) ≤ f
      · rw [show Ending.returned (nextV l f) = _ from (nextV_out (by omega) h2).symm] at KN
        rw [show leftN l.length f = 0 from by unfold leftN; split <;> omega] at KF
        have h0' : ¬ f < 0 := h0
        clear hA hu
        generalize l.length = N at *
        by_cases h3 : (N : Int) < f
        · go_enter Try.func7, Try.ntmps7
          go_wp2_with fail
          refine KN.out.mono ?_
          rintro e w1 ⟨rfl, rfl⟩
          go_wp2_with fail
          refine KF.out.mono ?_
          rintro e w1 ⟨rfl, rfl⟩
          go_wp2_with fail
          refine KU.out.mono ?_
          rintro e w2 ⟨A2, c2, rfl, _, hm2, hL2, b2⟩
          go_wp2_with fail
          refine (lives6 _).mono ?_
          rintro e w4 ⟨rfl, b4⟩
          go_wp2
          go_ret
          exact ⟨rfl, b2.trans (b4.mono b2.size)⟩
        · obtain rfl : f = N := by omega
          by_cases h4 : t < (N : Int)
          · go_enter Try.func7, Try.ntmps7
            go_wp2_with fail
            refine KN.out.mono ?_
            rintro e w1 ⟨rfl, rfl⟩
            go_wp2_with fail
            refine KF.out.mono ?_
            rintro e w1 ⟨rfl, rfl⟩
            go_wp2_with fail
            refine KU.out.mono ?_
            rintro e w2 ⟨A2, c2, rfl, _, hm2, hL2, b2⟩
            go_wp2_with fail
            refine (lives6 _).mono ?_
            rintro e w4 ⟨rfl, b4⟩
            go_wp2
            go_ret
            exact ⟨rfl, b2.trans (b4.mono b2.size)⟩
          · have h5 : (N : Int) < t := by omega
            go_enter Try.func7, Try.ntmps7
            go_wp2_with fail
            refine KN.out.mono ?_
            rintro e w1 ⟨rfl, rfl⟩
            go_wp2_with fail
            refine KF.out.mono ?_
            rintro e w1 ⟨rfl, rfl⟩
            go_wp2_with fail
            refine KU.out.mono ?_
            rintro e w2 ⟨A2, c2, rfl, _, hm2, hL2, b2⟩
            go_wp2_with fail
            refine (lives6 _).mono ?_
            rintro e w4 ⟨rfl, b4⟩
            go_wp2
            go_ret
            exact ⟨rfl, b2.trans (b4.mono b2.size)⟩
      · obtain ⟨k, rfl⟩ : ∃ k : Nat, f = k := ⟨f.toNat, by omega⟩
        obtain ⟨ad, rfl, hb, hcell⟩ := hA.at (k := k) (by omega)
        rw [show Ending.returned (nextV l k) = _ from (nextV_in (by omega)).symm] at KN
        rw [show leftN l.length k = l.length - k from by unfold leftN; rw [if_neg (by omega)]] at KF
        have HX := Lib.hid (getD_u64 hu k)
        generalize l.getD k 0 = x at *
        have hji : (k : Int) < (l.length : Int) := by omega
        have h6 : ¬ l.length < k := by omega
        clear hA hu
        generalize l.length = N at *
        by_cases h4 : t < (k : Int)
        · go_enter Try.func7, Try.ntmps7
          go_wp2_with fail
          refine KN.out.mono ?_
          rintro e w1 ⟨rfl, rfl⟩
          go_wp2_with fail
          refine KF.out.mono ?_
          rintro e w1 ⟨rfl, rfl⟩
          go_wp2_with fail
          refine KU.out.mono ?_
          rintro e w2 ⟨A2, c2, rfl, _, hm2, hL2, b2⟩
          replace hcell := (b2.cell (by rw [add_block]; exact hb)).trans hcell
          go_wp2_with fail
          refine (lives6 _).mono ?_
          rintro e w4 ⟨rfl, b4⟩
          go_wp2
          go_ret
          exact ⟨rfl, b2.trans (b4.mono b2.size)⟩
        · have h5 : (N : Int) < t := by omega
          go_enter Try.func7, Try.ntmps7
          go_wp2_with fail
          refine KN.out.mono ?_
          rintro e w1 ⟨rfl, rfl⟩
          go_wp2_with fail
          refine KF.out.mono ?_
          rintro e w1 ⟨rfl, rfl⟩
          go_wp2_with fail
          refine KU.out.mono ?_
          rintro e w2 ⟨A2, c2, rfl, _, hm2, hL2, b2⟩
          replace hcell := (b2.cell (by rw [add_block]; exact hb)).trans hcell
          go_wp2_with fail
          refine (lives6 _).mono ?_
          rintro e w4 ⟨rfl, b4⟩
          go_wp2
          go_ret
          exact ⟨rfl, b2.trans (b4.mono b2.size)⟩
  · obtain ⟨x, rfl⟩ : ∃ x : Nat, f = x := ⟨f.toNat, by omega⟩
    obtain ⟨y, rfl⟩ : ∃ y : Nat, t = y := ⟨t.toNat, by omega⟩
    rw [show usedL l x y = (l.drop x).take (y - x) from by unfold usedL; rw [if_neg hbad]; rfl] at KU
    have e1 : ¬ y < x := by omega
    have e2 : ¬ l.length < x := by omega
    have e3 : ¬ l.length < y := by omega
    have HL := Lib.hid (liesU_cut hA x y (by omega) (by omega) hc)
    have hlen : ((l.drop x).take (y - x)).length = y - x := by rw [List.length_take, List.length_drop]; omega
    have g1 : (x : Int) ≤ y := by omega
    have g2 : (y : Int) ≤ c := by omega
    have KS := Lib.hid (fun W A2 c2 X cc (h : LiesU W W.heap.size A2 ((l.drop x).take (y - x))) (hX : LiesU w w.heap.size X ((l.drop x).take (y - x))) (hb : Below w.heap.size w W) => ref_same6 A2 X ((l.drop x).take (y - x)) ((l.drop x).take (y - x)) c2 cc W.heap.size W h ((hX.below hb).mono hb.size) (by omega) (by omega))
    rw [decide_eq_true (p := (l.drop x).take (y - x) = (l.drop x).take (y - x)) rfl] at KS
    rw [hlen] at KS
    generalize (l.drop x).take (y - x) = M at *
    unfold GivesU at KU
    rw [hlen] at KU
    by_cases h2 : (l.length : Int) ≤ x
    · rw [show Ending.returned (nextV l x) = _ from (nextV_out (by omega) h2).symm] at KN
      rw [show leftN l.length x = 0 from by unfold leftN; split <;> omega] at KF
      have h2' : l.length ≤ x := by omega
      clear hA hu hbad hlen
      generalize l.length = N at *
      go_enter Try.func7, Try.ntmps7
      go_wp2_with fail
      refine KN.out.mono ?_
      rintro e w1 ⟨rfl, rfl⟩
      go_wp2_with fail
      refine KF.out.mono ?_
      rintro e w1 ⟨rfl, rfl⟩
      go_wp2_with fail
      refine KU.out.mono ?_
      rintro e w2 ⟨A2, c2, rfl, _, hm2, hL2, b2⟩
      go_wp2_with fail
      all_goals
        refine (KS.out _ A2 c2 _ _ hL2 (by first | (have h := HL.out; rw [if_pos (by omega)] at h; exact h) | (have h := HL.out; rw [if_neg (by omega)] at h; exact h)) b2).mono ?_
        rintro e w3 ⟨rfl, n, rfl⟩
        have c3 := below_drewN' b2 n
        go_wp2_with fail
        refine (lives6 _).mono ?_
        rintro e w4 ⟨rfl, b4⟩
        go_wp2
        go_ret
        exact ⟨rfl, c3.trans (b4.mono c3.size)⟩
    · obtain ⟨ad, rfl, hb, hcell⟩ := hA.at (k := x) (by omega)
      rw [show Ending.returned (nextV l x) = _ from (nextV_in (by omega)).symm] at KN
      rw [show leftN l.length x = l.length - x from by unfold leftN; rw [if_neg (by omega)]] at KF
      have HX := Lib.hid (getD_u64 hu x)
      generalize l.getD x 0 = z at *
      have hji : (x : Int) < (l.length : Int) := by omega
      clear hA hu hbad hlen
      generalize l.length = N at *
      go_enter Try.func7, Try.ntmps7
      go_wp2_with fail
      refine KN.out.mono ?_
      rintro e w1 ⟨rfl, rfl⟩
      go_wp2_with fail
      refine KF.out.mono ?_
      rintro e w1 ⟨rfl, rfl⟩
      go_wp2_with fail
      refine KU.out.mono ?_
      rintro e w2 ⟨A2, c2, rfl, _, hm2, hL2, b2⟩
      replace hcell := (b2.cell (by rw [add_block]; exact hb)).trans hcell
      go_wp2_with fail
      all_goals
        refine (KS.out _ A2 c2 _ _ hL2 (by first | (have h := HL.out; rw [if_pos (by omega)] at h; exact h) | (have h := HL.out; rw [if_neg (by omega)] at h; exact h)) b2).mono ?_
        rintro e w3 ⟨rfl, n, rfl⟩
        have c3 := below_drewN' b2 n
        go_wp2_with fail
        refine (lives6 _).mono ?_
        rintro e w4 ⟨rfl, b4⟩
        go_wp2
        go_ret
        exact ⟨rfl, c3.trans (b4.mono c3.size)⟩

set_option maxRecDepth 100000 in
theorem lifted (os : Os) (started : os.Started) (H : Type) (enc : TypeId × Value → H) :
    ReturnsInHanded {} Try.checked os 7 .any (Rows.drawNextsSpec.pre6 enc Try.prog Try.f7 Rows.drawNextsRow.domain false) (Rows.drawNextsSpec.post enc Try.prog Try.f7 false true false false) := by
  refine returnsInHanded_of_change (C := Try.checked) own started (by kernel_rfl) Try.func7
    (ChangeSpec.witness6 (enc := enc) (C := Try.checked) false ⟨#[], #[.slice none 0 0, .int .i64 0, .int .i64 0], []⟩ 8 (by kernel_rfl) (by kernel_rfl) (by kernel_rfl) (by kernel_rfl)) ?_
  intro W base args ds gs before hval0 hW hcnd _
  have hval : ∀ (j : Nat) t v, Try.f7.params[j]? = some t → args[j]? = some v → Value.okWide Try.prog W .any base t v := hval0
  have hW' := hW
  obtain ⟨p, q, hA0, hV, rfl, hfz, hnd⟩ := hW
  obtain ⟨rfl, rfl⟩ := trodVars_none hV
  have hA : DataW.TrodAll enc Try.prog W 0 (fun _ => true) true Try.f7.params.toList args.toList ds p := hA0
  rw [Try.params7] at hA hval
  obtain ⟨v0, vs0, d0, ds0, p0, q0, hargs, rfl, rfl, h0, r0⟩ := trodAll_cons hA
  obtain ⟨v1, vs1, d1, ds1, p1, q1, rfl, rfl, rfl, h1, r1⟩ := trodAll_cons r0
  obtain ⟨v2, vs2, d2, ds2, p2, q2, rfl, rfl, rfl, h2, r2⟩ := trodAll_cons r1
  obtain ⟨rfl, rfl, rfl⟩ := trodAll_nil r2
  obtain rfl : args = #[v0, v1, v2] := by cases args; simp_all
  obtain ⟨A0, l0, c0, rfl, L0, I0, C0, M0⟩ := open_words Try.underlying44 Try.underlying35 cells_u64 (hval 0 44 v0 rfl rfl) h0
  obtain ⟨a1, rfl, _, _, w1⟩ := open_int Try.underlying3 (hval 1 3 v1 rfl rfl) h1
  obtain ⟨a2, rfl, _, _, w2⟩ := open_int Try.underlying3 (hval 2 3 v2 rfl rfl) h2
  refine (walk A0 l0 c0 L0 I0 C0 M0 a1 (i64_of_wf w1) a2 (i64_of_wf w2) W).mono fun e W' ⟨he, hg⟩ => ?_
  subst he
  exact ⟨_, rfl, law_post laid (by rw [Try.params7]; exact (by decide +kernel)) rfl (by kernel_rfl) Try.underlying4 rfl hW' hg⟩

theorem over : Rows.drawNextsRow.holds Try.pinned (OpenSpec.ofChange Rows.drawNextsSpec) :=
  OpenClaim.holds_of_wide 7 Try.f7 rfl rfl rfl rfl rfl rfl rfl ⟨rfl, rfl, rfl, rfl, rfl⟩ rfl rfl rfl rfl rfl (by kernel_rfl) Try.func7 (by kernel_rfl)
    (of_decide_eq_true (by kernel_rfl)) (by unfold Func.isWrapper; first | (rw [if_pos (by decide +kernel)]; kernel_rfl) | (rw [if_neg (by decide +kernel)]; exact ⟨rfl, rfl⟩))
    (fun os started H enc _ => lifted os started H enc)
theorem proved : Rows.DrawNextsSaid := over
end Go.Proofs.Ytihfhdnldpjjdaa.drawNexts
