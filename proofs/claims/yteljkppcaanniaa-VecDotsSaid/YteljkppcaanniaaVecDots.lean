/- Statement VecDots: whatever the input is, the Go function returns true and each argument reads as it did. No condition. -/
import Derived.Test.YteljkppcaanniaaRows
import Derived.Test.YteljkppcaanniaaVecO
import Derived.Test.YteljkppcaanniaaVecQ
import Derived.Test.YteljkppcaanniaaBase
import Derived.ProofKit
import Derived.OpenShut
import Derived.Deep.OwnRows
namespace Go.Proofs.Yteljkppcaanniaa.vecDots
open Go.ChangeShapes Go.WideShapes Go.ChangeAt Go.RowKit
set_option linter.unusedVariables false

theorem own : ownKnob Try.prog.godebug = none := by kernel_rfl
theorem laid : laidOutB Try.prog = true := by kernel_rfl

theorem made_zero (n : Nat) : (madeCells #[.int .i64 0] n).toList.take (List.replicate n (0 : Int)).length = litI (List.replicate n 0) := by
  rw [List.take_of_length_le (by rw [Array.length_toList, size_madeCells]; simp)]
  unfold madeCells litI
  simp [Nat.mod_one, List.map_const']
/-- nothing but one number, at place i -/
def oneI (N i : Nat) : List Int := (List.replicate N 0).set i 1
theorem oneI_len (N i : Nat) : (oneI N i).length = N := by simp [oneI]
theorem oneI_get {N i j : Nat} (hi : i < N) : (oneI N i).getD j 0 = if j = i then 1 else 0 := by
  unfold oneI
  rw [List.getD_eq_getElem?_getD, List.getElem?_set]
  by_cases h : i = j
  · subst h
    rw [if_pos rfl, if_pos (by simpa using hi), if_pos rfl]; rfl
  · rw [if_neg h, if_neg (fun e => h e.symm), List.getElem?_replicate]
    split <;> rfl
theorem oneI_back (N i : Nat) : (oneI N i).set i 0 = List.replicate N 0 := by
  unfold oneI
  rw [List.set_set]
  refine List.ext_getElem (by simp) fun j h1 h2 => ?_
  rw [List.getElem_set]
  split <;> simp
theorem dot_one {N i : Nat} (hi : i < N) (v : List Int) (k : Nat) : dotI (oneI N i) v k = if i < k then v.getD i 0 else 0 := by
  induction k with
  | zero => simp [dotI]
  | succ k ih =>
    simp only [dotI]
    rw [ih, oneI_get hi]
    by_cases h : k = i
    · subst h
      rw [if_neg (by omega), if_pos rfl, if_pos (by omega)]; omega
    · rw [if_neg h]
      by_cases g : i < k
      · rw [if_pos g, if_pos (by omega)]; omega
      · rw [if_neg g, if_neg (by omega)]; omega
theorem one_dot {N i : Nat} (hi : i < N) {v : List Int} (h : isV v N = true) : dotN (oneI N i) v = v.getD i 0 ∧ dotC (oneI N i) v = 0 := by
  obtain ⟨h1, h2, h3, _⟩ := isV_iff.1 h
  have hE : dotE (oneI N i) v = true := by
    refine dotE_iff.2 ⟨partsV_iff.2 ⟨by rw [oneI_len]; omega, by rw [oneI_len]; omega, by rw [oneI_len], fun x hx => ?_, 1, ?_, by decide⟩, by rw [oneI_len]; exact h⟩
    · obtain ⟨j, hj, rfl⟩ := List.mem_iff_getElem.1 hx
      have := oneI_get (N := N) (i := i) (j := j) hi
      rw [List.getD_eq_getElem?_getD, List.getElem?_eq_getElem hj] at this
      simp only [Option.getD_some] at this
      rw [this]; split <;> omega
    · have := oneI_get (N := N) (i := i) (j := i) hi
      rw [if_pos rfl] at this
      rw [← this]
      exact mem_getD (by rw [oneI_len]; exact hi)
  unfold dotN dotC
  rw [if_pos hE, if_pos hE, oneI_len, dot_one hi, if_pos hi]
  exact ⟨rfl, rfl⟩
theorem dotN_bd (a b : List Int) : -68719476736 ≤ dotN a b ∧ dotN a b ≤ 68719476736 := by
  unfold dotN
  split
  · rename_i h
    obtain ⟨h1, h2, _, h4⟩ := dotE_ok h
    have := dotI_v h1 h2 a.length
    omega
  · omega
set_option maxRecDepth 100000 in
set_option maxHeartbeats 8000000 in
theorem walk (A : Option Addr) (a : List Int) (ca : Nat) {w : World} (hA : Lies w w.heap.size A a) (ha : ∀ x ∈ a, I64 x) (hca : a.length ≤ ca) (hma : ca ≤ 9223372036854775807)
    (B : Option Addr) (b : List Int) (cb : Nat) (hB : Lies w w.heap.size B b) (hb : ∀ x ∈ b, I64 x) (hcb : b.length ≤ cb) (hmb : cb ≤ 9223372036854775807) (d : Int) (hd : I64 d) (_ : World) :
    Calls Try.prog 7 #[.slice A a.length ca, .slice B b.length cb, .int .i64 d] w fun e w' => e = .returned (.bool true) ∧ Below w.heap.size w w' := by
  by_cases h1 : 30 < a.length ∨ 30 < b.length
  · clear hA hB ha hb
    generalize a.length = N at *
    generalize b.length = M at *
    by_cases g1 : 30 < N
    · have g1' : (30 : Int) < (N : Int) := by omega
      clear h1
      go_enter Try.func7, Try.ntmps7
      go_wp2_with fail
      refine (lives8 _).mono ?_
      rintro e wl ⟨rfl, hl⟩
      go_wp2
      go_ret
      exact ⟨rfl, below_tr (Below.refl _ _) hl⟩
    · have g1' : ¬ (30 : Int) < (N : Int) := by omega
      have g2' : (30 : Int) < (M : Int) := by omega
      clear h1
      go_enter Try.func7, Try.ntmps7
      go_wp2_with fail
      refine (lives8 _).mono ?_
      rintro e wl ⟨rfl, hl⟩
      go_wp2
      go_ret
      exact ⟨rfl, below_tr (Below.refl _ _) hl⟩
  · have i1 : ((a.length : Nat) : Int) ≤ 9223372036854775807 := by omega
    have i2 : ((b.length : Nat) : Int) ≤ 9223372036854775807 := by omega
    have j1 : ¬ (30 : Int) < (a.length : Int) := by omega
    have j2 : ¬ (30 : Int) < (b.length : Int) := by omega
    have l2 : b.length ≤ 30 := by omega
    have LA := fun W (h : Below w.heap.size w W) => (hA.below h).mono h.size
    have LB := fun W (h : Below w.heap.size w W) => (hB.below h).mono h.size
    have K1 := Lib.hid (fun W h => vec_Dot A B a b ca cb W.heap.size W (LA W h) (LB W h) i1 i2 hca hcb)
    have K2 := Lib.hid (fun W h => ref_Dot A B a b ca cb W.heap.size W (LA W h) (LB W h))
    have K3 := Lib.hid (fun W h => vec_is B b cb W.heap.size d W (LB W h) i2 hcb)
    have K4 := Lib.hid (fun W h => ref_is B b cb W.heap.size d W (LB W h))
    have K5 := Lib.hid (fun W h => vec_parts A a ca W.heap.size d W (LA W h) i1 hca)
    have K6 := Lib.hid (fun W h => ref_parts A a ca W.heap.size d W (LA W h))
    have K7 := Lib.hid (fun W h => ref_is B b cb W.heap.size b.length W (LB W h))
    have HL := Lib.hid LB
    have KO := Lib.hid (fun W (h : Below w.heap.size w W) i g (ho : OwnI W g (oneI b.length i)) => vec_Dot (some ⟨g, 0, none⟩) B (oneI b.length i) b b.length cb W.heap.size W ho.lies (LB W h) (by rw [oneI_len]; omega) i2 (by rw [oneI_len]; omega) hcb)
    have HONE := Lib.hid (fun i (hi : i < b.length) (h : isV b b.length = true) => one_dot hi h)
    obtain ⟨n1, n2⟩ := dotN_bd a b
    generalize dotN a b = n at *
    generalize dotC a b = x at *
    generalize isV b d = p1 at *
    generalize partsV a d = p2 at *
    generalize isV b b.length = p3 at *
    clear hA hB ha hb LA LB h1 hd
    generalize a.length = N at *
    generalize hM : b.length = M at *
    have HM := Lib.hid hM
    clear hM
    go_enter Try.func7, Try.ntmps7
    go_wp2_with fail
    refine (K1.out _ (Below.refl _ _)).mono ?_
    rintro e w1 ⟨rfl, hw⟩
    have c1 := below_qd (Below.refl _ _) hw
    clear hw
    go_wp2_with fail
    refine (K2.out _ c1).mono ?_
    rintro e w2 ⟨rfl, hw⟩
    have c2 := below_qd c1 hw
    clear hw
    go_wp2_with fail
    refine (K3.out _ c2).mono ?_
    rintro e w3 ⟨rfl, hw⟩
    have c3 := below_qd c2 hw
    clear hw
    go_wp2_with fail
    refine (K4.out _ c3).mono ?_
    rintro e w4' ⟨rfl, rfl⟩
    have hp1 : (p1 != p1) = false := by simp
    go_wp2_with fail
    refine (K5.out _ c3).mono ?_
    rintro e w4 ⟨rfl, hw⟩
    have c4 := below_qd c3 hw
    clear hw
    go_wp2_with fail
    refine (K6.out _ c4).mono ?_
    rintro e w5' ⟨rfl, rfl⟩
    have hp2 : (p2 != p2) = false := by simp
    have hmk := fun W => run_make_row' (P := Try.prog) 24 3 (.int .i64 0) 8 Try.underlying24 infoI rfl .i64 .i64 M (by omega) (by omega) W
    obtain ⟨g1, hg1⟩ : ∃ g1, g1 = w4.heap.size := ⟨_, rfl⟩
    have HO0 : Hid (OwnI (w4.alloc (.cells (madeCells #[.int .i64 0] M) 3)) g1 (List.replicate M 0)) := by
      rw [hg1]
      exact ⟨_, Box.new w4 _ _, made_zero M⟩
    have HB0 : Hid (Below w.heap.size w (w4.alloc (.cells (madeCells #[.int .i64 0] M) 3))) := c4.alloc c4.size _
    have hgw : Hid (w.heap.size ≤ g1) := by show _ ≤ _; rw [hg1]; exact c4.size
    have HREP : Hid (∀ j, (List.replicate M (0 : Int)).set j 1 = oneI M j) := fun j => rfl
    have HBK := Lib.hid (oneI_back M)
    have HRL : Hid ((List.replicate M (0 : Int)).length = M) := by show _ = _; simp
    have HOL := Lib.hid (oneI_len M)
    go_wp2
    rw [← hg1]
    have HG1 := Lib.hid hg1
    clear hg1 hmk
    go_loopw [12] (fun i wr => ∃ j : Nat, j ≤ M ∧ j ≤ 8 ∧ i = .int .i64 j ∧ Hid (OwnI wr g1 (List.replicate M 0)) ∧ Hid (Below w.heap.size w wr)) (fun i _ => M - (intOf i).toNat)
    case atStart => exact ⟨0, by omega, by omega, rfl, HO0.out, HB0.out⟩
    case round =>
      obtain ⟨j, hj, hj8, rfl, HO, HB⟩ := hrel
      by_cases hlt : j < M
      · by_cases hlt8 : j < 8
        · have hlt8' : decide ((j : Int) < 8) = true := decide_eq_true (by omega)
          have hji : (j : Int) < (M : Int) := by omega
          have hc0 := HO.out.cell (k := j) (by have := HRL.out; omega)
          have hf0 := HO.out.free j
          have ho1 : OwnI (wr.setCell ⟨g1, j, none⟩ (.int .i64 1)) g1 (oneI M j) := by
            rw [← HREP.out j]
            exact HO.out.set (by have := HRL.out; omega) 1
          have hb1 : Below w.heap.size w (wr.setCell ⟨g1, j, none⟩ (.int .i64 1)) := HB.out.setCell (p := ⟨g1, j, none⟩) hgw.out _
          have KD := Lib.hid (KO.out _ hb1 j g1 ho1)
          have HO1 := Lib.hid ho1
          have HB1 := Lib.hid hb1
          clear ho1 hb1
          rw [HOL.out j] at KD
          generalize hwx : wr.setCell ⟨g1, j, none⟩ (.int .i64 1) = wx at *
          have HWX := Lib.hid hwx
          cases p3
          · generalize dotN (oneI M j) b = z at *
            generalize dotC (oneI M j) b = y at *
            go_wp2_with fail
            clear hwx
            refine KD.out.mono ?_
            rintro e w6 ⟨rfl, hw⟩
            have HO2 : Hid (OwnI w6 g1 (oneI M j)) := by obtain ⟨n, rfl⟩ := hw; exact HO1.out.drewN n
            have HB2 := Lib.hid (below_qd HB1.out hw)
            clear hw hc0 hf0
            have hc1 := HO2.out.cell (k := j) (by rw [HOL.out]; exact hlt)
            have hf1 := HO2.out.free j
            have hb3 : Below w.heap.size w (w6.setCell ⟨g1, j, none⟩ (.int .i64 0)) := HB2.out.setCell (p := ⟨g1, j, none⟩) hgw.out _
            have K7' := Lib.hid (K7.out _ hb3)
            have HB3 := Lib.hid hb3
            clear hb3
            go_wp2_with fail
            refine K7'.out.mono ?_
            rintro e w8 ⟨rfl, rfl⟩
            go_wp2
            refine ⟨⟨j + 1, by omega, by omega, by go_num, ?_, HB3.out⟩, by first | (simp [intOf]; done) | (simp [intOf]; omega)⟩
            show OwnI _ _ _
            rw [← HBK.out j]
            exact HO2.out.set (by rw [HOL.out]; exact hlt) 0
          · obtain ⟨e1, e2⟩ := HONE.out j hlt rfl
            rw [e1, e2] at KD
            clear e1 e2
            have HZ : Hid (∀ W, Below w.heap.size w W → ∃ ad, B = some ad ∧ W.cell? (ad.add j) = some (.int .i64 (b.getD j 0))) := fun W h => by
              obtain ⟨ad, e, _, hc⟩ := (HL.out W h).at (k := j) (by have := HM.out; omega)
              exact ⟨ad, e, hc⟩
            generalize b.getD j 0 = z at *
            obtain ⟨ad, hade, _⟩ := HZ.out w (Below.refl _ _)
            subst hade
            have hzz : (z != z) = false := by simp
            go_wp2_with fail
            clear hwx
            refine KD.out.mono ?_
            rintro e w6 ⟨rfl, hw⟩
            have HO2 : Hid (OwnI w6 g1 (oneI M j)) := by obtain ⟨n, rfl⟩ := hw; exact HO1.out.drewN n
            have HB2 := Lib.hid (below_qd HB1.out hw)
            clear hw hc0 hf0
            have hc1 := HO2.out.cell (k := j) (by rw [HOL.out]; exact hlt)
            have hf1 := HO2.out.free j
            have hb3 : Below w.heap.size w (w6.setCell ⟨g1, j, none⟩ (.int .i64 0)) := HB2.out.setCell (p := ⟨g1, j, none⟩) hgw.out _
            have K7' := Lib.hid (K7.out _ hb3)
            have HB3 := Lib.hid hb3
            obtain ⟨ad', hade, hcz⟩ := HZ.out _ hb3
            cases hade
            clear hb3
            go_wp2_with fail
            refine K7'.out.mono ?_
            rintro e w8 ⟨rfl, rfl⟩
            go_wp2
            refine ⟨⟨j + 1, by omega, by omega, by go_num, ?_, HB3.out⟩, by first | (simp [intOf]; done) | (simp [intOf]; omega)⟩
            show OwnI _ _ _
            rw [← HBK.out j]
            exact HO2.out.set (by rw [HOL.out]; exact hlt) 0
        · have hlt8' : decide ((j : Int) < 8) = false := decide_eq_false (by omega)
          go_wp2_with fail
          refine (lives8 _).mono ?_
          rintro e wl ⟨rfl, hl⟩
          go_wp2
          go_ret
          exact ⟨rfl, below_tr HB.out hl⟩
      · obtain rfl : j = M := by omega
        go_wp2_with fail
        refine (lives8 _).mono ?_
        rintro e wl ⟨rfl, hl⟩
        go_wp2
        go_ret
        exact ⟨rfl, below_tr HB.out hl⟩

set_option maxRecDepth 100000 in
theorem lifted (os : Os) (started : os.Started) (H : Type) (enc : TypeId × Value → H) :
    ReturnsInHanded {} Try.checked os 7 .any (Rows.vecDotsSpec.pre6 enc Try.prog Try.f7 Rows.vecDotsRow.domain false) (Rows.vecDotsSpec.post enc Try.prog Try.f7 false true false false) := by
  refine returnsInHanded_of_change (C := Try.checked) own started (by kernel_rfl) Try.func7
    (ChangeSpec.witness6 (enc := enc) (C := Try.checked) false ⟨#[], #[.slice none 0 0, .slice none 0 0, .int .i64 0], []⟩ 8 (by kernel_rfl) (by kernel_rfl) (by kernel_rfl) (by kernel_rfl)) ?_
  intro W base args ds gs before hval0 hW hcnd _
  have hval : ∀ (j : Nat) t v, Try.f7.params[j]? = some t → args[j]? = some v → Value.okWide Try.prog W .any base t v := hval0
  have hW' := hW
  obtain ⟨p, q, hA0, hV, rfl, hfz, hnd⟩ := hW
  obtain ⟨rfl, rfl⟩ := trodVars_none hV
  have hA : DataW.TrodAll enc Try.prog W 0 (fun _ => true) true Try.f7.params.toList args.toList ds p := hA0
  rw [Try.params7] at hA hval
  obtain ⟨v0, vs0, d0, ds0, p0, q0, hargs, rfl, rfl, h0, r0⟩ := trodAll_cons hA
  obtain ⟨v1, vs1, d1, ds1, p1, q1, rfl, rfl, rfl, h1, r1⟩ := trodAll_cons r0
  obtain ⟨v2, vs2, d2, ds2, p2, q2, rfl, rfl, rfl, h2, r2⟩ := trodAll_cons r1
  obtain ⟨rfl, rfl, rfl⟩ := trodAll_nil r2
  obtain rfl : args = #[v0, v1, v2] := by cases args; simp_all
  obtain ⟨A0, l0, c0, rfl, L0, I0, C0, M0⟩ := open_ints8 Try.underlying24 Try.underlying3 cells_i8 (hval 0 24 v0 rfl rfl) h0
  obtain ⟨A1, l1, c1, rfl, L1, I1, C1, M1⟩ := open_ints8 Try.underlying24 Try.underlying3 cells_i8 (hval 1 24 v1 rfl rfl) h1
  obtain ⟨a2, rfl, _, _, w2⟩ := open_int Try.underlying3 (hval 2 3 v2 rfl rfl) h2
  refine (walk A0 l0 c0 L0 I0 C0 M0 A1 l1 c1 L1 I1 C1 M1 a2 (i64_of_wf w2) W).mono fun e W' ⟨he, hg⟩ => ?_
  subst he
  exact ⟨_, rfl, law_post laid (by rw [Try.params7]; exact (by decide +kernel)) rfl (by kernel_rfl) Try.underlying4 rfl hW' hg⟩

theorem over : Rows.vecDotsRow.holds Try.pinned (OpenSpec.ofChange Rows.vecDotsSpec) :=
  OpenClaim.holds_of_wide 7 Try.f7 rfl rfl rfl rfl rfl rfl rfl ⟨rfl, rfl, rfl, rfl, rfl⟩ rfl rfl rfl rfl rfl (by kernel_rfl) Try.func7 (by kernel_rfl)
    (of_decide_eq_true (by kernel_rfl)) (by unfold Func.isWrapper; first | (rw [if_pos (by decide +kernel)]; kernel_rfl) | (rw [if_neg (by decide +kernel)]; exact ⟨rfl, rfl⟩))
    (fun os started H enc _ => lifted os started H enc)
theorem proved : Rows.VecDotsSaid := over
end Go.Proofs.Yteljkppcaanniaa.vecDots
