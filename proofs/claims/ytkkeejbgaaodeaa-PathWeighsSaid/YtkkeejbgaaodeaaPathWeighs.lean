/- Statement PathWeighs: whatever the input is, the Go function returns true and each argument reads as it did. No condition. -/
import Derived.Test.YtkkeejbgaaodeaaRows
import Derived.Test.YtkkeejbgaaodeaaPatU
import Derived.Test.YtkkeejbgaaodeaaTrF
import Derived.Test.YtkkeejbgaaodeaaVecT
import Derived.Test.YtkkeejbgaaodeaaNumLog
import Derived.Test.YtkkeejbgaaodeaaBase
import Derived.ProofKit
import Derived.OpenShut
namespace Go.Proofs.Ytkkeejbgaaodeaa.pathWeighs
open Go.ChangeShapes Go.WideShapes Go.ChangeAt Go.RowKit
set_option linter.unusedVariables false

theorem own : ownKnob Try.prog.godebug = none := by kernel_rfl
theorem laid : laidOutB Try.prog = true := by kernel_rfl

theorem not_much {R : List Row} {l : List Int} (h : ¬ (muchV R 70 = true ∨ 300 < l.length)) : muchV R 70 = false ∧ ¬ (300 : Int) < (l.length : Int) ∧ l.length ≤ 300 := by
  refine ⟨?_, by omega, by omega⟩
  cases h2 : muchV R 70 with
  | false => rfl
  | true => exact absurd (.inl h2) h
set_option maxRecDepth 100000 in
set_option maxHeartbeats 8000000 in
theorem walk {w : World} (k : Int) (hk : I64 k) (D : Option Addr) (R : List Row) (cd : Nat) (hD : LiesR w w.heap.size D R) (hR : OkR R) (hcd : R.length ≤ cd) (hmd : cd ≤ 9223372036854775807)
    (A : Option Addr) (l : List Int) (ca : Nat) (hA : LiesU w w.heap.size A l) (hu : ∀ x ∈ l, U64 x) (hca : l.length ≤ ca) (hma : ca ≤ 9223372036854775807) (a : Int) (ha : I64 a) (t : Int) (ht : I64 t) (_ : World) :
    Calls Try.prog 12 #[.int .i64 k, .slice D R.length cd, .slice A l.length ca, .int .i64 a, .int .i64 t] w fun e w' => e = .returned (.bool true) ∧ Below w.heap.size w w' := by
  have K0 := Lib.hid (ref_Much D R cd w.heap.size 70 w hD (by omega))
  by_cases h1 : muchV R 70 = true ∨ 300 < l.length
  · clear hA hD hu hR
    generalize hmu : muchV R 70 = mu at *
    generalize l.length = N at *
    generalize R.length = Q at *
    cases mu
    · have g1 : (300 : Int) < (N : Int) := by
        rcases h1 with h | h
        · cases h
        · omega
      clear h1 hmu
      go_enter Try.func12, Try.ntmps12
      go_wp2_with fail
      refine K0.out.mono ?_
      rintro e w0 ⟨rfl, rfl⟩
      go_wp2_with fail
      refine (lives12 _).mono ?_
      rintro e wl ⟨rfl, hl⟩
      go_wp2
      go_ret
      exact ⟨rfl, hl⟩
    · clear h1 hmu
      go_enter Try.func12, Try.ntmps12
      go_wp2_with fail
      refine K0.out.mono ?_
      rintro e w0 ⟨rfl, rfl⟩
      go_wp2_with fail
      refine (lives12 _).mono ?_
      rintro e wl ⟨rfl, hl⟩
      go_wp2
      go_ret
      exact ⟨rfl, hl⟩
  · obtain ⟨l4, j1, _⟩ := not_much h1
    rw [l4] at K0
    have KD1 := Lib.hid (tree_Grow D A R l cd ca k a t w hD hR hA hu (by omega) ha (by omega) hcd)
    unfold GivesG at KD1
    have HGD := Lib.hid (@groG_good k a t R l)
    have HGL := Lib.hid (fun N => @groG_leaves k a t R l N)
    generalize groG k R l a t = Z at *
    by_cases hz : Z.2.2.2 = 0
    · obtain ⟨q1, q2, q3, q4, q5, q6, q7, q8, q9, q10⟩ := HGD.out hz
      have HGL2 := Lib.hid (fun N h => (HGL.out N hz h).2)
      have HDR := Lib.hid (fun W (h : Below w.heap.size w W) j (hj : j < R.length) => ((hD.below h).mono h.size).at (k := j) hj)
      have HOR : Hid (∀ j, j < R.length → (R.getD j row0).l.length ≤ (R.getD j row0).c ∧ ((R.getD j row0).l.length : Int) ≤ 9223372036854775807) := fun j hj => by
        have := hR _ (getD_mem hj)
        exact ⟨this.1, by omega⟩
      have HV : Hid (∀ j, j < R.length → isV (R.getD j row0).l (dimR R) = true) := fun j hj => q1.2 j hj
      have HVM : Hid (∀ r ∈ R, isV r.l (dimR R) = true) := fun r hr => by
        obtain ⟨j, hj, rfl⟩ := List.mem_iff_getElem.1 hr
        have := q1.2 j hj
        rw [List.getD_eq_getElem?_getD, List.getElem?_eq_getElem hj] at this
        exact this
      clear HGD HGL q7 q10
      obtain ⟨zd, zn, za, ze⟩ := Z
      simp only at hz q6 q8 q9 KD1 HGL2
      subst hz
      subst q6
      have HTK : Hid (R.take R.length = R) := List.take_length
      have HT9 := Lib.hid q9
      have HSTP := Lib.hid (fun N k (hk : k < R.length) => sumR_step N (dimR R) hk)
      have HSB := Lib.hid (fun N k (hk : k ≤ R.length) => by
        have h := sumR_bd N (dimR R) (R.take k)
        rw [List.length_take] at h
        exact h)
      have HQ3 := Lib.hid q3
      clear hA hD hu hR h1 l4 q1 q2 q8 q9
      generalize l.length = NL at *
      obtain ⟨Q, hQ⟩ : ∃ Q, Q = R.length := ⟨_, rfl⟩
      have HQ := Lib.hid hQ
      rw [← hQ] at KD1 q3 K0 ⊢
      clear hQ
      generalize dimR R = dm at *
      go_enter Try.func12, Try.ntmps12
      go_wp2_with fail
      refine K0.out.mono ?_
      rintro e w0 ⟨rfl, rfl⟩
      go_wp2_with fail
      refine KD1.out.mono ?_
      rintro e w1 ⟨A1, N1, c1, rfl, m1, l1, o1, b1⟩
      have J1 := Lib.hid (((Kpc.start w).below b1).alloc #[.int .i64 dm, .slice A1 N1.length c1] 24)
      have H1 := Lib.hid (liesT_up l1 ((Below.refl _ _).alloc (Nat.le_refl _) (.cells #[.int .i64 dm, .slice A1 N1.length c1] 24)))
      have hT := isT_same (N := N1) HT9.out (by rw [m1]; have h5 := cnt_cnt N1; rw [m1] at h5; exact h5.symm)
      have hp1 := isT_len hT
      have HCM := Lib.hid (HGL2.out N1 m1)
      have HW : Hid (sumR N1 dm R = wtS N1 (allT N1 dm)) := weigh_all hT R HVM.out HCM.out
      have KW := Lib.hid (fun W (h : LiesT W W.heap.size A1 N1) => path_Weight N1 dm A1 c1 W.heap.size W (by omega) o1 h (Nat.le_refl _))
      rw [if_pos hT, ← HW.out] at KW
      have KF : Hid (∀ W, LiesT W W.heap.size A1 N1 → Below w.heap.size w W → ∀ j, j < R.length → Calls Try.prog 28 #[.agg #[.int .i64 dm, .slice A1 N1.length c1], .slice (R.getD j row0).a (R.getD j row0).l.length (R.getD j row0).c] W fun e w' => e = .returned (.tuple #[.int .i64 (lenT N1 dm (R.getD j row0).l).1, .int .i64 0]) ∧ Below W.heap.size W w') := fun W h hb j hj => by
        obtain ⟨_, _, _, _, hl⟩ := HDR.out W hb j hj
        have := path_Length N1 dm A1 (R.getD j row0).a (R.getD j row0).l c1 (R.getD j row0).c W.heap.size W (by omega) o1 h hl (HOR.out j hj).2 (HOR.out j hj).1 (Nat.le_refl _)
        rw [lenT_yes hT (HV.out j hj)] at this
        exact this
      have HS0 : Hid (sumR N1 dm (R.take 0) = 0) := rfl
      have HSQ : Hid (sumR N1 dm (R.take Q) = sumR N1 dm R) := by
        show _ = _
        rw [HQ.out, HTK.out]
      have HLB := Lib.hid (fun x => lenT_bd N1 dm x)
      have HSTP2 := Lib.hid (fun k hk => HSTP.out N1 k hk)
      have HSB2 := Lib.hid (fun k hk => HSB.out N1 k hk)
      have HB1 : Hid (Below w.heap.size w (w1.alloc (.cells #[.int .i64 dm, .slice A1 N1.length c1] 24))) := J1.out.2.1
      clear l1 b1 m1 o1 hT hp1 HGL2 HT9 HW HCM HV HVM HSTP HSB HTK
      generalize sumR N1 dm = sr at *
      generalize hL : N1.length = n1 at *
      clear hL
      go_wp2
      generalize hW1 : w1.alloc (.cells #[.int .i64 dm, .slice A1 n1 c1] 24) = W1 at *
      have JT : Hid (Box W1 w1.heap.size #[.int .i64 dm, .slice A1 n1 c1] 24) := J1.out.head
      clear J1 hW1
      go_loopw [14, 15] (fun s iv wr => ∃ j : Nat, j ≤ Q ∧ iv = .int .i64 j ∧ s = .int .i64 (sr (R.take j)) ∧ Hid (Below W1.heap.size W1 wr)) (fun _ iv _ => Q - (intOf iv).toNat)
      case atStart => exact ⟨0, by omega, rfl, by rw [HS0.out], Below.refl _ _⟩
      case round =>
        obtain ⟨j, hj, rfl, rfl, HB⟩ := hrel
        have HTr := Lib.hid ((H1.out.below HB.out).mono HB.out.size)
        have HBr : Hid (Below w.heap.size w wr) := HB1.out.trans (HB.out.mono HB1.out.size)
        have JTr := Lib.hid (JT.out.below HB.out JT.out.lt)
        obtain ⟨x0, x1, _, _⟩ := JTr.out.two
        by_cases hlt : j < Q
        · have hlg : (j : Int) < (Q : Int) := by omega
          have hjR : j < R.length := by have := HQ.out; omega
          obtain ⟨adR, eR, _, cR, _⟩ := HDR.out wr HBr.out j hjR
          subst eR
          have HCR : Hid (∀ W, Below w.heap.size w W → W.cell? (adR.add j) = some (.slice (R.getD j row0).a (R.getD j row0).l.length (R.getD j row0).c)) := fun W h => by
            obtain ⟨ad', e', _, c', _⟩ := HDR.out W h j hjR
            cases e'
            exact c'
          have KFj := Lib.hid (fun W h hb => KF.out W h hb j hjR)
          have hst := HSTP2.out j hjR
          have hsb := HSB2.out j (by omega)
          have hlb := HLB.out (R.getD j row0).l
          have HST := Lib.hid hst
          clear hst hjR
          generalize (lenT N1 dm (R.getD j row0).l).1 = v at *
          generalize R.getD j row0 = r at *
          obtain ⟨ra, rl, rc⟩ := r
          simp only at cR KFj HCR
          generalize rl.length = rn at *
          generalize hS : sr (R.take j) = s at *
          have hmin : min j R.length ≤ 64 := by have := HQ3.out; omega
          generalize min j R.length = mj at *
          obtain ⟨hs1, hs2⟩ := hsb
          obtain ⟨hv1, hv2⟩ := hlb
          clear hS
          have hs3 : s ≤ 256000000000000 := by omega
          clear hs2 hmin
          have JD := Lib.hid (show Box wr.drew w1.heap.size #[.int .i64 dm, .slice A1 n1 c1] 24 from JTr.out)
          have HTd := Lib.hid (liesT_up HTr.out (Below.refl _ _).drew)
          have HBd : Hid (Below w.heap.size w wr.drew) := HBr.out.drew
          have HBd1 : Hid (Below W1.heap.size W1 wr.drew) := HB.out.drew
          go_wp2
          go_region_held3 (fun W => W.cell? ⟨w1.heap.size, 0, none⟩ = some (.int .i64 dm) ∧ W.cell? ⟨w1.heap.size, 1, none⟩ = some (.slice A1 n1 c1) ∧ W.cell? (adR.add j) = some (.slice ra rn rc)) (go_keep)
            (first
              | (go_at_call 28; ((refine (KFj.out _ HTd.out HBd.out).mono ?_); rintro e w3 ⟨rfl, b3⟩; have HTe := Lib.hid (liesT_up HTd.out b3); have HBe := Lib.hid (HBd.out.trans (b3.mono HBd.out.size)); have HBe1 := Lib.hid (HBd1.out.trans (b3.mono HBd1.out.size)); have JE := Lib.hid (JD.out.below b3 JD.out.lt); obtain ⟨x0, x1, _, _⟩ := JE.out.two; have cR := HCR.out _ HBe.out; clear b3)))
          all_goals
            go_wp2
            exact ⟨⟨j + 1, by omega, by go_num, by rw [HST.out], HBe1.out⟩, by first | (simp [intOf]; done) | (simp [intOf]; omega)⟩
        · obtain rfl : j = Q := by omega
          rw [HSQ.out]
          generalize sr R = sR at *
          go_wp2_with fail
          refine (KW.out _ HTr.out).mono ?_
          rintro e w4 ⟨rfl, b4⟩
          have HB4 : Hid (Below w.heap.size w w4) := HBr.out.trans (b4.mono HBr.out.size)
          have e1 : (sR == sR) = true := by simp
          go_wp2_with fail
          refine (lives12 _).mono ?_
          rintro e wl ⟨rfl, hl⟩
          have hfin : Below w.heap.size w wl := HB4.out.trans (hl.mono HB4.out.size)
          go_wp2
          go_ret
          exact ⟨rfl, hfin⟩
    · clear HGD HGL
      obtain ⟨zd, zn, za, ze⟩ := Z
      simp only at KD1 hz
      clear hA hD hu hR h1 l4
      generalize l.length = N at *
      generalize R.length = Q at *
      have hne : (ze != 0) = true := by simp [hz]
      go_enter Try.func12, Try.ntmps12
      go_wp2_with fail
      refine K0.out.mono ?_
      rintro e w0 ⟨rfl, rfl⟩
      go_wp2_with fail
      refine KD1.out.mono ?_
      rintro e w1 ⟨A1, N1, c1, rfl, m1, l1, o1, b1⟩
      have J1 := Lib.hid (((Kpc.start w).below b1).alloc #[.int .i64 zd, .slice A1 N1.length c1] 24)
      clear m1 l1 o1 b1
      generalize N1.length = n1 at *
      go_wp2_with fail
      refine (lives12 _).mono ?_
      rintro e wl ⟨rfl, hl⟩
      have J4 := Lib.hid (J1.out.below hl)
      go_wp2
      go_ret
      exact ⟨rfl, J4.out.2.1⟩

set_option maxRecDepth 100000 in
theorem lifted (os : Os) (started : os.Started) (H : Type) (enc : TypeId × Value → H) :
    ReturnsInHanded {} Try.checked os 12 .any (Rows.pathWeighsSpec.pre6 enc Try.prog Try.f12 Rows.pathWeighsRow.domain false) (Rows.pathWeighsSpec.post enc Try.prog Try.f12 false true false false) := by
  refine returnsInHanded_of_change (C := Try.checked) own started (by kernel_rfl) Try.func12
    (ChangeSpec.witness6 (enc := enc) (C := Try.checked) false ⟨#[], #[.int .i64 0, .slice none 0 0, .slice none 0 0, .int .i64 0, .int .i64 0], []⟩ 8 (by kernel_rfl) (by kernel_rfl) (by kernel_rfl) (by kernel_rfl)) ?_
  intro W base args ds gs before hval0 hW hcnd _
  have hval : ∀ (j : Nat) t v, Try.f12.params[j]? = some t → args[j]? = some v → Value.okWide Try.prog W .any base t v := hval0
  have hW' := hW
  obtain ⟨p, q, hA0, hV, rfl, hfz, hnd⟩ := hW
  obtain ⟨rfl, rfl⟩ := trodVars_none hV
  have hA : DataW.TrodAll enc Try.prog W 0 (fun _ => true) true Try.f12.params.toList args.toList ds p := hA0
  rw [Try.params12] at hA hval
  obtain ⟨v0, vs0, d0, ds0, p0, q0, hargs, rfl, rfl, h0, r0⟩ := trodAll_cons hA
  obtain ⟨v1, vs1, d1, ds1, p1, q1, rfl, rfl, rfl, h1, r1⟩ := trodAll_cons r0
  obtain ⟨v2, vs2, d2, ds2, p2, q2, rfl, rfl, rfl, h2, r2⟩ := trodAll_cons r1
  obtain ⟨v3, vs3, d3, ds3, p3, q3, rfl, rfl, rfl, h3, r3⟩ := trodAll_cons r2
  obtain ⟨v4, vs4, d4, ds4, p4, q4, rfl, rfl, rfl, h4, r4⟩ := trodAll_cons r3
  obtain ⟨rfl, rfl, rfl⟩ := trodAll_nil r4
  obtain rfl : args = #[v0, v1, v2, v3, v4] := by cases args; simp_all
  obtain ⟨a0, rfl, _, _, w0⟩ := open_int Try.underlying3 (hval 0 3 v0 rfl rfl) h0
  obtain ⟨A1, R1, c1, rfl, L1, I1, C1, M1⟩ := open_rows8 Try.underlying28 Try.underlying35 Try.underlying3 cells_l8 cells_i8 (hval 1 28 v1 rfl rfl) h1
  obtain ⟨A2, l2, c2, rfl, L2, I2, C2, M2⟩ := open_words Try.underlying29 Try.underlying57 cells_u64 (hval 2 29 v2 rfl rfl) h2
  obtain ⟨a3, rfl, _, _, w3⟩ := open_int Try.underlying3 (hval 3 3 v3 rfl rfl) h3
  obtain ⟨a4, rfl, _, _, w4⟩ := open_int Try.underlying3 (hval 4 3 v4 rfl rfl) h4
  refine (walk a0 (i64_of_wf w0) A1 R1 c1 L1 I1 C1 M1 A2 l2 c2 L2 I2 C2 M2 a3 (i64_of_wf w3) a4 (i64_of_wf w4) W).mono fun e W' ⟨he, hg⟩ => ?_
  subst he
  exact ⟨_, rfl, law_post laid (by rw [Try.params12]; exact (by decide +kernel)) rfl (by kernel_rfl) Try.underlying4 rfl hW' hg⟩

theorem over : Rows.pathWeighsRow.holds Try.pinned (OpenSpec.ofChange Rows.pathWeighsSpec) :=
  OpenClaim.holds_of_wide 12 Try.f12 rfl rfl rfl rfl rfl rfl rfl ⟨rfl, rfl, rfl, rfl, rfl⟩ rfl rfl rfl rfl rfl (by kernel_rfl) Try.func12 (by kernel_rfl)
    (of_decide_eq_true (by kernel_rfl)) (by unfold Func.isWrapper; first | (rw [if_pos (by decide +kernel)]; kernel_rfl) | (rw [if_neg (by decide +kernel)]; exact ⟨rfl, rfl⟩))
    (fun os started H enc _ => lifted os started H enc)
theorem proved : Rows.PathWeighsSaid := over
end Go.Proofs.Ytkkeejbgaaodeaa.pathWeighs
