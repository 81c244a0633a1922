/- Statement CutParts: whatever the input is, the Go function returns true and each argument reads as it did. No condition. -/
import Derived.Test.YtpjgnghmhbkmkaaRows
import Derived.Test.YtpjgnghmhbkmkaaCutG
import Derived.Test.YtpjgnghmhbkmkaaVecQ
import Derived.Test.YtpjgnghmhbkmkaaBase
import Derived.ProofKit
import Derived.OpenShut
namespace Go.Proofs.Ytpjgnghmhbkmkaa.cutParts
open Go.ChangeShapes Go.WideShapes Go.ChangeAt Go.RowKit
set_option linter.unusedVariables false

theorem own : ownKnob Try.prog.godebug = none := by kernel_rfl
theorem laid : laidOutB Try.prog = true := by kernel_rfl

theorem sameK_step {R : List Row} {k : Nat} (hk : k < R.length) : decide (∀ j, j < k + 1 → (R.getD j row0).l = (R.getD 0 row0).l) = (decide (∀ j, j < k → (R.getD j row0).l = (R.getD 0 row0).l) && decide ((R.getD k row0).l = (R.getD 0 row0).l)) := by
  rw [Bool.eq_iff_iff]
  simp only [decide_eq_true_eq, Bool.and_eq_true]
  constructor
  · exact fun h => ⟨fun j hj => h j (by omega), h k (by omega)⟩
  · rintro ⟨h1, h2⟩ j hj
    rcases Nat.lt_or_ge j k with g | g
    · exact h1 j g
    · rw [show j = k from by omega]; exact h2
set_option maxRecDepth 100000 in
set_option maxHeartbeats 8000000 in
theorem walk {w : World} (k : Int) (hk : I64 k) (D : Option Addr) (R : List Row) (cd : Nat) (hD : LiesR w w.heap.size D R) (hR : OkR R) (hcd : R.length ≤ cd) (hmd : cd ≤ 9223372036854775807)
    (A : Option Addr) (l : List Int) (ca : Nat) (hA : LiesU w w.heap.size A l) (hu : ∀ x ∈ l, U64 x) (hca : l.length ≤ ca) (hma : ca ≤ 9223372036854775807) (a : Int) (ha : I64 a) (t : Int) (ht : I64 t) (_ : World) :
    Calls Try.prog 10 #[.int .i64 k, .slice D R.length cd, .slice A l.length ca, .int .i64 a, .int .i64 t] w fun e w' => e = .returned (.bool true) ∧ Below w.heap.size w w' := by
  have K0 := Lib.hid (ref_Much D R cd w.heap.size 40 w hD (by omega))
  by_cases h1 : muchV R 40 = true ∨ 100 < l.length
  · clear hA hD hu hR
    generalize hmu : muchV R 40 = mu at *
    generalize l.length = N at *
    generalize R.length = Q at *
    cases mu
    · have g1 : (100 : Int) < (N : Int) := by
        rcases h1 with h | h
        · cases h
        · omega
      clear h1 hmu
      go_enter Try.func10, Try.ntmps10
      go_wp2_with fail
      refine K0.out.mono ?_
      rintro e w0 ⟨rfl, rfl⟩
      go_wp2_with fail
      refine (lives9 _).mono ?_
      rintro e wl ⟨rfl, hl⟩
      go_wp2
      go_ret
      exact ⟨rfl, hl⟩
    · clear h1 hmu
      go_enter Try.func10, Try.ntmps10
      go_wp2_with fail
      refine K0.out.mono ?_
      rintro e w0 ⟨rfl, rfl⟩
      go_wp2_with fail
      refine (lives9 _).mono ?_
      rintro e wl ⟨rfl, hl⟩
      go_wp2
      go_ret
      exact ⟨rfl, hl⟩
  · have l4 : muchV R 40 = false := by
      cases h : muchV R 40 with
      | false => rfl
      | true => exact absurd (.inl h) h1
    have j1 : ¬ (100 : Int) < (l.length : Int) := by omega
    rw [l4] at K0
    have KD1 := Lib.hid (cut_Draw D A R l cd ca k a t w hD hR hA hu (by omega) ha (by omega) hcd)
    have HSP := Lib.hid (fun W (h : Below w.heap.size w W) Ac c co p (hl : Lies W W.heap.size Ac co) (h1 : (co.length : Int) ≤ 9223372036854775807) (h2 : co.length ≤ c) => cut_Split Ac D co R c cd p W hl ((hD.below h).mono h.size) hR h1 h2 (by have := (muchV_no l4).1; omega))
    have HIS := Lib.hid (fun W Ac c co p d (hl : Lies W W.heap.size Ac co) => ref_Is9 Ac co c W.heap.size p d W hl (Nat.le_refl _))
    have HAT := Lib.hid (fun W (h : Below w.heap.size w W) j (hj : j < R.length) => (hD.below h).at (k := j) hj)
    have HSM := Lib.hid (fun W (h : Below w.heap.size w W) j (hj : j < R.length) (h0 : 0 < R.length) => ref_same1 (R.getD j row0).a (R.getD 0 row0).a (R.getD j row0).l (R.getD 0 row0).l (R.getD j row0).c (R.getD 0 row0).c w.heap.size W ((hD.below h).2 _ (getD_mem hj)) ((hD.below h).2 _ (getD_mem h0)) (by have := hR _ (getD_mem hj); omega) (by have := hR _ (getD_mem h0); omega))
    have HST := Lib.hid (fun k (hk : k < R.length) => sameK_step hk)
    have HER := Lib.hid (fun (h : ¬ (drw k R l a t).2.2.2.2 = 0) => drw_err h)
    have HOK := Lib.hid (fun (h : (drw k R l a t).2.2.2.2 = 0) => drw_ok h)
    have HDI : Hid ((R.getD 0 row0).l.length = dimR R) := rfl
    have HNI := Lib.hid (@opn_nil R)
    have HNB := Lib.hid (@box_dim R)
    unfold GivesD at KD1
    unfold GivesS at HSP
    generalize drw k R l a t = Z at *
    clear hA hD hu hR h1 l4
    generalize hN : l.length = N at *
    generalize hQ : R.length = Q at *
    have HN := Lib.hid hN
    have HQ := Lib.hid hQ
    clear hN hQ
    go_enter Try.func10, Try.ntmps10
    go_wp2_with fail
    refine K0.out.mono ?_
    rintro e w0 ⟨rfl, rfl⟩
    go_wp2_with fail
    refine KD1.out.mono ?_
    rintro e w1 ⟨A1, c1, rfl, q1, q2, q3, _, b1⟩
    obtain ⟨zc, zn, zp, zb, ze⟩ := Z
    simp only at q1 q3 HER HOK
    have J1 := Lib.hid (((Kpc.start w).below b1).alloc #[.slice A1 zc.length c1, .int .i64 zn] 40)
    have H1 := Lib.hid (lies_up q3 ((Below.refl _ _).alloc (Nat.le_refl _) (.cells #[.slice A1 zc.length c1, .int .i64 zn] 40)))
    obtain ⟨x0, x1, _, _⟩ := J1.out.head.two
    clear q3 b1
    by_cases hze : ze = 0
    · subst hze
      obtain ⟨_, hbx, hcase⟩ := HOK.out rfl
      have hbd := HNB.out hbx
      have h0 : 0 < Q := by have := HQ.out; omega
      have hni := HNI.out hbx
      have HNI2 := Lib.hid hni
      have HCS := Lib.hid hcase
      have hz : ((Q : Int) == 0) = false := by rw [beq_eq_false_iff_ne]; omega
      clear hbx hbd hni hcase HNI HNB HOK HER
      go_wp2
      go_loopw [15, 16] (fun sv i wr => ∃ k : Nat, k ≤ Q ∧ i = .int .i64 k ∧ sv = .bool (decide (∀ j, j < k → (R.getD j row0).l = (R.getD 0 row0).l)) ∧ Hid (Kpc w.heap.size w [(w1.heap.size, #[.slice A1 zc.length c1, .int .i64 zn], 40)] wr) ∧ Hid (Lies wr wr.heap.size A1 zc)) (fun _ i _ => Q - (intOf i).toNat)
      case atStart => exact ⟨0, by omega, rfl, by simp, J1.out, H1.out⟩
      case round =>
        obtain ⟨k, hk, rfl, rfl, HJ, HH⟩ := hrel
        by_cases hlt : k < Q
        · obtain ⟨ad, hAr, _, hck, _⟩ := HAT.out wr HJ.out.2.1 k hlt
          obtain ⟨ad', hAr', _, hc0, _⟩ := HAT.out wr HJ.out.2.1 0 h0
          rw [hAr] at hAr'
          obtain rfl : ad = ad' := by cases hAr'; rfl
          subst hAr
          have hc0' : wr.cell? ad = some (.slice (R.getD 0 row0).a (R.getD 0 row0).l.length (R.getD 0 row0).c) := by rw [add_zero'] at hc0; exact hc0
          have KS := Lib.hid (fun n => HSM.out (wr.drewN n) (below_drewN2 HJ.out.2.1 n) k hlt h0)
          have HS := Lib.hid (HST.out k hlt)
          have hkg : (k : Int) < (Q : Int) := by omega
          have h0g : (0 : Int) < (Q : Int) := by omega
          generalize decide (∀ j, j < k → (R.getD j row0).l = (R.getD 0 row0).l) = sm at *
          generalize decide ((R.getD k row0).l = (R.getD 0 row0).l) = sk at *
          generalize R.getD k row0 = rk at *
          generalize R.getD 0 row0 = r0 at *
          obtain ⟨ka, kl, kc⟩ := rk
          obtain ⟨oa, ol, oc⟩ := r0
          simp only at hck hc0 hc0' KS HS
          cases sm
          · go_wp2
            go_quiet (fail)
            go_wp2
            exact ⟨⟨k + 1, by omega, by go_num, by rw [HS.out]; rfl, HJ.out.below (below_drewN2 (Below.refl _ _) nq), lies_up HH.out (below_drewN2 (Below.refl _ _) nq)⟩, by first | (simp [intOf]; done) | (simp [intOf]; omega)⟩
          · go_wp2
            go_quiet ((go_at_call 20; exact Calls.quiet_of (KS.out _)))
            go_wp2
            exact ⟨⟨k + 1, by omega, by go_num, by rw [HS.out]; rfl, HJ.out.below (below_drewN2 (Below.refl _ _) nq), lies_up HH.out (below_drewN2 (Below.refl _ _) nq)⟩, by first | (simp [intOf]; done) | (simp [intOf]; omega)⟩
        · obtain rfl : k = Q := by omega
          obtain ⟨x0, x1, _, _⟩ := HJ.out.head.two
          rcases HCS.out with ⟨ho, hz0⟩ | ⟨ho, hpa⟩
          · have hs : decide (∀ j, j < k → (R.getD j row0).l = (R.getD 0 row0).l) = true := decide_eq_true (HNI2.out.1 ho)
            obtain ⟨rfl, rfl, rfl, rfl⟩ : zc = [] ∧ zn = 0 ∧ zp = a ∧ zb = false := by simpa using hz0
            have ea : (zp == zp) = true := by simp
            rw [hs]
            clear hs ho hz0
            go_wp2_with fail
            refine (lives9 _).mono ?_
            rintro e wl ⟨rfl, hl⟩
            have JL := Lib.hid (HJ.out.below hl)
            go_wp2
            go_ret
            exact ⟨rfl, JL.out.2.1⟩
          · have hs : decide (∀ j, j < k → (R.getD j row0).l = (R.getD 0 row0).l) = false := decide_eq_false (fun h => ho (HNI2.out.2 h))
            obtain ⟨f1, f2, f3, f4, f5, f6, f7, _⟩ := hpa
            simp only at f1 f2 f3 f4 f5 f6 f7
            subst f1
            have KSS := Lib.hid (HSP.out wr HJ.out.2.1 A1 c1 zc zn HH.out (by omega) q1)
            rw [f3] at KSS
            rw [hs]
            generalize lft zc zn R = LF at *
            generalize rgt zc zn R = RG at *
            have KII := Lib.hid (fun W (hl : Lies W W.heap.size A1 zc) => HIS.out W A1 c1 zc zn (dimR R) hl)
            rw [f2] at KII
            have g4 : 0 < LF.length := f4
            have g5 : 0 < RG.length := f5
            generalize LF.length = nlf at *
            generalize RG.length = nrg at *
            have g6 : a < zp := f6
            have g7 : zp ≤ (N : Int) := by have := HN.out; omega
            have h0g : (0 : Int) < (k : Int) := by omega
            have HATk := Lib.hid (fun W (h : Below w.heap.size w W) => HAT.out W h 0 h0)
            rw [HDI.out] at HATk
            obtain ⟨ad, hAr, _, hc0, _⟩ := HATk.out wr HJ.out.2.1
            have HCK : Hid (∀ W, Below w.heap.size w W → W.cell? ad = some (.slice (R.getD 0 row0).a (dimR R) (R.getD 0 row0).c)) := fun W h => by
              obtain ⟨ad2, e2, _, hc2, _⟩ := HATk.out W h
              rw [hAr] at e2; cases e2
              rw [add_zero'] at hc2; exact hc2
            subst hAr
            clear hs ho f2 f3 f4 f5 f6 f7 hc0 HATk HAT HSM HST HCS HNI2
            generalize R.getD 0 row0 = r0 at *
            obtain ⟨oa, ol, oc⟩ := r0
            simp only at HCK
            generalize dimR R = dd at *
            go_wp2_with fail
            refine KSS.out.mono ?_
            rintro e w2 ⟨A2, c2, A3, c3, rfl, r1, r2, r3, r4, _, _, _, _, b2⟩
            have J2 := Lib.hid (HJ.out.below b2)
            have H2 := Lib.hid (lies_up HH.out b2)
            clear b2
            go_wp2
            have J2 := Lib.hid J2.out.drew
            have H2 := Lib.hid (lies_up H2.out (Below.refl _ _).drew)
            obtain ⟨y0, y1, _, _⟩ := J2.out.head.two
            have y2 := HCK.out _ J2.out.2.1
            go_region_held3 (fun W => W.cell? ⟨w1.heap.size, 0, none⟩ = some (.slice A1 zc.length c1) ∧ W.cell? ⟨w1.heap.size, 1, none⟩ = some (.int .i64 zn) ∧ W.cell? ad = some (.slice oa dd oc)) (go_keep)
              (first
                | (go_at_call 37; ((refine (KII.out _ H2.out).mono ?_); rintro e w3 ⟨rfl, b3⟩; have J2 := Lib.hid (J2.out.below b3); have H2 := Lib.hid (lies_up H2.out b3); obtain ⟨y0, y1, _, _⟩ := J2.out.head.two; have y2 := HCK.out _ J2.out.2.1; clear b3))
                | (go_at_call 31; ((refine (lives9 _).mono ?_); rintro e w3 ⟨rfl, b3⟩; have J2 := Lib.hid (J2.out.below b3); have H2 := Lib.hid (lies_up H2.out b3); obtain ⟨y0, y1, _, _⟩ := J2.out.head.two; have y2 := HCK.out _ J2.out.2.1; clear b3)))
            go_wp2
            go_ret
            exact ⟨rfl, J2.out.2.1⟩
    · have hzz := HER.out hze
      obtain ⟨rfl, rfl, rfl, rfl⟩ : zc = [] ∧ zn = 0 ∧ zp = 0 ∧ zb = false := by simpa using hzz
      have hne : (ze != 0) = true := by simpa using hze
      clear hzz HER HOK HNI HNB
      go_wp2_with fail
      refine (lives9 _).mono ?_
      rintro e wl ⟨rfl, hl⟩
      have JL := Lib.hid (J1.out.below hl)
      go_wp2
      go_ret
      exact ⟨rfl, JL.out.2.1⟩

set_option maxRecDepth 100000 in
theorem lifted (os : Os) (started : os.Started) (H : Type) (enc : TypeId × Value → H) :
    ReturnsInHanded {} Try.checked os 10 .any (Rows.cutPartsSpec.pre6 enc Try.prog Try.f10 Rows.cutPartsRow.domain false) (Rows.cutPartsSpec.post enc Try.prog Try.f10 false true false false) := by
  refine returnsInHanded_of_change (C := Try.checked) own started (by kernel_rfl) Try.func10
    (ChangeSpec.witness6 (enc := enc) (C := Try.checked) false ⟨#[], #[.int .i64 0, .slice none 0 0, .slice none 0 0, .int .i64 0, .int .i64 0], []⟩ 8 (by kernel_rfl) (by kernel_rfl) (by kernel_rfl) (by kernel_rfl)) ?_
  intro W base args ds gs before hval0 hW hcnd _
  have hval : ∀ (j : Nat) t v, Try.f10.params[j]? = some t → args[j]? = some v → Value.okWide Try.prog W .any base t v := hval0
  have hW' := hW
  obtain ⟨p, q, hA0, hV, rfl, hfz, hnd⟩ := hW
  obtain ⟨rfl, rfl⟩ := trodVars_none hV
  have hA : DataW.TrodAll enc Try.prog W 0 (fun _ => true) true Try.f10.params.toList args.toList ds p := hA0
  rw [Try.params10] at hA hval
  obtain ⟨v0, vs0, d0, ds0, p0, q0, hargs, rfl, rfl, h0, r0⟩ := trodAll_cons hA
  obtain ⟨v1, vs1, d1, ds1, p1, q1, rfl, rfl, rfl, h1, r1⟩ := trodAll_cons r0
  obtain ⟨v2, vs2, d2, ds2, p2, q2, rfl, rfl, rfl, h2, r2⟩ := trodAll_cons r1
  obtain ⟨v3, vs3, d3, ds3, p3, q3, rfl, rfl, rfl, h3, r3⟩ := trodAll_cons r2
  obtain ⟨v4, vs4, d4, ds4, p4, q4, rfl, rfl, rfl, h4, r4⟩ := trodAll_cons r3
  obtain ⟨rfl, rfl, rfl⟩ := trodAll_nil r4
  obtain rfl : args = #[v0, v1, v2, v3, v4] := by cases args; simp_all
  obtain ⟨a0, rfl, _, _, w0⟩ := open_int Try.underlying3 (hval 0 3 v0 rfl rfl) h0
  obtain ⟨A1, R1, c1, rfl, L1, I1, C1, M1⟩ := open_rows8 Try.underlying41 Try.underlying24 Try.underlying3 cells_l8 cells_i8 (hval 1 41 v1 rfl rfl) h1
  obtain ⟨A2, l2, c2, rfl, L2, I2, C2, M2⟩ := open_words Try.underlying22 Try.underlying67 cells_u64 (hval 2 22 v2 rfl rfl) h2
  obtain ⟨a3, rfl, _, _, w3⟩ := open_int Try.underlying3 (hval 3 3 v3 rfl rfl) h3
  obtain ⟨a4, rfl, _, _, w4⟩ := open_int Try.underlying3 (hval 4 3 v4 rfl rfl) h4
  refine (walk a0 (i64_of_wf w0) A1 R1 c1 L1 I1 C1 M1 A2 l2 c2 L2 I2 C2 M2 a3 (i64_of_wf w3) a4 (i64_of_wf w4) W).mono fun e W' ⟨he, hg⟩ => ?_
  subst he
  exact ⟨_, rfl, law_post laid (by rw [Try.params10]; exact (by decide +kernel)) rfl (by kernel_rfl) Try.underlying4 rfl hW' hg⟩

theorem over : Rows.cutPartsRow.holds Try.pinned (OpenSpec.ofChange Rows.cutPartsSpec) :=
  OpenClaim.holds_of_wide 10 Try.f10 rfl rfl rfl rfl rfl rfl rfl ⟨rfl, rfl, rfl, rfl, rfl⟩ rfl rfl rfl rfl rfl (by kernel_rfl) Try.func10 (by kernel_rfl)
    (of_decide_eq_true (by kernel_rfl)) (by unfold Func.isWrapper; first | (rw [if_pos (by decide +kernel)]; kernel_rfl) | (rw [if_neg (by decide +kernel)]; exact ⟨rfl, rfl⟩))
    (fun os started H enc _ => lifted os started H enc)
theorem proved : Rows.CutPartsSaid := over
end Go.Proofs.Ytpjgnghmhbkmkaa.cutParts
