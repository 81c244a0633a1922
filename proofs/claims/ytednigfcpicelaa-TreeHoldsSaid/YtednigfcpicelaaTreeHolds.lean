/- Statement TreeHolds: whatever the input is, the Go function returns true and each argument reads as it did. No condition. -/
import Derived.Test.YtednigfcpicelaaRows
import Derived.Test.YtednigfcpicelaaTrF
import Derived.Test.YtednigfcpicelaaVecT
import Derived.Test.YtednigfcpicelaaTreeL
import Derived.Test.YtednigfcpicelaaNumLog
import Derived.Test.YtednigfcpicelaaBase
import Derived.ProofKit
import Derived.OpenShut
namespace Go.Proofs.Ytednigfcpicelaa.treeHolds
open Go.ChangeShapes Go.WideShapes Go.ChangeAt Go.RowKit
set_option linter.unusedVariables false

theorem own : ownKnob Try.prog.godebug = none := by kernel_rfl
theorem laid : laidOutB Try.prog = true := by kernel_rfl

theorem not_much {R : List Row} {l : List Int} (h : ¬ (muchV R 70 = true ∨ 300 < l.length)) : muchV R 70 = false ∧ ¬ (300 : Int) < (l.length : Int) ∧ l.length ≤ 300 := by
  refine ⟨?_, by omega, by omega⟩
  cases h2 : muchV R 70 with
  | false => rfl
  | true => exact absurd (.inl h2) h
set_option maxRecDepth 100000 in
set_option maxHeartbeats 8000000 in
theorem walk {w : World} (k : Int) (hk : I64 k) (D : Option Addr) (R : List Row) (cd : Nat) (hD : LiesR w w.heap.size D R) (hR : OkR R) (hcd : R.length ≤ cd) (hmd : cd ≤ 9223372036854775807)
    (A : Option Addr) (l : List Int) (ca : Nat) (hA : LiesU w w.heap.size A l) (hu : ∀ x ∈ l, U64 x) (hca : l.length ≤ ca) (hma : ca ≤ 9223372036854775807) (a : Int) (ha : I64 a) (t : Int) (ht : I64 t) (_ : World) :
    Calls Try.prog 7 #[.int .i64 k, .slice D R.length cd, .slice A l.length ca, .int .i64 a, .int .i64 t] w fun e w' => e = .returned (.bool true) ∧ Below w.heap.size w w' := by
  have K0 := Lib.hid (ref_Much D R cd w.heap.size 70 w hD (by omega))
  by_cases h1 : muchV R 70 = true ∨ 300 < l.length
  · clear hA hD hu hR
    generalize hmu : muchV R 70 = mu at *
    generalize l.length = N at *
    generalize R.length = Q at *
    cases mu
    · have g1 : (300 : Int) < (N : Int) := by
        rcases h1 with h | h
        · cases h
        · omega
      clear h1 hmu
      go_enter Try.func7, Try.ntmps7
      go_wp2_with fail
      refine K0.out.mono ?_
      rintro e w0 ⟨rfl, rfl⟩
      go_wp2_with fail
      refine (lives10 _).mono ?_
      rintro e wl ⟨rfl, hl⟩
      go_wp2
      go_ret
      exact ⟨rfl, hl⟩
    · clear h1 hmu
      go_enter Try.func7, Try.ntmps7
      go_wp2_with fail
      refine K0.out.mono ?_
      rintro e w0 ⟨rfl, rfl⟩
      go_wp2_with fail
      refine (lives10 _).mono ?_
      rintro e wl ⟨rfl, hl⟩
      go_wp2
      go_ret
      exact ⟨rfl, hl⟩
  · obtain ⟨l4, j1, _⟩ := not_much h1
    rw [l4] at K0
    have KD1 := Lib.hid (tree_Grow D A R l cd ca k a t w hD hR hA hu (by omega) ha (by omega) hcd)
    unfold GivesG at KD1
    have HGD := Lib.hid (@groG_good k a t R l)
    have HGL := Lib.hid (fun N => @groG_leaves k a t R l N)
    generalize groG k R l a t = Z at *
    by_cases hz : Z.2.2.2 = 0
    · obtain ⟨q1, q2, q3, q4, q5, q6, q7, q8, q9, q10⟩ := HGD.out hz
      have HGL2 := Lib.hid (fun N h => HGL.out N hz h)
      have HDR := Lib.hid (fun W (h : Below w.heap.size w W) j (hj : j < R.length) => ((hD.below h).mono h.size).at (k := j) hj)
      have HOR : Hid (∀ j, j < R.length → (R.getD j row0).l.length ≤ (R.getD j row0).c ∧ ((R.getD j row0).l.length : Int) ≤ 9223372036854775807) := fun j hj => by
        have := hR _ (getD_mem hj)
        exact ⟨this.1, by omega⟩
      clear HGD HGL q7 q10
      obtain ⟨zd, zn, za, ze⟩ := Z
      simp only at hz q6 q8 q9 KD1 HGL2
      subst hz
      subst q6
      have KL := Lib.hid (fun W => ref_log (R.length : Int) (by unfold I64; omega) W)
      have HLG := Lib.hid (fun k h => log_lgT (n := (R.length : Int)) (k := k) h (by omega))
      have HTK : Hid (R.take R.length = R) := List.take_length
      have HT9 := Lib.hid q9
      have HCS := Lib.hid (fun N f k cm (hk : k < R.length) h1 h2 => @came_step N R f k cm hk h1 h2)
      have hlg6 := lgT_le (R.length : Int)
      clear hA hD hu hR h1 l4 q1 q2 q8 q9
      generalize l.length = NL at *
      generalize lgT (R.length : Int) = lg at *
      generalize R.length = Q at *
      generalize dimR R = dm at *
      go_enter Try.func7, Try.ntmps7
      go_wp2_with fail
      refine K0.out.mono ?_
      rintro e w0 ⟨rfl, rfl⟩
      go_wp2_with fail
      refine KD1.out.mono ?_
      rintro e w1 ⟨A1, N1, c1, rfl, m1, l1, o1, b1⟩
      have J1 := Lib.hid (((Kpc.start w).below b1).alloc #[.int .i64 dm, .slice A1 N1.length c1] 24)
      have H1 := Lib.hid (liesT_up l1 ((Below.refl _ _).alloc (Nat.le_refl _) (.cells #[.int .i64 dm, .slice A1 N1.length c1] 24)))
      have hn1 : N1.length = zn.length := by have := congrArg List.length m1; simpa using this
      have hT := isT_same (N := N1) HT9.out (by rw [m1]; have h5 := cnt_cnt N1; rw [m1] at h5; exact h5.symm)
      have hp1 := isT_len hT
      obtain ⟨HLF', HCM'⟩ := HGL2.out N1 m1
      have HLF := Lib.hid HLF'
      have HCM := Lib.hid HCM'
      obtain ⟨ad, eA, _, _⟩ := H1.out.at (k := 0) hp1.1
      subst eA
      have hlen0 : (0 : Int) < (N1.length : Int) := by omega
      have hlen1 : (N1.length : Int) ≤ 127 := by omega
      have hQ64 : (Q : Int) ≤ 64 := by omega
      have HCN : Hid (∀ W, LiesT W W.heap.size (some ad) N1 → ∀ i, i < N1.length → W.cell? ⟨(ad.add (i * 5)).block, (ad.add (i * 5)).off + 2, none⟩ = some (.int .i64 (N1.getD i tn0).lf) ∧ W.cell? ⟨(ad.add (i * 5)).block, (ad.add (i * 5)).off + 4, none⟩ = some (.int .i64 (N1.getD i tn0).sz)) := fun W h i hi => by
        obtain ⟨ad', e', _, ⟨_, _, c2, _, c4⟩, _⟩ := h.at (k := i) hi
        cases e'
        exact ⟨c2, c4⟩
      have KF : Hid (∀ W, LiesT W W.heap.size (some ad) N1 → Below w.heap.size w W → ∀ j, j < Q → Calls Try.prog 24 #[.agg #[.int .i64 dm, .slice (some ad) N1.length c1], .slice (R.getD j row0).a (R.getD j row0).l.length (R.getD j row0).c] W fun e w' => e = .returned (.tuple #[.int .i64 ((dnT N1 (R.getD j row0).l N1.length 0).1 : Int), .int .i64 ((dnT N1 (R.getD j row0).l N1.length 0).2 : Int), .int .i64 0]) ∧ Below W.heap.size W w') := fun W h hb j hj => by
        obtain ⟨_, _, _, _, hl⟩ := HDR.out W hb j hj
        have := tree_Leaf N1 dm (some ad) (R.getD j row0).a (R.getD j row0).l c1 (R.getD j row0).c W.heap.size W (by omega) o1 h hl (HOR.out j hj).2 (HOR.out j hj).1 (Nat.le_refl _)
        rw [(HLF.out j hj).1] at this
        exact this
      have HB1 : Hid (Below w.heap.size w (w1.alloc (.cells #[.int .i64 dm, .slice (some ad) N1.length c1] 24))) := J1.out.2.1
      clear l1 b1 m1 o1 hT hn1 hp1 HLF' HCM' HGL2 HT9
      generalize hL : N1.length = n1 at *
      clear hL
      go_upto_region 6 with fail
      generalize hW1 : w1.alloc (.cells #[.int .i64 dm, .slice (some ad) n1 c1] 24) = W1 at *
      have JT : Hid (Box W1 w1.heap.size #[.int .i64 dm, .slice (some ad) n1 c1] 24) := J1.out.head
      obtain ⟨x0, x1, _, _⟩ := JT.out.two
      clear J1 hW1
      go_wp2_with (at_make; refine make_ints rfl (.tmp 44) (.tmp 44) rfl n1 rfl rfl (by omega) ?_; intro w2 ho2 hb2; have HO2 := Lib.hid ho2; have HB2 := Lib.hid hb2; clear ho2 hb2)
      go_loopw [15] (fun iv wr => ∃ (j : Nat) (cm : List Int), j ≤ Q ∧ iv = .int .i64 j ∧ Hid (cm.length = n1) ∧ Hid (∀ i, i < cm.length → cm.getD i 0 = (((R.take j).countP (atL N1 n1 i) : Nat) : Int)) ∧ Hid (OwnI wr W1.heap.size cm) ∧ Hid (Below W1.heap.size W1 wr)) (fun iv _ => Q - (intOf iv).toNat)
      case atStart =>
        refine ⟨0, List.replicate n1 0, by omega, rfl, (by show _ = _; simp), fun i hi => ?_, HO2.out, HB2.out⟩
        rw [List.length_replicate] at hi
        simp [List.getD, hi]
      case round =>
        obtain ⟨j, cm, hj, rfl, HCL, HCC, HO, HB⟩ := hrel
        have HTr := Lib.hid ((H1.out.below HB.out).mono HB.out.size)
        have HBr : Hid (Below w.heap.size w wr) := HB1.out.trans (HB.out.mono HB1.out.size)
        have JTr := Lib.hid (JT.out.below HB.out JT.out.lt)
        clear x0 x1
        obtain ⟨x0, x1, _, _⟩ := JTr.out.two
        by_cases hlt : j < Q
        · have hlg : (j : Int) < (Q : Int) := by omega
          obtain ⟨adR, eR, _, cR, _⟩ := HDR.out wr HBr.out j hlt
          subst eR
          have HCR : Hid (∀ W, Below w.heap.size w W → W.cell? (adR.add j) = some (.slice (R.getD j row0).a (R.getD j row0).l.length (R.getD j row0).c)) := fun W h => by
            obtain ⟨ad', e', _, c', _⟩ := HDR.out W h j hlt
            cases e'
            exact c'
          have HLJ := HLF.out j hlt
          obtain ⟨_, hs1, hs2⟩ := HLJ
          have HST := Lib.hid (HCS.out N1 n1 j cm hlt HCC.out (by have := HCL.out; omega))
          have KFj := Lib.hid (fun W h hb => KF.out W h hb j hlt)
          generalize hs : (dnT N1 (R.getD j row0).l n1 0).1 = s at *
          generalize (dnT N1 (R.getD j row0).l n1 0).2 = dd at *
          clear hs
          generalize R.getD j row0 = r at *
          obtain ⟨ra, rl, rc⟩ := r
          simp only at cR KFj HCR
          generalize rl.length = rn at *
          have hs3 : ¬ (s : Int) < 0 := by omega
          have hs4 : ¬ (n1 : Int) ≤ (s : Int) := by omega
          have hs5 : (s : Int) < (n1 : Int) := by omega
          have hs6 : ¬ (dd : Int) < 0 := by omega
          have hs7 : ¬ (lg : Int) < (dd : Int) := by omega
          have JD := Lib.hid (show Box wr.drew w1.heap.size #[.int .i64 dm, .slice (some ad) n1 c1] 24 from JTr.out)
          have HTd := Lib.hid (liesT_up HTr.out (Below.refl _ _).drew)
          have HBd : Hid (Below w.heap.size w wr.drew) := HBr.out.drew
          have HBd1 : Hid (Below W1.heap.size W1 wr.drew) := HB.out.drew
          have HOd : Hid (OwnI wr.drew W1.heap.size cm) := HO.out
          go_wp2
          go_region_held3 (fun W => W.cell? ⟨w1.heap.size, 0, none⟩ = some (.int .i64 dm) ∧ W.cell? ⟨w1.heap.size, 1, none⟩ = some (.slice (some ad) n1 c1) ∧ W.cell? (adR.add j) = some (.slice ra rn rc)) (go_keep)
            (first
              | (go_at_call 24; ((refine (KFj.out _ HTd.out HBd.out).mono ?_); rintro e w3 ⟨rfl, b3⟩; have HTe := Lib.hid (liesT_up HTd.out b3); have HBe := Lib.hid (HBd.out.trans (b3.mono HBd.out.size)); have HBe1 := Lib.hid (HBd1.out.trans (b3.mono HBd1.out.size)); have HOe := Lib.hid (HOd.out.below b3 HOd.out.lt); have JE := Lib.hid (JD.out.below b3 JD.out.lt); obtain ⟨x0, x1, _, _⟩ := JE.out.two; have cR := HCR.out _ HBe.out; clear b3)))
          all_goals
            have u0 := HOe.out.cell (k := s) (by have := HCL.out; omega)
            have f0 := HOe.out.free s
            have hv0 : 0 ≤ cm.getD s 0 ∧ cm.getD s 0 ≤ 64 := by
              have h1 := HCC.out s (by have := HCL.out; omega)
              have h2 : (R.take j).countP (atL N1 n1 s) ≤ (R.take j).length := List.countP_le_length
              rw [List.length_take] at h2
              omega
            have HOf := Lib.hid (HOe.out.set (k := s) (by have := HCL.out; omega) (cm.getD s 0 + 1))
            obtain ⟨hv1, hv2⟩ := hv0
            generalize cm.getD s 0 = v at *
            go_wp2_with fail
            refine (KL.out _).mono ?_
            rintro e w4 ⟨kl, hkl, rfl, rfl⟩
            obtain rfl := HLG.out kl hkl
            go_wp2
            exact ⟨⟨j + 1, cm.set s (v + 1), by omega, by go_num, (by show _ = _; rw [List.length_set]; exact HCL.out), HST.out, HOf.out, HBe1.out.setCell (p := ⟨W1.heap.size, s, none⟩) (Nat.le_refl _) _⟩, by first | (simp [intOf]; done) | (simp [intOf]; omega)⟩
        · obtain rfl : j = Q := by omega
          rw [HTK.out] at HCC
          have HCE : Hid (∀ i, i < n1 → cm.getD i 0 = if (N1.getD i tn0).lf = 0 then (N1.getD i tn0).sz else 0) := fun i hi => by
            rw [HCC.out i (by have := HCL.out; omega), HCM.out i hi]
          go_wp2
          go_loopw [19] (fun iv wq => ∃ i : Nat, i ≤ n1 ∧ iv = .int .i64 i ∧ Hid (OwnI wq W1.heap.size cm) ∧ Hid (Below W1.heap.size W1 wq)) (fun iv _ => n1 - (intOf iv).toNat)
          case atStart => exact ⟨0, by omega, rfl, HO.out, HB.out⟩
          case round =>
            obtain ⟨i, hi, rfl, HO3, HB3⟩ := hrel
            have HT3 := Lib.hid ((H1.out.below HB3.out).mono HB3.out.size)
            have J3 := Lib.hid (JT.out.below HB3.out JT.out.lt)
            have HBw3 : Hid (Below w.heap.size w _) := HB1.out.trans (HB3.out.mono HB1.out.size)
            clear x0 x1
            obtain ⟨x0, x1, _, _⟩ := J3.out.two
            by_cases hin : i < n1
            · have hig : (i : Int) < (n1 : Int) := by omega
              have u0 := HO3.out.cell (k := i) (by have := HCL.out; omega)
              obtain ⟨c2, c4⟩ := HCN.out _ HT3.out i hin
              have hce := HCE.out i hin
              by_cases hlf : (N1.getD i tn0).lf = 0
              · rw [if_pos hlf] at hce
                rw [hce] at u0
                rw [hlf] at c2
                clear hce hlf
                generalize (N1.getD i tn0).sz = sz at *
                have e1 : (sz != sz) = false := by simp
                go_wp2
                go_quiet (fail)
                go_wp2
                exact ⟨⟨i + 1, by omega, by go_num, OwnI.drewN HO3.out _, below_drewN2 HB3.out _⟩, by first | (simp [intOf]; done) | (simp [intOf]; omega)⟩
              · rw [if_neg hlf] at hce
                rw [hce] at u0
                have e1 : ((N1.getD i tn0).lf == 0) = false := by rw [beq_eq_false_iff_ne]; exact hlf
                clear hce hlf
                generalize (N1.getD i tn0).sz = sz at *
                generalize (N1.getD i tn0).lf = lf at *
                go_wp2
                go_quiet (fail)
                go_wp2
                exact ⟨⟨i + 1, by omega, by go_num, OwnI.drewN HO3.out _, below_drewN2 HB3.out _⟩, by first | (simp [intOf]; done) | (simp [intOf]; omega)⟩
            · obtain rfl : i = n1 := by omega
              go_wp2_with fail
              refine (lives10 _).mono ?_
              rintro e wl ⟨rfl, hl⟩
              have hfin : Below w.heap.size w wl := HBw3.out.trans (hl.mono HBw3.out.size)
              go_wp2
              go_ret
              exact ⟨rfl, hfin⟩
    · clear HGD HGL
      obtain ⟨zd, zn, za, ze⟩ := Z
      simp only at KD1 hz
      clear hA hD hu hR h1 l4
      generalize l.length = N at *
      generalize R.length = Q at *
      have hne : (ze != 0) = true := by simp [hz]
      go_enter Try.func7, Try.ntmps7
      go_wp2_with fail
      refine K0.out.mono ?_
      rintro e w0 ⟨rfl, rfl⟩
      go_wp2_with fail
      refine KD1.out.mono ?_
      rintro e w1 ⟨A1, N1, c1, rfl, m1, l1, o1, b1⟩
      have J1 := Lib.hid (((Kpc.start w).below b1).alloc #[.int .i64 zd, .slice A1 N1.length c1] 24)
      clear m1 l1 o1 b1
      generalize N1.length = n1 at *
      go_wp2_with fail
      refine (lives10 _).mono ?_
      rintro e wl ⟨rfl, hl⟩
      have J4 := Lib.hid (J1.out.below hl)
      go_wp2
      go_ret
      exact ⟨rfl, J4.out.2.1⟩

set_option maxRecDepth 100000 in
theorem lifted (os : Os) (started : os.Started) (H : Type) (enc : TypeId × Value → H) :
    ReturnsInHanded {} Try.checked os 7 .any (Rows.treeHoldsSpec.pre6 enc Try.prog Try.f7 Rows.treeHoldsRow.domain false) (Rows.treeHoldsSpec.post enc Try.prog Try.f7 false true false false) := by
  refine returnsInHanded_of_change (C := Try.checked) own started (by kernel_rfl) Try.func7
    (ChangeSpec.witness6 (enc := enc) (C := Try.checked) false ⟨#[], #[.int .i64 0, .slice none 0 0, .slice none 0 0, .int .i64 0, .int .i64 0], []⟩ 8 (by kernel_rfl) (by kernel_rfl) (by kernel_rfl) (by kernel_rfl)) ?_
  intro W base args ds gs before hval0 hW hcnd _
  have hval : ∀ (j : Nat) t v, Try.f7.params[j]? = some t → args[j]? = some v → Value.okWide Try.prog W .any base t v := hval0
  have hW' := hW
  obtain ⟨p, q, hA0, hV, rfl, hfz, hnd⟩ := hW
  obtain ⟨rfl, rfl⟩ := trodVars_none hV
  have hA : DataW.TrodAll enc Try.prog W 0 (fun _ => true) true Try.f7.params.toList args.toList ds p := hA0
  rw [Try.params7] at hA hval
  obtain ⟨v0, vs0, d0, ds0, p0, q0, hargs, rfl, rfl, h0, r0⟩ := trodAll_cons hA
  obtain ⟨v1, vs1, d1, ds1, p1, q1, rfl, rfl, rfl, h1, r1⟩ := trodAll_cons r0
  obtain ⟨v2, vs2, d2, ds2, p2, q2, rfl, rfl, rfl, h2, r2⟩ := trodAll_cons r1
  obtain ⟨v3, vs3, d3, ds3, p3, q3, rfl, rfl, rfl, h3, r3⟩ := trodAll_cons r2
  obtain ⟨v4, vs4, d4, ds4, p4, q4, rfl, rfl, rfl, h4, r4⟩ := trodAll_cons r3
  obtain ⟨rfl, rfl, rfl⟩ := trodAll_nil r4
  obtain rfl : args = #[v0, v1, v2, v3, v4] := by cases args; simp_all
  obtain ⟨a0, rfl, _, _, w0⟩ := open_int Try.underlying3 (hval 0 3 v0 rfl rfl) h0
  obtain ⟨A1, R1, c1, rfl, L1, I1, C1, M1⟩ := open_rows8 Try.underlying28 Try.underlying35 Try.underlying3 cells_l8 cells_i8 (hval 1 28 v1 rfl rfl) h1
  obtain ⟨A2, l2, c2, rfl, L2, I2, C2, M2⟩ := open_words Try.underlying29 Try.underlying57 cells_u64 (hval 2 29 v2 rfl rfl) h2
  obtain ⟨a3, rfl, _, _, w3⟩ := open_int Try.underlying3 (hval 3 3 v3 rfl rfl) h3
  obtain ⟨a4, rfl, _, _, w4⟩ := open_int Try.underlying3 (hval 4 3 v4 rfl rfl) h4
  refine (walk a0 (i64_of_wf w0) A1 R1 c1 L1 I1 C1 M1 A2 l2 c2 L2 I2 C2 M2 a3 (i64_of_wf w3) a4 (i64_of_wf w4) W).mono fun e W' ⟨he, hg⟩ => ?_
  subst he
  exact ⟨_, rfl, law_post laid (by rw [Try.params7]; exact (by decide +kernel)) rfl (by kernel_rfl) Try.underlying4 rfl hW' hg⟩

theorem over : Rows.treeHoldsRow.holds Try.pinned (OpenSpec.ofChange Rows.treeHoldsSpec) :=
  OpenClaim.holds_of_wide 7 Try.f7 rfl rfl rfl rfl rfl rfl rfl ⟨rfl, rfl, rfl, rfl, rfl⟩ rfl rfl rfl rfl rfl (by kernel_rfl) Try.func7 (by kernel_rfl)
    (of_decide_eq_true (by kernel_rfl)) (by unfold Func.isWrapper; first | (rw [if_pos (by decide +kernel)]; kernel_rfl) | (rw [if_neg (by decide +kernel)]; exact ⟨rfl, rfl⟩))
    (fun os started H enc _ => lifted os started H enc)
theorem proved : Rows.TreeHoldsSaid := over
end Go.Proofs.Ytednigfcpicelaa.treeHolds
