/- Statement VecBoxes: whatever the input is, the Go function returns true and each argument reads as it did. No condition. -/
import Derived.Test.YteljkppcaanniaaRows
import Derived.Test.YteljkppcaanniaaVecO
import Derived.Test.YteljkppcaanniaaVecQ
import Derived.Test.YteljkppcaanniaaBase
import Derived.ProofKit
import Derived.OpenShut
namespace Go.Proofs.Yteljkppcaanniaa.vecBoxes
open Go.ChangeShapes Go.WideShapes Go.ChangeAt Go.RowKit
set_option linter.unusedVariables false

theorem own : ownKnob Try.prog.godebug = none := by kernel_rfl
theorem laid : laidOutB Try.prog = true := by kernel_rfl

theorem box_len (R : List Row) (d : Int) : (boxHi R d).length = (boxLo R d).length := by unfold boxLo boxHi; split <;> simp
theorem box_in {R : List Row} {d : Int} (h : boxE R d = true) {j : Nat} (hj : j < R.length) : inV (boxLo R d) (boxHi R d) (R.getD j row0).l = true := by
  have h2 := h
  unfold boxE at h2
  rw [Bool.and_eq_true, decide_eq_true_eq] at h2
  obtain ⟨hall, h0⟩ := h2
  obtain ⟨v1, v2, v3, _⟩ := isV_iff.1 (allV_iff.1 hall j hj)
  have hlen : ((List.range d.toNat).map (colL R)).length = (R.getD j row0).l.length := by rw [List.length_map, List.length_range]; omega
  have hlen2 : ((List.range d.toNat).map (colH R)).length = (R.getD j row0).l.length := by rw [List.length_map, List.length_range]; omega
  unfold boxLo boxHi
  rw [if_pos h, if_pos h]
  refine inV_iff.2 ⟨hlen, hlen2, fun k hk => ?_⟩
  have hk2 : k < d.toNat := by omega
  have e1 : ((List.range d.toNat).map (colL R)).getD k 0 = colL R k := by rw [List.getD_eq_getElem?_getD, List.getElem?_map, List.getElem?_range hk2]; rfl
  have e2 : ((List.range d.toNat).map (colH R)).getD k 0 = colH R k := by rw [List.getD_eq_getElem?_getD, List.getElem?_map, List.getElem?_range hk2]; rfl
  rw [e1, e2, ← colL_all h0, ← colH_all h0]
  have g1 := (le_loL (loL ((R.getD 0 row0).l.getD k 0) (colR R k)) (colR R k) ((R.getD 0 row0).l.getD k 0)).1 (by omega)
  have g2 := (hiL_le (hiL ((R.getD 0 row0).l.getD k 0) (colR R k)) (colR R k) ((R.getD 0 row0).l.getD k 0)).1 (by omega)
  have hm : (R.getD j row0).l.getD k 0 ∈ colR R k := by
    rw [← colR_get R k hj]
    exact mem_getD (by unfold colR; simpa using hj)
  exact ⟨g1.2 _ hm, g2.2 _ hm⟩
theorem boxC_iff (R : List Row) (d : Int) : boxC R d = if boxE R d then 0 else 80 := rfl
set_option maxRecDepth 100000 in
set_option maxHeartbeats 16000000 in
theorem walk (D : Option Addr) (R : List Row) (cd : Nat) {w : World} (hD : LiesR w w.heap.size D R) (hR : OkR R) (hcd : R.length ≤ cd) (hmd : cd ≤ 9223372036854775807) (d : Int) (hd : I64 d)
    (A : Option Addr) (a : List Int) (ca : Nat) (hA : Lies w w.heap.size A a) (ha : ∀ x ∈ a, I64 x) (hca : a.length ≤ ca) (hma : ca ≤ 9223372036854775807) (_ : World) :
    Calls Try.prog 8 #[.slice D R.length cd, .int .i64 d, .slice A a.length ca] w fun e w' => e = .returned (.bool true) ∧ Below w.heap.size w w' := by
  have K0 := Lib.hid (ref_Much D R cd w.heap.size 60 w hD (by omega))
  by_cases h1 : muchV R 60 = true ∨ 20 < a.length
  · clear hA hD ha hR
    generalize hmu : muchV R 60 = mu at *
    generalize a.length = N at *
    generalize R.length = Q at *
    cases mu
    · have g1 : (20 : Int) < (N : Int) := by
        rcases h1 with h | h
        · cases h
        · omega
      clear h1 hmu
      go_enter Try.func8, Try.ntmps8
      go_wp2_with fail
      refine K0.out.mono ?_
      rintro e w0 ⟨rfl, rfl⟩
      go_wp2_with fail
      refine (lives8 _).mono ?_
      rintro e wl ⟨rfl, hl⟩
      go_wp2
      go_ret
      exact ⟨rfl, below_tr (Below.refl _ _) hl⟩
    · clear h1 hmu
      go_enter Try.func8, Try.ntmps8
      go_wp2_with fail
      refine K0.out.mono ?_
      rintro e w0 ⟨rfl, rfl⟩
      go_wp2_with fail
      refine (lives8 _).mono ?_
      rintro e wl ⟨rfl, hl⟩
      go_wp2
      go_ret
      exact ⟨rfl, below_tr (Below.refl _ _) hl⟩
  · have l1 : a.length ≤ 20 := by omega
    have l4 : muchV R 60 = false := by
      cases h : muchV R 60 with
      | false => rfl
      | true => exact absurd (.inl h) h1
    rw [l4] at K0
    have i1 : ((a.length : Nat) : Int) ≤ 9223372036854775807 := by omega
    have i4 : ((R.length : Nat) : Int) ≤ 9223372036854775807 := by omega
    have j1 : ¬ (20 : Int) < (a.length : Int) := by omega
    have LA := fun W (h : Below w.heap.size w W) => (hA.below h).mono h.size
    have LD := fun W (h : Below w.heap.size w W) => (hD.below h).mono h.size
    have K1 := Lib.hid (fun W h => vec_Box D R cd d W (LD W h) hR i4 hcd)
    have K2 := Lib.hid (fun W h => ref_Box D R cd d W (LD W h) i4)
    have HLA := Lib.hid LA
    have HLD := Lib.hid (fun W (h : Below w.heap.size w W) j (hj : j < R.length) => (LD W h).at hj)
    have HROW := Lib.hid (fun W (h : Below w.heap.size w W) j (hj : j < R.length) => (LD W h).2 _ (getD_mem hj))
    have HRL : Hid (∀ j, j < R.length → ((R.getD j row0).l.length : Int) ≤ 9223372036854775807) := fun j hj => by have := hR _ (getD_mem hj); omega
    have HIN := Lib.hid (fun (h : boxE R d = true) j (hj : j < R.length) => box_in h hj)
    have HC : Hid (boxC R d = if boxE R d then 0 else 80) := rfl
    have HBL := Lib.hid (box_len R d)
    have HLL : (boxLo R d).length ≤ 1000000 := by
      unfold boxLo
      split
      · rename_i h
        unfold boxE at h
        rw [Bool.and_eq_true, decide_eq_true_eq] at h
        obtain ⟨_, v2, _, _⟩ := isV_iff.1 (allV_iff.1 h.1 0 h.2)
        simp; omega
      · simp
    have HG : Hid (∀ W e w', GivesBox R d W e w' → ∃ A c A2 c2, e = .returned (.tuple #[.slice A (boxLo R d).length c, .slice A2 (boxHi R d).length c2, .int .i64 (boxC R d)]) ∧ (boxLo R d).length ≤ c ∧ (boxHi R d).length ≤ c2 ∧ Lies w' w'.heap.size A (boxLo R d) ∧ Lies w' w'.heap.size A2 (boxHi R d) ∧ Below W.heap.size W w') := fun W e w' h => h
    have K1' := Lib.hid (fun W h => (K1.out W h).mono fun e w' hh => HG.out W e w' hh)
    have K2' := Lib.hid (fun W h => (K2.out W h).mono fun e w' hh => HG.out W e w' hh)
    clear K1 K2 HG
    generalize boxLo R d = LO at *
    generalize boxHi R d = HI at *
    generalize boxC R d = rc at *
    generalize boxE R d = q at *
    rw [HBL.out] at K1' K2'
    have i5 : ((LO.length : Nat) : Int) ≤ 9223372036854775807 := by omega
    have i6 : ((HI.length : Nat) : Int) ≤ 9223372036854775807 := by rw [HBL.out]; omega
    have HLH : HI.length ≤ 1000000 := by rw [HBL.out]; exact HLL
    have i7 : ((openL LO HI).length : Int) ≤ 9223372036854775807 := by
      have := openK_len LO HI (min LO.length HI.length)
      unfold openL; omega
    have KS1 := Lib.hid (fun W A1 A2 c1 c2 (h1 : Lies W W.heap.size A1 LO) (h2 : Lies W W.heap.size A2 LO) => ref_same1 A1 A2 LO LO c1 c2 W.heap.size W h1 h2 i5 i5)
    rw [show decide (LO = LO) = true from by simp] at KS1
    have KS2 := Lib.hid (fun W A1 A2 c1 c2 (h1 : Lies W W.heap.size A1 HI) (h2 : Lies W W.heap.size A2 HI) => ref_same1 A1 A2 HI HI c1 c2 W.heap.size W h1 h2 i6 i6)
    rw [show decide (HI = HI) = true from by simp, HBL.out] at KS2
    have KO1 := Lib.hid (fun W A1 A2 c1 c2 (h1 : Lies W W.heap.size A1 LO) (h2 : Lies W W.heap.size A2 HI) => vec_Open A1 A2 LO HI c1 c2 W h1 h2 HLL HLH)
    have KO2 := Lib.hid (fun W A1 A2 c1 c2 (h1 : Lies W W.heap.size A1 LO) (h2 : Lies W W.heap.size A2 HI) => ref_Open A1 A2 LO HI c1 c2 W h1 h2 HLL HLH)
    rw [HBL.out] at KO1 KO2
    have KS3 := Lib.hid (fun W A1 A2 c1 c2 (h1 : Lies W W.heap.size A1 (openL LO HI)) (h2 : Lies W W.heap.size A2 (openL LO HI)) => ref_same1 A1 A2 (openL LO HI) (openL LO HI) c1 c2 W.heap.size W h1 h2 i7 i7)
    rw [show decide (openL LO HI = openL LO HI) = true from by simp] at KS3
    have KI1 := Lib.hid (fun W A1 A2 c1 c2 (h : Below w.heap.size w W) (h1 : Lies W W.heap.size A1 LO) (h2 : Lies W W.heap.size A2 HI) => vec_In A1 A2 A LO HI a c1 c2 ca W.heap.size W h1 h2 (LA W h) i1)
    have KI2 := Lib.hid (fun W A1 A2 c1 c2 (h : Below w.heap.size w W) (h1 : Lies W W.heap.size A1 LO) (h2 : Lies W W.heap.size A2 HI) j (hj : j < R.length) => vec_In A1 A2 (R.getD j row0).a LO HI (R.getD j row0).l c1 c2 (R.getD j row0).c W.heap.size W h1 h2 ((LD W h).2 _ (getD_mem hj)) (HRL.out j hj))
    rw [HBL.out] at KI1 KI2
    have HIV : Hid (LO.length = a.length ∧ HI.length = a.length ∧ (∀ j, j < a.length → LO.getD j 0 ≤ a.getD j 0 ∧ a.getD j 0 ≤ HI.getD j 0) → inV LO HI a = true) := fun h => inV_iff.2 h
    have HNO := Lib.hid (fun k h1 h2 => inV_no (lo := LO) (hi := HI) (v := a) (k := k) h1 h2)
    have HNL := Lib.hid (fun h => inV_len (lo := LO) (hi := HI) (v := a) h)
    generalize openL LO HI = O at *
    clear hA hD ha hR LA LD h1 l4 HLH i6 i7
    generalize hN : a.length = N at *
    have HN := Lib.hid hN
    generalize hQ : R.length = Q at *
    have HQ := Lib.hid hQ
    generalize hL : LO.length = L at *
    have HL := Lib.hid hL
    clear hN hQ hL
    go_enter Try.func8, Try.ntmps8
    go_wp2_with fail
    refine K0.out.mono ?_
    rintro e w0 ⟨rfl, rfl⟩
    go_wp2_with fail
    refine (K1'.out _ (Below.refl _ _)).mono ?_
    rintro e w1 ⟨A1, c1, A2, c2, rfl, g1, g2, L1, L2, hw⟩
    have b1 := below_tr (Below.refl _ _) hw
    clear hw
    go_wp2_with fail
    refine (K2'.out _ b1).mono ?_
    rintro e w2 ⟨A3, c3, A4, c4, rfl, g3, g4, L3, L4, hw⟩
    have b2 := below_tr b1 hw
    have M1 := (L1.below hw).mono hw.size
    have M2 := (L2.below hw).mono hw.size
    clear hw L1 L2
    go_wp2_with fail
    refine (KS1.out _ _ _ _ _ M1 L3).mono ?_
    rintro e w3 ⟨rfl, hw⟩
    have b3 := below_qd b2 hw
    have hq := qd_below hw
    have N1 := (M1.below hq).mono hq.size
    have N2 := (M2.below hq).mono hq.size
    have N3 := (L3.below hq).mono hq.size
    have N4 := (L4.below hq).mono hq.size
    clear hw hq M1 M2 L3 L4
    go_wp2_with fail
    refine (KS2.out _ _ _ _ _ N2 N4).mono ?_
    rintro e w4 ⟨rfl, hw⟩
    have b4 := below_qd b3 hw
    have hq := qd_below hw
    have O1 := (N1.below hq).mono hq.size
    have O2 := (N2.below hq).mono hq.size
    have O3 := (N3.below hq).mono hq.size
    have O4 := (N4.below hq).mono hq.size
    clear hw hq N1 N2 N3 N4
    have hrc : (rc != rc) = false := by simp
    go_wp2_with fail
    refine (KO1.out _ _ _ _ _ O1 O2).mono ?_
    rintro e w5 ⟨A5, c5, rfl, _, _, P5, hq⟩
    have b5 := below_tr b4 hq
    have P1 := (O1.below hq).mono hq.size
    have P2 := (O2.below hq).mono hq.size
    have P3 := (O3.below hq).mono hq.size
    have P4 := (O4.below hq).mono hq.size
    clear hq O1 O2 O3 O4
    go_wp2_with fail
    refine (KO2.out _ _ _ _ _ P3 P4).mono ?_
    rintro e w6 ⟨A6, c6, rfl, _, _, Q6, hq⟩
    have b6 := below_tr b5 hq
    have Q5 := (P5.below hq).mono hq.size
    have Q1 := (P1.below hq).mono hq.size
    have Q2 := (P2.below hq).mono hq.size
    have Q3 := (P3.below hq).mono hq.size
    have Q4 := (P4.below hq).mono hq.size
    clear hq P1 P2 P3 P4 P5
    go_wp2_with fail
    refine (KS3.out _ _ _ _ _ Q5 Q6).mono ?_
    rintro e w7 ⟨rfl, hw⟩
    have b7 := below_qd b6 hw
    have hq := qd_below hw
    have R1 := (Q1.below hq).mono hq.size
    have R2 := (Q2.below hq).mono hq.size
    have R3 := (Q3.below hq).mono hq.size
    have R4 := (Q4.below hq).mono hq.size
    clear hw hq Q1 Q2 Q3 Q4 Q5 Q6
    have S1 := Lib.hid R1
    have S2 := Lib.hid R2
    have S3 := Lib.hid R3
    have S4 := Lib.hid R4
    clear R1 R2 R3 R4 hrc
    by_cases hNL : N = L
    · subst hNL
      have hz : ((N : Int) == (N : Int)) = true := by simp
      go_wp2
      go_loopw [13, 14] (fun qv i wr => ∃ (k : Nat) (qq : Bool), k ≤ N ∧ i = .int .i64 k ∧ qv = .bool qq ∧ Hid (qq = true → ∀ j, j < k → LO.getD j 0 ≤ a.getD j 0 ∧ a.getD j 0 ≤ HI.getD j 0) ∧ Hid (qq = false → inV LO HI a = false) ∧ Hid (∃ n, wr = w7.drewN n)) (fun qv i _ => N - (intOf i).toNat)
      case atStart => exact ⟨0, true, by omega, rfl, by first | rfl | simp, fun _ j hj => absurd hj (by omega), (fun h => by cases h), ⟨0, rfl⟩⟩
      case round =>
        obtain ⟨k, qq, hk, rfl, rfl, HT, HF, HW⟩ := hrel
        have HBr : Hid (Below w.heap.size w wr) := by obtain ⟨n, hn⟩ := HW.out; show Below _ _ _; rw [hn]; exact below_qd b7 ⟨n, rfl⟩
        have T1 : Hid (Lies wr wr.heap.size A1 LO) := by obtain ⟨n, hn⟩ := HW.out; show Lies _ _ _ _; rw [hn]; exact S1.out
        have T2 : Hid (Lies wr wr.heap.size A2 HI) := by obtain ⟨n, hn⟩ := HW.out; show Lies _ _ _ _; rw [hn]; exact S2.out
        have T3 : Hid (Lies wr wr.heap.size A3 LO) := by obtain ⟨n, hn⟩ := HW.out; show Lies _ _ _ _; rw [hn]; exact S3.out
        have T4 : Hid (Lies wr wr.heap.size A4 HI) := by obtain ⟨n, hn⟩ := HW.out; show Lies _ _ _ _; rw [hn]; exact S4.out
        cases qq
        · have HR := Lib.hid (HF.out rfl)
          have KI := Lib.hid (KI1.out wr A1 A2 c1 c2 HBr.out T1.out T2.out)
          rw [HR.out] at KI
          have hXX : decide (k < N) = decide (k < N) := rfl
          clear hXX
          by_cases hlt : (k : Int) < (N : Int)
          all_goals
            go_wp2_with fail
            refine KI.out.mono ?_
            rintro e w8 ⟨rfl, rfl⟩
            cases q
            · have hrc : (rc == 0) = false := by have := HC.out; simp at this; rw [this]; rfl
              go_wp2
              go_loop [15] (fun i => i = .int .i64 0) (fun _ => 0)
              case atStart => exact rfl
              case round =>
                obtain rfl := hrel
                by_cases h0 : (0 : Int) < (Q : Int)
                all_goals
                  go_wp2_with fail
                  refine (lives8 _).mono ?_
                  rintro e wl ⟨rfl, hl⟩
                  go_wp2
                  go_ret
                  exact ⟨rfl, below_tr HBr.out hl⟩
            · have hrc : (rc == 0) = true := by have := HC.out; simp at this; rw [this]; rfl
              have HINN := Lib.hid (HIN.out rfl)
              have KJ := Lib.hid (fun j hj => KI2.out wr A1 A2 c1 c2 HBr.out T1.out T2.out j hj)
              go_wp2
              go_loop [15] (fun i => ∃ k2 : Nat, k2 ≤ Q ∧ i = .int .i64 k2) (fun i => Q - (intOf i).toNat)
              case atStart => exact ⟨0, by omega, rfl⟩
              case round =>
                obtain ⟨k2, hk2, rfl⟩ := hrel
                by_cases hlt2 : k2 < Q
                · obtain ⟨adr, hadr, _, hcr, _⟩ := HLD.out wr HBr.out k2 hlt2
                  have KR := Lib.hid (KJ.out k2 hlt2)
                  rw [HINN.out k2 hlt2] at KR
                  generalize R.getD k2 row0 = r at *
                  obtain ⟨ra, rl, rcc⟩ := r
                  simp only at hcr KR
                  generalize rl.length = M at *
                  subst hadr
                  go_wp2_with fail
                  refine KR.out.mono ?_
                  rintro e w9 ⟨rfl, rfl⟩
                  go_wp2
                  exact ⟨⟨k2 + 1, by omega, by go_num⟩, by first | (simp [intOf]; done) | (simp [intOf]; omega)⟩
                · obtain rfl : k2 = Q := by omega
                  go_wp2_with fail
                  refine (lives8 _).mono ?_
                  rintro e wl ⟨rfl, hl⟩
                  go_wp2
                  go_ret
                  exact ⟨rfl, below_tr HBr.out hl⟩
        · by_cases hlt : k < N
          · obtain ⟨ad, hade, _, hca1⟩ := (HLA.out wr HBr.out).at (k := k) (by have := HN.out; omega)
            obtain ⟨ad3, hade3, _, hca3⟩ := T3.out.at (k := k) (by have := HL.out; omega)
            obtain ⟨ad4, hade4, _, hca4⟩ := T4.out.at (k := k) (by have := HL.out; have := HBL.out; omega)
            have HX : Hid (LO.getD k 0 ≤ a.getD k 0 ∧ a.getD k 0 ≤ HI.getD k 0 → ∀ j, j < k + 1 → LO.getD j 0 ≤ a.getD j 0 ∧ a.getD j 0 ≤ HI.getD j 0) := fun h j hj => by
              rcases Nat.lt_or_ge j k with g | g
              · exact HT.out rfl j g
              · rw [show j = k from by omega]; exact h
            have HNk := Lib.hid (HNO.out k (by have := HN.out; omega))
            generalize LO.getD k 0 = x at *
            generalize HI.getD k 0 = y at *
            generalize a.getD k 0 = z at *
            have hji : (k : Int) < (N : Int) := by omega
            subst hade
            subst hade3
            subst hade4
            by_cases q1 : x ≤ z
            · have q1' : decide (x ≤ z) = true := decide_eq_true q1
              by_cases q2 : z ≤ y
              · have HR := Lib.hid (HX.out ⟨q1, q2⟩)
                have q2' : decide (z ≤ y) = true := decide_eq_true q2
                go_wp2
                go_quiet (fail)
                go_wp2
                exact ⟨⟨k + 1, true, by omega, by go_num, by first | rfl | simp, (fun _ => HR.out), (fun h => by cases h), (by obtain ⟨m, hm⟩ := HW.out; show ∃ _, _; rw [hm]; exact dre2' _ _ _)⟩, by first | (simp [intOf]; done) | (simp [intOf]; omega)⟩
              · have HR := Lib.hid (HNk.out (by omega))
                have q2' : decide (z ≤ y) = false := decide_eq_false q2
                go_wp2
                go_quiet (fail)
                go_wp2
                exact ⟨⟨k + 1, false, by omega, by go_num, by first | rfl | simp, (fun h => by cases h), (fun _ => HR.out), (by obtain ⟨m, hm⟩ := HW.out; show ∃ _, _; rw [hm]; exact dre2' _ _ _)⟩, by first | (simp [intOf]; done) | (simp [intOf]; omega)⟩
            · have HR := Lib.hid (HNk.out (by omega))
              have q1' : decide (x ≤ z) = false := decide_eq_false q1
              go_wp2
              go_quiet (fail)
              go_wp2
              exact ⟨⟨k + 1, false, by omega, by go_num, by first | rfl | simp, (fun h => by cases h), (fun _ => HR.out), (by obtain ⟨m, hm⟩ := HW.out; show ∃ _, _; rw [hm]; exact dre2' _ _ _)⟩, by first | (simp [intOf]; done) | (simp [intOf]; omega)⟩
          · obtain rfl : k = N := by omega
            have HR : Hid (inV LO HI a = true) := HIV.out ⟨by first | trivial | rfl | omega, by first | exact HBL.out | (have := HBL.out; omega), fun j hj => HT.out rfl j (by omega)⟩
            have KI := Lib.hid (KI1.out wr A1 A2 c1 c2 HBr.out T1.out T2.out)
            rw [HR.out] at KI
            go_wp2_with fail
            refine KI.out.mono ?_
            rintro e w8 ⟨rfl, rfl⟩
            cases q
            · have hrc : (rc == 0) = false := by have := HC.out; simp at this; rw [this]; rfl
              go_wp2
              go_loop [15] (fun i => i = .int .i64 0) (fun _ => 0)
              case atStart => exact rfl
              case round =>
                obtain rfl := hrel
                by_cases h0 : (0 : Int) < (Q : Int)
                all_goals
                  go_wp2_with fail
                  refine (lives8 _).mono ?_
                  rintro e wl ⟨rfl, hl⟩
                  go_wp2
                  go_ret
                  exact ⟨rfl, below_tr HBr.out hl⟩
            · have hrc : (rc == 0) = true := by have := HC.out; simp at this; rw [this]; rfl
              have HINN := Lib.hid (HIN.out rfl)
              have KJ := Lib.hid (fun j hj => KI2.out wr A1 A2 c1 c2 HBr.out T1.out T2.out j hj)
              go_wp2
              go_loop [15] (fun i => ∃ k2 : Nat, k2 ≤ Q ∧ i = .int .i64 k2) (fun i => Q - (intOf i).toNat)
              case atStart => exact ⟨0, by omega, rfl⟩
              case round =>
                obtain ⟨k2, hk2, rfl⟩ := hrel
                by_cases hlt2 : k2 < Q
                · obtain ⟨adr, hadr, _, hcr, _⟩ := HLD.out wr HBr.out k2 hlt2
                  have KR := Lib.hid (KJ.out k2 hlt2)
                  rw [HINN.out k2 hlt2] at KR
                  generalize R.getD k2 row0 = r at *
                  obtain ⟨ra, rl, rcc⟩ := r
                  simp only at hcr KR
                  generalize rl.length = M at *
                  subst hadr
                  go_wp2_with fail
                  refine KR.out.mono ?_
                  rintro e w9 ⟨rfl, rfl⟩
                  go_wp2
                  exact ⟨⟨k2 + 1, by omega, by go_num⟩, by first | (simp [intOf]; done) | (simp [intOf]; omega)⟩
                · obtain rfl : k2 = Q := by omega
                  go_wp2_with fail
                  refine (lives8 _).mono ?_
                  rintro e wl ⟨rfl, hl⟩
                  go_wp2
                  go_ret
                  exact ⟨rfl, below_tr HBr.out hl⟩
    · have hz : ((N : Int) == (L : Int)) = false := by simp; omega
      have HR : Hid (inV LO HI a = false) := HNL.out (by have := HL.out; have := HN.out; omega)
      have KI := Lib.hid (KI1.out w7 A1 A2 c1 c2 b7 S1.out S2.out)
      rw [HR.out] at KI
      have HBr := Lib.hid b7
      have T1 := S1
      have T2 := S2
      clear hNL
      go_wp2
      go_loop [13, 14] (fun qv i => qv = .bool false ∧ i = .int .i64 0) (fun _ _ => 0)
      case atStart => exact ⟨rfl, rfl⟩
      case round =>
        obtain ⟨rfl, rfl⟩ := hrel
        by_cases hlt : (0 : Int) < (N : Int)
        all_goals
          go_wp2_with fail
          refine KI.out.mono ?_
          rintro e w8 ⟨rfl, rfl⟩
          cases q
          · have hrc : (rc == 0) = false := by have := HC.out; simp at this; rw [this]; rfl
            go_wp2
            go_loop [15] (fun i => i = .int .i64 0) (fun _ => 0)
            case atStart => exact rfl
            case round =>
              obtain rfl := hrel
              by_cases h0 : (0 : Int) < (Q : Int)
              all_goals
                go_wp2_with fail
                refine (lives8 _).mono ?_
                rintro e wl ⟨rfl, hl⟩
                go_wp2
                go_ret
                exact ⟨rfl, below_tr HBr.out hl⟩
          · have hrc : (rc == 0) = true := by have := HC.out; simp at this; rw [this]; rfl
            have HINN := Lib.hid (HIN.out rfl)
            have KJ := Lib.hid (fun j hj => KI2.out w7 A1 A2 c1 c2 HBr.out T1.out T2.out j hj)
            go_wp2
            go_loop [15] (fun i => ∃ k2 : Nat, k2 ≤ Q ∧ i = .int .i64 k2) (fun i => Q - (intOf i).toNat)
            case atStart => exact ⟨0, by omega, rfl⟩
            case round =>
              obtain ⟨k2, hk2, rfl⟩ := hrel
              by_cases hlt2 : k2 < Q
              · obtain ⟨adr, hadr, _, hcr, _⟩ := HLD.out w7 HBr.out k2 hlt2
                have KR := Lib.hid (KJ.out k2 hlt2)
                rw [HINN.out k2 hlt2] at KR
                generalize R.getD k2 row0 = r at *
                obtain ⟨ra, rl, rcc⟩ := r
                simp only at hcr KR
                generalize rl.length = M at *
                subst hadr
                go_wp2_with fail
                refine KR.out.mono ?_
                rintro e w9 ⟨rfl, rfl⟩
                go_wp2
                exact ⟨⟨k2 + 1, by omega, by go_num⟩, by first | (simp [intOf]; done) | (simp [intOf]; omega)⟩
              · obtain rfl : k2 = Q := by omega
                go_wp2_with fail
                refine (lives8 _).mono ?_
                rintro e wl ⟨rfl, hl⟩
                go_wp2
                go_ret
                exact ⟨rfl, below_tr HBr.out hl⟩

set_option maxRecDepth 100000 in
theorem lifted (os : Os) (started : os.Started) (H : Type) (enc : TypeId × Value → H) :
    ReturnsInHanded {} Try.checked os 8 .any (Rows.vecBoxesSpec.pre6 enc Try.prog Try.f8 Rows.vecBoxesRow.domain false) (Rows.vecBoxesSpec.post enc Try.prog Try.f8 false true false false) := by
  refine returnsInHanded_of_change (C := Try.checked) own started (by kernel_rfl) Try.func8
    (ChangeSpec.witness6 (enc := enc) (C := Try.checked) false ⟨#[], #[.slice none 0 0, .int .i64 0, .slice none 0 0], []⟩ 8 (by kernel_rfl) (by kernel_rfl) (by kernel_rfl) (by kernel_rfl)) ?_
  intro W base args ds gs before hval0 hW hcnd _
  have hval : ∀ (j : Nat) t v, Try.f8.params[j]? = some t → args[j]? = some v → Value.okWide Try.prog W .any base t v := hval0
  have hW' := hW
  obtain ⟨p, q, hA0, hV, rfl, hfz, hnd⟩ := hW
  obtain ⟨rfl, rfl⟩ := trodVars_none hV
  have hA : DataW.TrodAll enc Try.prog W 0 (fun _ => true) true Try.f8.params.toList args.toList ds p := hA0
  rw [Try.params8] at hA hval
  obtain ⟨v0, vs0, d0, ds0, p0, q0, hargs, rfl, rfl, h0, r0⟩ := trodAll_cons hA
  obtain ⟨v1, vs1, d1, ds1, p1, q1, rfl, rfl, rfl, h1, r1⟩ := trodAll_cons r0
  obtain ⟨v2, vs2, d2, ds2, p2, q2, rfl, rfl, rfl, h2, r2⟩ := trodAll_cons r1
  obtain ⟨rfl, rfl, rfl⟩ := trodAll_nil r2
  obtain rfl : args = #[v0, v1, v2] := by cases args; simp_all
  obtain ⟨A0, R0, c0, rfl, L0, I0, C0, M0⟩ := open_rows8 Try.underlying43 Try.underlying24 Try.underlying3 cells_l8 cells_i8 (hval 0 43 v0 rfl rfl) h0
  obtain ⟨a1, rfl, _, _, w1⟩ := open_int Try.underlying3 (hval 1 3 v1 rfl rfl) h1
  obtain ⟨A2, l2, c2, rfl, L2, I2, C2, M2⟩ := open_ints8 Try.underlying24 Try.underlying3 cells_i8 (hval 2 24 v2 rfl rfl) h2
  refine (walk A0 R0 c0 L0 I0 C0 M0 a1 (i64_of_wf w1) A2 l2 c2 L2 I2 C2 M2 W).mono fun e W' ⟨he, hg⟩ => ?_
  subst he
  exact ⟨_, rfl, law_post laid (by rw [Try.params8]; exact (by decide +kernel)) rfl (by kernel_rfl) Try.underlying4 rfl hW' hg⟩

theorem over : Rows.vecBoxesRow.holds Try.pinned (OpenSpec.ofChange Rows.vecBoxesSpec) :=
  OpenClaim.holds_of_wide 8 Try.f8 rfl rfl rfl rfl rfl rfl rfl ⟨rfl, rfl, rfl, rfl, rfl⟩ rfl rfl rfl rfl rfl (by kernel_rfl) Try.func8 (by kernel_rfl)
    (of_decide_eq_true (by kernel_rfl)) (by unfold Func.isWrapper; first | (rw [if_pos (by decide +kernel)]; kernel_rfl) | (rw [if_neg (by decide +kernel)]; exact ⟨rfl, rfl⟩))
    (fun os started H enc _ => lifted os started H enc)
theorem proved : Rows.VecBoxesSaid := over
end Go.Proofs.Yteljkppcaanniaa.vecBoxes
