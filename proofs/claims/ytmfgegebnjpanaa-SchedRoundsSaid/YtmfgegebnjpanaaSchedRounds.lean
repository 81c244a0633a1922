/- Statement SchedRounds: whatever the input is, the Go function returns true and each argument reads as it did. No condition. -/
import Derived.Test.YtmfgegebnjpanaaRows
import Derived.Test.YtmfgegebnjpanaaSchN
import Derived.Test.YtmfgegebnjpanaaVecT
import Derived.Test.YtmfgegebnjpanaaBase
import Derived.ProofKit
import Derived.OpenShut
namespace Go.Proofs.Ytmfgegebnjpanaa.schedRounds
open Go.ChangeShapes Go.WideShapes Go.ChangeAt Go.RowKit
set_option linter.unusedVariables false

theorem own : ownKnob Try.prog.godebug = none := by kernel_rfl
theorem laid : laidOutB Try.prog = true := by kernel_rfl

set_option maxRecDepth 100000 in
set_option maxHeartbeats 8000000 in
theorem main (dim win sam ev kind part whole tries keep notes : Int) (T : Nat) (hwh : I64 whole) {w : World} (u : Nat) (hu : u ≤ 64) (hok : CfOk dim win (T : Nat) sam ev kind part whole tries keep notes) :
    Calls Try.prog 15 #[cfV dim win (T : Nat) sam ev kind part whole tries keep notes, .int .i64 u] w fun e w' => e = .returned (.bool true) ∧ Below w.heap.size w w' := by
  have HX := Lib.hid (Box.new w #[.int .i64 dim, .int .i64 win, .int .i64 ((T : Nat) : Int), .int .i64 sam, .int .i64 ev, .int .i64 kind, .int .i64 part, .int .i64 whole, .int .i64 tries, .int .i64 keep, .int .i64 notes] 88)
  obtain ⟨y0, y1, y2, y3, y4, y5, y6, y7, y8, y9, y10⟩ := box11 HX.out
  have HB := Lib.hid ((Below.refl w.heap.size w).alloc (Nat.le_refl _) (.cells #[.int .i64 dim, .int .i64 win, .int .i64 ((T : Nat) : Int), .int .i64 sam, .int .i64 ev, .int .i64 kind, .int .i64 part, .int .i64 whole, .int .i64 tries, .int .i64 keep, .int .i64 notes] 88))
  have hev : 1 ≤ ev ∧ ev ≤ 256 := by unfold CfOk at hok; omega
  have hsa : 2 ≤ sam ∧ sam ≤ 64 := by unfold CfOk at hok; omega
  have htr : 1 ≤ T ∧ T ≤ 16 := by unfold CfOk at hok; omega
  have i0 : inC 0 := by unfold inC; omega
  have K1 := Lib.hid (fun W => ref20_Right dim win (T : Nat) sam ev kind part whole tries keep notes W)
  have K2 := Lib.hid (fun W => sch_Plan_ok dim win sam ev kind part whole tries keep notes T 0 [] u none 0 W hwh hok i0 ⟨by simp, fun x hx => by cases hx⟩ hu Lies.nil)
  unfold GivesPl at K2
  have HLB := Lib.hid (fun k hk => lastV_bd (sam := sam) (ev := ev) hev.1 hev.2 (by omega) hsa.2 k hk)
  have KN : Hid (∀ k, k ≤ 64 → ∀ W, Calls Try.prog 62 #[cfV dim win (T : Nat) sam ev kind part whole tries keep notes, .int .i64 (lastV ev (nextV sam ev 0) k)] W fun e w' => e = .returned (.tuple #[.int .i64 (lastV ev (nextV sam ev 0) (k + 1)), .int .i64 0]) ∧ Below W.heap.size W w') := by
    intro k hk W
    have h := sch_Next dim win (T : Nat) sam ev kind part whole tries keep notes hwh (lastV ev (nextV sam ev 0) k) W
    have hb := HLB.out k hk
    have hc : inC (lastV ev (nextV sam ev 0) k) := by unfold inC; omega
    rw [okB.1 hok] at h
    unfold nxV at h
    rw [(nx_ok (sam := sam) (ev := ev) hc).1, (nx_ok (sam := sam) (ev := ev) hc).2, lastV_next hev.1 (by omega)] at h
    exact h
  have KT : Hid (∀ k, k + 1 ≤ 64 → ∀ W, Calls Try.prog 64 #[cfV dim win (T : Nat) sam ev kind part whole tries keep notes, .int .i64 (lastV ev (nextV sam ev 0) k), .int .i64 (lastV ev (nextV sam ev 0) (k + 1))] W fun e w' => e = .returned (.tuple #[.int .i64 1, .int .i64 0]) ∧ Below W.heap.size W w') := by
    intro k hk W
    have h := sch_Turns dim win (T : Nat) sam ev kind part whole tries keep notes hwh (lastV ev (nextV sam ev 0) k) (lastV ev (nextV sam ev 0) (k + 1)) W
    have hb := HLB.out k (by omega)
    have hb2 := HLB.out (k + 1) hk
    have hc : inC (lastV ev (nextV sam ev 0) k) ∧ inC (lastV ev (nextV sam ev 0) (k + 1)) := by unfold inC; omega
    rw [okB.1 hok] at h
    unfold tuV at h
    rw [(tu_ok (sam := sam) (ev := ev) hc).1, (tu_ok (sam := sam) (ev := ev) hc).2, ← lastV_next hev.1 (by omega), turns_step hev.1] at h
    rw [← lastV_next hev.1 (by omega)]
    exact h
  have KU : Hid (∀ W, Calls Try.prog 64 #[cfV dim win (T : Nat) sam ev kind part whole tries keep notes, .int .i64 0, .int .i64 (lastV ev (nextV sam ev 0) u)] W fun e w' => e = .returned (.tuple #[.int .i64 (u : Int), .int .i64 0]) ∧ Below W.heap.size W w') := by
    intro W
    have h := sch_Turns dim win (T : Nat) sam ev kind part whole tries keep notes hwh 0 (lastV ev (nextV sam ev 0) u) W
    have hb := HLB.out u hu
    have hc : inC 0 ∧ inC (lastV ev (nextV sam ev 0) u) := ⟨i0, by unfold inC; omega⟩
    rw [okB.1 hok] at h
    unfold tuV at h
    rw [(tu_ok (sam := sam) (ev := ev) hc).1, (tu_ok (sam := sam) (ev := ev) hc).2, lastV_turns hev.1 (by omega)] at h
    exact h
  have HLT : Hid (∀ k, lastV ev (nextV sam ev 0) k < lastV ev (nextV sam ev 0) (k + 1)) := by
    intro k
    rw [← lastV_next hev.1 (by omega)]
    have := (next_bd (sam := sam) (n := lastV ev (nextV sam ev 0) k) hev.1).1
    omega
  have HP := Lib.hid (fun i hi => plI_get (tr := T) (n := nextV sam ev 0) (by omega) hev.1 u i hi)
  have HBN := Lib.hid (fun i hi => born_bd (tr := T) (n := nextV sam ev 0) (by omega) hev.1 u i hi)
  have hpl := plI_len T ev (nextV sam ev 0) [] u
  have hbl := plB_len (tr := T) (ev := ev) (n := nextV sam ev 0) (b := []) (by simp) u
  have HL0 : Hid ((0 : Int) = lastV ev (nextV sam ev 0) 0) := rfl
  rw [okB.1 hok] at K1
  clear hok hwh i0
  generalize nextV sam ev 0 = X at *
  generalize plI T ev X [] u = I at *
  generalize plB T ev X [] u = L at *
  have HIL := Lib.hid hpl
  rw [hpl] at K2
  clear hpl
  obtain ⟨M, hM⟩ : ∃ M, L.length = M := ⟨_, rfl⟩
  have HM := Lib.hid hM
  rw [hM] at K2 hbl HBN
  clear hM
  simp only [List.length_nil] at K2
  have hP0 : 0 ≤ ((T : Int) - 1) * ev := Int.mul_nonneg (by omega) (by omega)
  have hP1 : ((T : Int) - 1) * ev ≤ 15 * 256 := by
    have a1 : ((T : Int) - 1) * ev ≤ 15 * ev := Int.mul_le_mul_of_nonneg_right (by omega) (by omega)
    omega
  obtain ⟨P, hP⟩ : ∃ P, ((T : Int) - 1) * ev = P := ⟨_, rfl⟩
  rw [hP] at hP0 hP1 HBN
  have hut : ¬ (u : Int) < 0 := by omega
  have hut2 : ¬ (64 : Int) < (u : Int) := by omega
  have huu : ((u : Int) == (u : Int)) = true := by simp
  go_enter Try.func15, Try.ntmps15
  go_wp2_with fail
  refine (K1.out _).mono ?_
  rintro e w1 ⟨rfl, b⟩
  have HX := Lib.hid (HX.out.below b HX.out.lt)
  have HB := Lib.hid (HB.out.trans (b.mono HB.out.size))
  clear b y0 y1 y2 y3 y4 y5 y6 y7 y8 y9 y10
  obtain ⟨y0, y1, y2, y3, y4, y5, y6, y7, y8, y9, y10⟩ := box11 HX.out
  go_wp2_with fail
  refine (K2.out _).mono ?_
  rintro e w2 ⟨A1, c1, A2, c2, rfl, L1, L2, b⟩
  have HX := Lib.hid (HX.out.below b HX.out.lt)
  have HB := Lib.hid (HB.out.trans (b.mono HB.out.size))
  have L1 := Lib.hid L1
  have L2 := Lib.hid L2
  clear b y0 y1 y2 y3 y4 y5 y6 y7 y8 y9 y10
  obtain ⟨y0, y1, y2, y3, y4, y5, y6, y7, y8, y9, y10⟩ := box11 HX.out
  go_wp2
  go_loopw [8] (fun i wr => ∃ k : Nat, k ≤ u ∧ i = .int .i64 k ∧ Hid (Box wr w.heap.size #[.int .i64 dim, .int .i64 win, .int .i64 ((T : Nat) : Int), .int .i64 sam, .int .i64 ev, .int .i64 kind, .int .i64 part, .int .i64 whole, .int .i64 tries, .int .i64 keep, .int .i64 notes] 88) ∧ Hid (Below w.heap.size w wr) ∧ Hid (Lies wr wr.heap.size A1 I) ∧ Hid (Lies wr wr.heap.size A2 L)) (fun i _ => u - (intOf i).toNat)
  case atStart => exact ⟨0, by omega, rfl, HX, HB, L1, L2⟩
  case round =>
    obtain ⟨k, hk, rfl, HXr, HBr, L1r, L2r⟩ := hrel
    clear HX HB L1 L2 y0 y1 y2 y3 y4 y5 y6 y7 y8 y9 y10
    obtain ⟨y0, y1, y2, y3, y4, y5, y6, y7, y8, y9, y10⟩ := box11 HXr.out
    by_cases hlt : k < u
    · have hki : (k : Int) < (u : Int) := by omega
      obtain ⟨ad, eA, hadb, hc⟩ := L1r.out (by rw [HIL.out]; omega)
      have c1 := hc k (by rw [HIL.out]; omega)
      rw [HP.out k hlt] at c1
      have hm : (k : Int).tmod (T : Int) = ((k % T : Nat) : Int) := (Int.ofNat_tmod k T).symm
      generalize k % T = r at *
      have hrr : (((r : Nat) : Int) != ((r : Nat) : Int)) = false := by simp
      have HcA := Lib.hid eA
      clear hc
      subst eA
      have hT0 : ((T : Int) == 0) = false := by simp; omega
      have hT1 : ¬ (T : Int) = 0 := by omega
      have hT2 : ¬ (T : Int) = -1 := by omega
      clear HP HBN HLB KN KT KU HLT HL0
      go_wp2
      go_quiet (fail)
      go_wp2
      exact ⟨⟨k + 1, by omega, by go_num, Lib.hid (HXr.out.drewN _), Lib.hid (below_drewN2 HBr.out _), Lib.hid (L1r.out.below (below_drewN2 (Below.refl _ _) _)), Lib.hid (L2r.out.below (below_drewN2 (Below.refl _ _) _))⟩, by simp [intOf]; omega⟩
    · obtain rfl : k = u := by omega
      clear HP L1r
      go_wp2
      go_loopw [10, 9] (fun i l wr => ∃ j : Nat, j ≤ k ∧ i = .int .i64 j ∧ l = .int .i64 (lastV ev X j) ∧ Hid (Box wr w.heap.size #[.int .i64 dim, .int .i64 win, .int .i64 ((T : Nat) : Int), .int .i64 sam, .int .i64 ev, .int .i64 kind, .int .i64 part, .int .i64 whole, .int .i64 tries, .int .i64 keep, .int .i64 notes] 88) ∧ Hid (Below w.heap.size w wr) ∧ Hid (Lies wr wr.heap.size A2 L)) (fun i _ _ => k - (intOf i).toNat)
      case atStart => exact ⟨0, by omega, rfl, by rw [← HL0.out], HXr, HBr, L2r⟩
      case round =>
        obtain ⟨j, hj, rfl, rfl, HX, HB, L2⟩ := hrel
        clear HXr HBr L2r y0 y1 y2 y3 y4 y5 y6 y7 y8 y9 y10
        obtain ⟨y0, y1, y2, y3, y4, y5, y6, y7, y8, y9, y10⟩ := box11 HX.out
        by_cases hltj : j < k
        · have hji : (j : Int) < (k : Int) := by omega
          have KN1 := Lib.hid (KN.out j (by omega))
          have KT1 := Lib.hid (KT.out j (by omega))
          have hl1 := HLT.out j
          clear KN KT KU HLT HL0 HBN HLB
          generalize hl2 : lastV ev X (j + 1) = l2 at *
          have HL2 := Lib.hid hl2
          clear hl2
          generalize lastV ev X j = l1 at *
          have hl3 : ¬ l2 ≤ l1 := by omega
          go_wp2_with fail
          refine (KN1.out _).mono ?_
          rintro e w3 ⟨rfl, b⟩
          have HX := Lib.hid (HX.out.below b HX.out.lt)
          have HB := Lib.hid (HB.out.trans (b.mono HB.out.size))
          have L2 := Lib.hid (lies20 L2.out b)
          clear b y0 y1 y2 y3 y4 y5 y6 y7 y8 y9 y10
          obtain ⟨y0, y1, y2, y3, y4, y5, y6, y7, y8, y9, y10⟩ := box11 HX.out
          go_wp2_with fail
          refine (KT1.out _).mono ?_
          rintro e w4 ⟨rfl, b⟩
          have HX := Lib.hid (HX.out.below b HX.out.lt)
          have HB := Lib.hid (HB.out.trans (b.mono HB.out.size))
          have L2 := Lib.hid (lies20 L2.out b)
          clear b y0 y1 y2 y3 y4 y5 y6 y7 y8 y9 y10
          obtain ⟨y0, y1, y2, y3, y4, y5, y6, y7, y8, y9, y10⟩ := box11 HX.out
          go_wp2
          exact ⟨⟨j + 1, by omega, by go_num, by rw [HL2.out], HX, HB, L2⟩, by simp [intOf]; omega⟩
        · obtain rfl : j = k := by omega
          have hlb := HLB.out j (by omega)
          clear KN KT HLT HL0 HLB
          generalize lastV ev X j = lst at *
          go_wp2_with fail
          refine (KU.out _).mono ?_
          rintro e w3 ⟨rfl, b⟩
          have HX := Lib.hid (HX.out.below b HX.out.lt)
          have HB := Lib.hid (HB.out.trans (b.mono HB.out.size))
          have L2 := Lib.hid (lies20 L2.out b)
          clear b y0 y1 y2 y3 y4 y5 y6 y7 y8 y9 y10
          obtain ⟨y0, y1, y2, y3, y4, y5, y6, y7, y8, y9, y10⟩ := box11 HX.out
          go_wp2
          go_loopw [17] (fun i wr => ∃ k : Nat, k ≤ M ∧ i = .int .i64 k ∧ Hid (Box wr w.heap.size #[.int .i64 dim, .int .i64 win, .int .i64 ((T : Nat) : Int), .int .i64 sam, .int .i64 ev, .int .i64 kind, .int .i64 part, .int .i64 whole, .int .i64 tries, .int .i64 keep, .int .i64 notes] 88) ∧ Hid (Below w.heap.size w wr) ∧ Hid (Lies wr wr.heap.size A2 L)) (fun i _ => M - (intOf i).toNat)
          case atStart => exact ⟨0, by omega, rfl, HX, HB, L2⟩
          case round =>
            obtain ⟨m, hm, rfl, HXr, HBr, L2r⟩ := hrel
            clear HX HB L2 y0 y1 y2 y3 y4 y5 y6 y7 y8 y9 y10 KU
            obtain ⟨y0, y1, y2, y3, y4, y5, y6, y7, y8, y9, y10⟩ := box11 HXr.out
            by_cases hltm : m < M
            · have hmi : (m : Int) < (M : Int) := by omega
              obtain ⟨ad, eA, hadb, hc⟩ := L2r.out (by rw [HM.out]; omega)
              have c1 := hc m (by rw [HM.out]; omega)
              obtain ⟨g1, g2⟩ := HBN.out m hltm
              generalize L.getD m 0 = x at *
              subst eA
              clear hc HBN
              have q1 : IntKind.i64.wrap (lst - x) = lst - x := by rw [IntKind.wrap_i64]; omega
              have q2 : IntKind.i64.wrap ((T : Int) - 1) = (T : Int) - 1 := by rw [IntKind.wrap_i64]; omega
              have q3 : IntKind.i64.wrap (((T : Int) - 1) * ev) = P := by rw [hP, IntKind.wrap_i64]; omega
              have q4 : ¬ P < lst - x := by omega
              have q5 : ¬ lst < x := by omega
              have d4 : decide (P < lst - x) = false := decide_eq_false q4
              have d5 : decide (lst < x) = false := decide_eq_false q5
              go_wp2
              go_quiet (fail)
              go_wp2
              exact ⟨⟨m + 1, by omega, by go_num, Lib.hid (HXr.out.drewN _), Lib.hid (below_drewN2 HBr.out _), Lib.hid (L2r.out.below (below_drewN2 (Below.refl _ _) _))⟩, by simp [intOf]; omega⟩
            · obtain rfl : m = M := by omega
              have HB := HBr
              clear HBN
              go_wp2_with fail
              refine (lives20 _).mono ?_
              rintro e wl ⟨rfl, bl⟩
              have HBL := Lib.hid (HB.out.trans (bl.mono HB.out.size))
              clear bl
              go_wp2
              go_ret
              exact ⟨rfl, HBL.out⟩
set_option maxRecDepth 100000 in
set_option maxHeartbeats 8000000 in
theorem walk (dim win tr sam ev kind part whole tries keep notes : Int) (hwh : I64 whole) {w : World} (t : Int) (ht : I64 t) (_ : World) :
    Calls Try.prog 15 #[cfV dim win tr sam ev kind part whole tries keep notes, .int .i64 t] w fun e w' => e = .returned (.bool true) ∧ Below w.heap.size w w' := by
  by_cases hgood : CfOk dim win tr sam ev kind part whole tries keep notes ∧ 0 ≤ t ∧ t ≤ 64
  · obtain ⟨hok, h0, h1⟩ := hgood
    have htr : 1 ≤ tr ∧ tr ≤ 16 := by unfold CfOk at hok; omega
    obtain ⟨T, rfl⟩ : ∃ T : Nat, tr = T := ⟨tr.toNat, by omega⟩
    obtain ⟨u, rfl⟩ : ∃ u : Nat, t = u := ⟨t.toNat, by omega⟩
    exact main dim win sam ev kind part whole tries keep notes T hwh u (by omega) hok
  have HX := Lib.hid (Box.new w #[.int .i64 dim, .int .i64 win, .int .i64 tr, .int .i64 sam, .int .i64 ev, .int .i64 kind, .int .i64 part, .int .i64 whole, .int .i64 tries, .int .i64 keep, .int .i64 notes] 88)
  obtain ⟨y0, y1, y2, y3, y4, y5, y6, y7, y8, y9, y10⟩ := box11 HX.out
  have HB := Lib.hid ((Below.refl w.heap.size w).alloc (Nat.le_refl _) (.cells #[.int .i64 dim, .int .i64 win, .int .i64 tr, .int .i64 sam, .int .i64 ev, .int .i64 kind, .int .i64 part, .int .i64 whole, .int .i64 tries, .int .i64 keep, .int .i64 notes] 88))
  have K1 := Lib.hid (fun W => ref20_Right dim win tr sam ev kind part whole tries keep notes W)
  by_cases hok : CfOk dim win tr sam ev kind part whole tries keep notes
  · rw [okB.1 hok] at K1
    have hb : t < 0 ∨ (¬ t < 0 ∧ 64 < t) := by
      by_cases h : t < 0
      · exact .inl h
      · exact .inr ⟨h, by
          by_cases h2 : 64 < t
          · exact h2
          · exact absurd ⟨hok, by omega, by omega⟩ hgood⟩
    clear hgood hok
    rcases hb with hb | ⟨hb, hb2⟩
    · go_enter Try.func15, Try.ntmps15
      go_wp2_with fail
      refine (K1.out _).mono ?_
      rintro e w1 ⟨rfl, b⟩
      have HX := Lib.hid (HX.out.below b HX.out.lt)
      have HB := Lib.hid (HB.out.trans (b.mono HB.out.size))
      clear b y0 y1 y2 y3 y4 y5 y6 y7 y8 y9 y10
      obtain ⟨y0, y1, y2, y3, y4, y5, y6, y7, y8, y9, y10⟩ := box11 HX.out
      go_wp2_with fail
      refine (lives20 _).mono ?_
      rintro e wl ⟨rfl, bl⟩
      have HBL := Lib.hid (HB.out.trans (bl.mono HB.out.size))
      clear bl
      go_wp2
      go_ret
      exact ⟨rfl, HBL.out⟩
    · go_enter Try.func15, Try.ntmps15
      go_wp2_with fail
      refine (K1.out _).mono ?_
      rintro e w1 ⟨rfl, b⟩
      have HX := Lib.hid (HX.out.below b HX.out.lt)
      have HB := Lib.hid (HB.out.trans (b.mono HB.out.size))
      clear b y0 y1 y2 y3 y4 y5 y6 y7 y8 y9 y10
      obtain ⟨y0, y1, y2, y3, y4, y5, y6, y7, y8, y9, y10⟩ := box11 HX.out
      go_wp2_with fail
      refine (lives20 _).mono ?_
      rintro e wl ⟨rfl, bl⟩
      have HBL := Lib.hid (HB.out.trans (bl.mono HB.out.size))
      clear bl
      go_wp2
      go_ret
      exact ⟨rfl, HBL.out⟩
  · rw [okB.2 hok] at K1
    clear hgood hok
    go_enter Try.func15, Try.ntmps15
    go_wp2_with fail
    refine (K1.out _).mono ?_
    rintro e w1 ⟨rfl, b⟩
    have HX := Lib.hid (HX.out.below b HX.out.lt)
    have HB := Lib.hid (HB.out.trans (b.mono HB.out.size))
    clear b y0 y1 y2 y3 y4 y5 y6 y7 y8 y9 y10
    obtain ⟨y0, y1, y2, y3, y4, y5, y6, y7, y8, y9, y10⟩ := box11 HX.out
    go_wp2_with fail
    refine (lives20 _).mono ?_
    rintro e wl ⟨rfl, bl⟩
    have HBL := Lib.hid (HB.out.trans (bl.mono HB.out.size))
    clear bl
    go_wp2
    go_ret
    exact ⟨rfl, HBL.out⟩

set_option maxRecDepth 100000 in
theorem lifted (os : Os) (started : os.Started) (H : Type) (enc : TypeId × Value → H) :
    ReturnsInHanded {} Try.checked os 15 .any (Rows.schedRoundsSpec.pre6 enc Try.prog Try.f15 Rows.schedRoundsRow.domain false) (Rows.schedRoundsSpec.post enc Try.prog Try.f15 false true false false) := by
  refine returnsInHanded_of_change (C := Try.checked) own started (by kernel_rfl) Try.func15
    (ChangeSpec.witness6 (enc := enc) (C := Try.checked) false ⟨#[], #[.agg #[.int .i64 0, .int .i64 0, .int .i64 0, .int .i64 0, .int .i64 0, .int .i64 0, .int .i64 0, .int .i64 0, .int .i64 0, .int .i64 0, .int .i64 0], .int .i64 0], []⟩ 8 (by kernel_rfl) (by kernel_rfl) (by kernel_rfl) (by kernel_rfl)) ?_
  intro W base args ds gs before hval0 hW hcnd _
  have hval : ∀ (j : Nat) t v, Try.f15.params[j]? = some t → args[j]? = some v → Value.okWide Try.prog W .any base t v := hval0
  have hW' := hW
  obtain ⟨p, q, hA0, hV, rfl, hfz, hnd⟩ := hW
  obtain ⟨rfl, rfl⟩ := trodVars_none hV
  have hA : DataW.TrodAll enc Try.prog W 0 (fun _ => true) true Try.f15.params.toList args.toList ds p := hA0
  rw [Try.params15] at hA hval
  obtain ⟨v0, vs0, d0, ds0, p0, q0, hargs, rfl, rfl, h0, r0⟩ := trodAll_cons hA
  obtain ⟨v1, vs1, d1, ds1, p1, q1, rfl, rfl, rfl, h1, r1⟩ := trodAll_cons r0
  obtain ⟨rfl, rfl, rfl⟩ := trodAll_nil r1
  obtain rfl : args = #[v0, v1] := by cases args; simp_all
  obtain ⟨dim0, win0, tr0, sam0, ev0, kind0, part0, whole0, tries0, keep0, notes0, rfl, W0⟩ := open_conf (hval 0 88 v0 rfl rfl) h0
  obtain ⟨a1, rfl, _, _, w1⟩ := open_int Try.underlying3 (hval 1 3 v1 rfl rfl) h1
  refine (walk dim0 win0 tr0 sam0 ev0 kind0 part0 whole0 tries0 keep0 notes0 W0 a1 (i64_of_wf w1) W).mono fun e W' ⟨he, hg⟩ => ?_
  subst he
  exact ⟨_, rfl, law_post laid (by rw [Try.params15]; exact (by decide +kernel)) rfl (by kernel_rfl) Try.underlying4 rfl hW' hg⟩

theorem over : Rows.schedRoundsRow.holds Try.pinned (OpenSpec.ofChange Rows.schedRoundsSpec) :=
  OpenClaim.holds_of_wide 15 Try.f15 rfl rfl rfl rfl rfl rfl rfl ⟨rfl, rfl, rfl, rfl, rfl⟩ rfl rfl rfl rfl rfl (by kernel_rfl) Try.func15 (by kernel_rfl)
    (of_decide_eq_true (by kernel_rfl)) (by unfold Func.isWrapper; first | (rw [if_pos (by decide +kernel)]; kernel_rfl) | (rw [if_neg (by decide +kernel)]; exact ⟨rfl, rfl⟩))
    (fun os started H enc _ => lifted os started H enc)
theorem proved : Rows.SchedRoundsSaid := over
end Go.Proofs.Ytmfgegebnjpanaa.schedRounds
