import Derived.Test.YtehekdahlnpldaaPickH

/-! Layer 7: the reference's Sample for all that is asked; its Weigh. -/
namespace Go.Proofs.Ytehekdahlnpldaa
open Go.RowKit
set_option linter.unusedVariables false
set_option linter.unusedSimpArgs false

theorem ref_row0 (w : World) : Calls Try.prog 61 #[.int .i64 0] w fun e w' => e = .returned (.slice none 0 0) ∧ w = w' := by
  go_enter Try.func61, Try.ntmps61
  go_wp2
  go_loopw [3, 4] (fun v i wr => v = .slice none 0 0 ∧ i = .int .i64 0 ∧ wr = w) (fun _ i _ => 0)
  case atStart => exact ⟨rfl, rfl, rfl⟩
  case round =>
    obtain ⟨rfl, rfl, rfl⟩ := hrel
    go_wp2
    go_ret
    exact ⟨rfl, rfl⟩
theorem givesC_nilA {w w' : World} {a x : Int} (h : Below w.heap.size w w') : GivesC ([], a, x) w (.returned (.tuple #[.slice none 0 0, .int .i64 a, .int .i64 x])) w' :=
  ⟨none, 0, rfl, Nat.le_refl _, by unfold maxLen; omega, fun h1 => absurd h1 (by simp), (fun _ e => by cases e), h⟩
theorem ref_Sample_0 (A : Option Addr) (l : List Int) (c T : Nat) (a : Int) (w : World) (h0 : 0 ≤ a) (hT1 : 1 ≤ T) (hT : T ≤ 64) :
    Calls Try.prog 19 #[.slice A l.length c, .int .i64 a, .int .i64 0, .int .i64 0, .int .i64 T] w (GivesC ([], a, 0) w) := by
  have KM := Lib.hid (ref_asked a T)
  rw [show decide (0 ≤ a ∧ (1 : Int) ≤ T ∧ (T : Int) ≤ 64) = true from by simp; omega] at KM
  have KR := Lib.hid ref_row0
  generalize l.length = M at *
  go_enter Try.func19, Try.ntmps19
  go_wp2_with fail
  refine (KM.out _).mono ?_
  rintro e1 w1 ⟨rfl, rfl⟩
  go_wp2_with fail
  refine (KR.out _).mono ?_
  rintro e1 w1 ⟨rfl, rfl⟩
  go_wp2
  go_loopw [1, 14] (fun av i wr => av = .int .i64 a ∧ i = .int .i64 0 ∧ wr = w) (fun _ i _ => 0)
  case atStart => exact ⟨rfl, rfl, rfl⟩
  case round =>
    obtain ⟨rfl, rfl, rfl⟩ := hrel
    go_wp2
    go_ret3
    exact givesC_nilA (Below.refl _ _)
theorem samp_0 {l : List Int} {a : Int} {T : Nat} (h0 : 0 ≤ a) (hT1 : 1 ≤ T) (hT : T ≤ 64) : sampV l a 0 0 T = ([], a, 0) := by
  unfold sampV
  rw [if_pos (by omega)]
  rfl
set_option maxHeartbeats 1000000 in
theorem ref_Sample (A : Option Addr) (l : List Int) (c : Nat) (a n k t : Int) (w : World) (hA : LiesU w w.heap.size A l) (hu : ∀ x ∈ l, U64 x) (hl : (l.length : Int) ≤ 9223372036854775807) (hat : I64 a) :
    Calls Try.prog 19 #[.slice A l.length c, .int .i64 a, .int .i64 n, .int .i64 k, .int .i64 t] w (GivesC (sampV l a n k t) w) := by
  by_cases h : 0 ≤ n ∧ n ≤ 256 ∧ 0 ≤ k ∧ k ≤ n ∧ 0 ≤ a ∧ 1 ≤ t ∧ t ≤ 64
  · obtain ⟨h1, h2, h3, h4, h5, h6, h7⟩ := h
    obtain ⟨N, rfl⟩ : ∃ N : Nat, n = N := ⟨n.toNat, by omega⟩
    obtain ⟨K, rfl⟩ : ∃ K : Nat, k = K := ⟨k.toNat, by omega⟩
    obtain ⟨T, rfl⟩ : ∃ T : Nat, t = T := ⟨t.toNat, by omega⟩
    rcases Nat.eq_zero_or_pos N with e | e
    · subst e
      obtain rfl : K = 0 := by omega
      rw [show ((0 : Nat) : Int) = 0 from rfl, samp_0 h5 (by omega) (by omega)]
      exact ref_Sample_0 A l c T a w h5 (by omega) (by omega)
    · exact ref_Sample_go A l c N K T a w hA hu hl (by omega) e (by omega) h5 (by unfold I64 at hat; omega) (by omega) (by omega)
  · rw [samp_no h]
    have KM := Lib.hid (ref_asked a t)
    clear hA hu
    generalize l.length = M at *
    by_cases g1 : n < 0
    · clear h
      go_enter Try.func19, Try.ntmps19
      go_wp2
      go_ret3
      exact givesC_nil (Below.refl _ _)
    · by_cases g2 : 256 < n
      · clear h
        go_enter Try.func19, Try.ntmps19
        go_wp2
        go_ret3
        exact givesC_nil (Below.refl _ _)
      · by_cases g3 : k < 0
        · clear h
          go_enter Try.func19, Try.ntmps19
          go_wp2
          go_ret3
          exact givesC_nil (Below.refl _ _)
        · by_cases g4 : n < k
          · clear h
            go_enter Try.func19, Try.ntmps19
            go_wp2
            go_ret3
            exact givesC_nil (Below.refl _ _)
          · rw [show decide (0 ≤ a ∧ 1 ≤ t ∧ t ≤ 64) = false from by simp; omega] at KM
            clear h
            go_enter Try.func19, Try.ntmps19
            go_wp2_with fail
            refine (KM.out _).mono ?_
            rintro e1 w1 ⟨rfl, rfl⟩
            go_wp2
            go_ret3
            exact givesC_nil (Below.refl _ _)

theorem wgh_bad {l : List Int} {a : Int} {ws : List Int} {t : Int} (h : ¬ wOk ws) : wgh l a ws t = (0, 0, 1) := wgh_no (by rw [tot_no h])
theorem wgh_zero {l : List Int} {a : Int} {ws : List Int} {t : Int} (h : psum ws ws.length = 0) : wgh l a ws t = (0, 0, 1) := by
  apply wgh_no
  by_cases g : wOk ws
  · rw [tot_ok g, h]; rfl
  · rw [tot_no g]
set_option maxHeartbeats 4000000 in
theorem ref_Weigh (A Aw : Option Addr) (l ws : List Int) (c cw : Nat) (a t : Int) (w : World) (hA : LiesU w w.heap.size A l) (hu : ∀ x ∈ l, U64 x) (hl : (l.length : Int) ≤ 9223372036854775807) (hw : Lies w w.heap.size Aw ws) (hlw : (ws.length : Int) ≤ 9223372036854775807) (hat : I64 a) :
    Calls Try.prog 29 #[.slice A l.length c, .int .i64 a, .slice Aw ws.length cw, .int .i64 t] w (GivesW (wgh l a ws t) w) := by
  have KM := Lib.hid (ref_asked a t)
  by_cases h256 : 256 < ws.length
  · rw [wgh_bad (fun h => by have := h.1; omega)]
    clear hA hu hw
    generalize l.length = M at *
    generalize ws.length = N at *
    have hg : (256 : Int) < (N : Int) := by omega
    go_enter Try.func29, Try.ntmps29
    go_wp2
    go_ret3
    exact ⟨rfl, Below.refl _ _⟩
  · by_cases hm : 0 ≤ a ∧ 1 ≤ t ∧ t ≤ 64
    · rw [show decide (0 ≤ a ∧ 1 ≤ t ∧ t ≤ 64) = true from by simp; omega] at KM
      have KB := Lib.hid (fun n hn => ref_bound6 A l c a n t w hA hu hl hn hat)
      have HLT := Lib.hid (fun n => @bnd_lt l a n t)
      have HBAD : Hid (∀ j, j < ws.length → ¬ wIn (ws.getD j 0) → wgh l a ws t = (0, 0, 1)) := fun j hj hn => wgh_bad (fun h => hn (h.2 j hj))
      have HZERO : Hid (psum ws ws.length = 0 → wgh l a ws t = (0, 0, 1)) := wgh_zero
      have HV : Hid ((∀ j, j < ws.length → wIn (ws.getD j 0)) → 0 < psum ws ws.length → wgh l a ws t = if (bnd l a (psum ws ws.length) t).2.2 = 0 then (wIdx ws (bnd l a (psum ws ws.length) t).1, (bnd l a (psum ws ws.length) t).2.1, 0) else (0, 0, (bnd l a (psum ws ws.length) t).2.2)) := fun h1 h2 => wgh_yes ⟨by omega, h1⟩ h2 hm
      have HI := Lib.hid (fun x i hi hx (h : ∀ j, j < i → psum ws (j + 1) ≤ x) => @wIdx_eq ws x i hi hx (fun j hj => by have := h j hj; omega))
      have HB := Lib.hid (fun k => @psum_bd ws k)
      have HW := Lib.hid (fun W (h : Below w.heap.size w W) => hw.below h)
      have HW0 := Lib.hid hw
      generalize wgh l a ws t = Z at *
      clear hA hu hw
      generalize l.length = M at *
      generalize hN : ws.length = N at *
      have HN := Lib.hid hN
      clear hN
      have hN256 : ¬ (256 : Int) < (N : Int) := by omega
      go_enter Try.func29, Try.ntmps29
      go_wp2_with fail
      refine (KM.out _).mono ?_
      rintro e1 w1 ⟨rfl, rfl⟩
      go_wp2
      go_loopw [11, 12] (fun s i wr => ∃ k : Nat, k ≤ N ∧ i = .int .i64 k ∧ s = .int .i64 (psum ws k) ∧ wr = w ∧ Hid (∀ j, j < k → wIn (ws.getD j 0))) (fun _ i _ => N - (intOf i).toNat)
      case atStart => exact ⟨0, by omega, rfl, rfl, rfl, fun j hj => absurd hj (by omega)⟩
      case round =>
        obtain ⟨k, hk, rfl, rfl, rfl, HQ⟩ := hrel
        have hbd := HB.out k HQ.out
        by_cases hlt : k < N
        · have hlg : (k : Int) < (N : Int) := by omega
          obtain ⟨ad, rfl, _, hcell⟩ := HW0.out.at (k := k) (by have := HN.out; omega)
          have HFk := Lib.hid (HBAD.out k hlt)
          have HS : Hid (psum ws (k + 1) = psum ws k + ws.getD k 0) := rfl
          have HQk : Hid (wIn (ws.getD k 0) → ∀ j, j < k + 1 → wIn (ws.getD j 0)) := fun h j hj => by
            rcases Nat.lt_or_ge j k with g | g
            · exact HQ.out j g
            · rw [show j = k from by omega]; exact h
          generalize ws.getD k 0 = x at *
          generalize hp1 : psum ws (k + 1) = s2 at *
          generalize psum ws k = s at *
          have HP1 := Lib.hid hp1
          clear hp1
          by_cases hx1 : x < 0
          · have hz := HFk.out (by unfold wIn; omega)
            clear hbd
            go_wp2
            go_ret3
            first | rw [hz] | skip
            exact ⟨rfl, Below.refl _ _⟩
          · by_cases hx2 : 1099511627776 < x
            · have hz := HFk.out (by unfold wIn; omega)
              clear hbd
              go_wp2
              go_ret3
              first | rw [hz] | skip
              exact ⟨rfl, Below.refl _ _⟩
            · have hw1 : wrap64 (s + x) = s + x := by unfold wrap64; omega
              have HXI : Hid (wIn x) := by show wIn x; unfold wIn; omega
              clear hbd
              go_wp2
              refine ⟨⟨k + 1, by omega, by go_num, by first | rw [hw1, HP1.out, HS.out] | rw [HP1.out, HS.out], by first | trivial | rfl, HQk.out HXI.out⟩, by first | (simp [intOf]; done) | (simp [intOf]; omega)⟩
        · obtain rfl : k = N := by omega
          have HVk := Lib.hid (HV.out HQ.out)
          have HBK := Lib.hid (fun i (hi : i ≤ k) => HB.out i (fun j hj => HQ.out j (by omega)))
          have HM := Lib.hid (fun i (hi : i ≤ k) j (hj : j ≤ i) => psum_mono (l := ws) (m := i) (fun q hq => HQ.out q (by omega)) hj)
          have HBS := Lib.hid (KB.out (psum ws k) (by unfold U64; omega))
          have HLTS := Lib.hid (HLT.out (psum ws k))
          have HEQ : Hid (∀ x, (∀ j, j < k → psum ws (j + 1) ≤ x) → 0 ≤ x → psum ws k ≤ x) := fun x h h0 => by
            rcases Nat.eq_zero_or_pos k with e | e
            · rw [e]; exact h0
            · have := h (k - 1) (by omega)
              rwa [show k - 1 + 1 = k from by omega] at this
          generalize hS : psum ws k = S at *
          have HS := Lib.hid hS
          clear hS
          by_cases hS0 : S = 0
          · have hz := HZERO.out hS0
            subst hS0
            clear hbd
            go_wp2
            go_ret3
            first | rw [hz] | skip
            exact ⟨rfl, Below.refl _ _⟩
          · have hS1 : (S == 0) = false := by simpa using hS0
            have hlt2 := HLTS.out (by omega)
            have HV3 := Lib.hid (HVk.out (by omega))
            have hwu : IntKind.u64.wrap S = S := by simp only [u64w]; omega
            generalize bnd l a S t = F at *
            obtain ⟨x, p, e⟩ := F
            simp only at hlt2 HV3
            have hwx : IntKind.i64.wrap x = x := by simp only [i64w7]; omega
            have hx0 := hlt2.1
            have HLT2 := Lib.hid hlt2
            clear hbd hlt2
            go_wp2_with fail
            refine HBS.out.mono ?_
            rintro e1 w1 ⟨rfl, hw⟩
            have b1 := bel_q hw
            have HB1 := Lib.hid b1
            have HL1 := Lib.hid (HW.out _ b1)
            clear b1 hw hwu
            by_cases he : e = 0
            · subst he
              go_wp2
              go_loopw [16, 17] (fun s i wr => ∃ q : Nat, q ≤ k ∧ i = .int .i64 q ∧ s = .int .i64 (psum ws q) ∧ wr = w1 ∧ Hid (∀ j, j < q → psum ws (j + 1) ≤ x)) (fun _ i _ => k - (intOf i).toNat)
              case atStart => exact ⟨0, by omega, rfl, rfl, rfl, fun j hj => absurd hj (by omega)⟩
              case round =>
                obtain ⟨q, hq, rfl, rfl, rfl, HQ2⟩ := hrel
                by_cases hq2 : q < k
                · have hqg : (q : Int) < (k : Int) := by omega
                  obtain ⟨ad, rfl, _, hcell⟩ := HL1.out.at (k := q) (by have := HN.out; omega)
                  have hb1 := HBK.out q hq
                  have hb2 := HBK.out (q + 1) (by omega)
                  have HS2 : Hid (psum ws (q + 1) = psum ws q + ws.getD q 0) := rfl
                  have HI2 := Lib.hid (fun h => HI.out x q (by have := HN.out; omega) h HQ2.out)
                  have HQN : Hid (psum ws (q + 1) ≤ x → ∀ j, j < q + 1 → psum ws (j + 1) ≤ x) := fun h j hj => by
                    rcases Nat.lt_or_ge j q with g | g
                    · exact HQ2.out j g
                    · rw [show j = q from by omega]; exact h
                  generalize hp1 : psum ws (q + 1) = s2 at *
                  have HP1 := Lib.hid hp1
                  clear hp1
                  generalize ws.getD q 0 = y at *
                  generalize psum ws q = s at *
                  have hs2 := HS2.out
                  have hw1 : wrap64 (s + y) = s2 := by unfold wrap64; omega
                  clear hb1 hb2 hs2
                  by_cases hx : x < s2
                  · have hi := HI2.out hx
                    rw [hi] at HV3
                    go_wp2
                    go_ret3
                    rw [show Z = ((q : Int), p, 0) from HV3.out.trans (if_pos trivial)]
                    exact ⟨rfl, HB1.out⟩
                  · go_wp2
                    refine ⟨⟨q + 1, by omega, by go_num, by first | rw [hw1, HP1.out] | rw [HP1.out], by first | trivial | rfl, HQN.out (by omega)⟩, by first | (simp [intOf]; done) | (simp [intOf]; omega)⟩
                · obtain rfl : q = k := by omega
                  have h1 := HEQ.out x HQ2.out hx0
                  have h2 := HLT2.out.2
                  exact absurd h1 (by omega)
            · have hne : (e != 0) = true := by simpa using he
              go_wp2
              go_ret3
              rw [show Z = (0, 0, e) from HV3.out.trans (if_neg he)]
              exact ⟨rfl, HB1.out⟩
    · rw [show decide (0 ≤ a ∧ 1 ≤ t ∧ t ≤ 64) = false from by simp; omega] at KM
      rw [wgh_may hm]
      clear hA hu hw hm
      generalize l.length = M at *
      generalize ws.length = N at *
      have hN256 : ¬ (256 : Int) < (N : Int) := by omega
      go_enter Try.func29, Try.ntmps29
      go_wp2_with fail
      refine (KM.out _).mono ?_
      rintro e1 w1 ⟨rfl, rfl⟩
      go_wp2
      go_ret3
      exact ⟨rfl, Below.refl _ _⟩
end Go.Proofs.Ytehekdahlnpldaa
