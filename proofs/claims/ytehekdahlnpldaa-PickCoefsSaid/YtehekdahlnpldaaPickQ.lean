import Derived.Test.YtehekdahlnpldaaPickO

/-! Layer 7: Sample, Perm. -/
namespace Go.Proofs.Ytehekdahlnpldaa
open Go.RowKit
set_option linter.unusedVariables false
set_option linter.unusedSimpArgs false

set_option maxHeartbeats 4000000 in
theorem pick_Sample_go (A : Option Addr) (l : List Int) (c N K T : Nat) (a : Int) (w : World) (hA : LiesU w w.heap.size A l) (hu : ∀ x ∈ l, U64 x) (hl : (l.length : Int) ≤ 9223372036854775807) (hN : N ≤ 256) (hK : K ≤ N) (h0 : 0 ≤ a) (h1 : a ≤ 9223372036854775807) (hT1 : 1 ≤ T) (hT : T ≤ 64) :
    Calls Try.prog 18 #[.slice A l.length c, .int .i64 a, .int .i64 N, .int .i64 K, .int .i64 T] w (GivesC (sampV l a N K T) w) := by
  have KB := Lib.hid (fun W (h : Below w.heap.size w W) j (k : Nat) (g0 : 0 ≤ j) (g1 : j ≤ 9223372036854775807) (hk : k < N) => draw_bound A l c j (N - k) T W ((hA.below h).mono h.size) hu hl (by unfold U64; omega) (by unfold I64; omega))
  have HAT := Lib.hid (fun j (k : Nat) => bnd_at (l := l) (a := j) (t := T) (n := N - k) hl)
  have HLT := Lib.hid (fun j (k : Nat) (hk : k < N) => bnd_lt (l := l) (a := j) (t := T) (n := N - k) (by omega))
  have KM := Lib.hid (pick_may a T w)
  rw [show decide (0 ≤ a ∧ (1 : Int) ≤ T ∧ (T : Int) ≤ 64) = true from by simp; omega] at KM
  have KW1 := Lib.hid (pick_within N 0 256 w)
  rw [show decide ((0 : Int) ≤ N ∧ (N : Int) ≤ 256) = true from by simp; omega] at KW1
  have KW2 := Lib.hid (pick_within K 0 N w)
  rw [show decide ((0 : Int) ≤ K ∧ (K : Int) ≤ N) = true from by simp; omega] at KW2
  have KP := Lib.hid (fun W A2 p c2 (hl2 : Lies W W.heap.size A2 p) hp h => pick_picked A2 p c2 N W hl2 hN hp h)
  have HV := Lib.hid (samp_yes (l := l) hN hK h0 hT1 hT)
  generalize sampV l a N K T = Z at *
  clear hA hu hl
  generalize l.length = M at *
  go_enter Try.func18, Try.ntmps18
  go_wp2_with fail
  refine KW1.out.mono ?_
  rintro e1 w1 ⟨rfl, rfl⟩
  go_wp2_with fail
  refine KW2.out.mono ?_
  rintro e1 w1 ⟨rfl, rfl⟩
  go_wp2_with fail
  refine KM.out.mono ?_
  rintro e1 w1 ⟨rfl, rfl⟩
  go_wp2_with (at_make; refine make_none (B := w.heap.size) rfl (.const (.int .i64 0)) (.tmp 33) rfl K rfl rfl (by omega) (Nat.le_refl _) ?_; intro w1 ho1 hb1)
  have HO1 : Hid (w1.ownsRow w.heap.size 3 1 (.slice (some ⟨w.heap.size, 0, none⟩) 0 K) ([] : List Int).length (litI [])) := ho1
  have HB1 := Lib.hid hb1
  clear ho1 hb1
  go_wp2
  go_loopw [1, 13, 36] (fun av pv i wr => ∃ (k : Nat) (j : Int) (acc : List Int), k ≤ K ∧ i = .int .i64 k ∧ av = .int .i64 j ∧ Hid (acc.length = k) ∧ Hid (smp l T N K 0 a [] = smp l T N (K - k) k j acc) ∧ Hid (0 ≤ j ∧ j ≤ 9223372036854775807) ∧ Hid (picksOk N acc) ∧ Hid (wr.ownsRow w.heap.size 3 1 pv acc.length (litI acc)) ∧ Hid (Below w.heap.size w wr)) (fun _ _ i _ => K - (intOf i).toNat)
  case atStart => exact ⟨0, a, [], by omega, rfl, rfl, rfl, rfl, ⟨h0, h1⟩, fun j hj => absurd hj (by simp), HO1.out, HB1.out⟩
  case round =>
    obtain ⟨k, j, acc, hk, rfl, rfl, HL, HF, HJ, HP, HO, HB⟩ := hrel
    by_cases hlt : k < K
    · have hlg : (k : Int) < (K : Int) := by omega
      have KX := Lib.hid (KB.out wr HB.out j k HJ.out.1 HJ.out.2 (by omega))
      have HS := Lib.hid (fun h => smp_step (l := l) (t := T) (n := N) (k := K - k - 1) (i := k) (a := j) (acc := acc) h)
      have HX := Lib.hid (fun h => smp_fail (l := l) (t := T) (n := N) (k := K - k - 1) (i := k) (a := j) (acc := acc) h)
      have HA2 := Lib.hid (HAT.out j k)
      have hx := HLT.out j k (by omega)
      generalize bnd l j (N - k) T = F at *
      obtain ⟨x, p, e⟩ := F
      simp only at HS HX HA2 hx
      obtain ⟨q, rfl⟩ : ∃ q : Nat, x = q := ⟨x.toNat, by omega⟩
      have hq : Hid ((q : Int) ≤ N - k - 1) := by show _ ≤ _; omega
      have hwu : IntKind.u64.wrap ((N : Int) - (k : Int)) = (N : Int) - (k : Int) := w7u (by omega) (by omega)
      have hwi := w7i (q := q) (by omega)
      go_wp2_with fail
      refine KX.out.mono ?_
      rintro e1 w2 ⟨rfl, b2⟩
      have HO2 := Lib.hid (ownI_below HO.out (b2.mono (Nat.le_refl _)))
      have HB2 := Lib.hid (HB.out.trans (b2.mono HB.out.size))
      clear b2 hwu
      by_cases he : e = 0
      · subst he
        have hsz := HB2.out.size
        have hll : acc.length + 1 ≤ 1000000000 := by rw [HL.out]; omega
        go_wp2_with (at_builtin; refine app_int rfl (.tmp 54) (.tmp 57) rfl _ acc (q : Int) rfl HO2.out rfl hsz hll ?_; intro v' w4 hown4 hb4 _)
        clear hwi
        refine ⟨⟨k + 1, p, acc ++ [(q : Int)], by omega, by go_num, rfl, by show _ = _; rw [List.length_append, HL.out]; rfl, ?_, HA2.out trivial HJ.out.1, picks_snoc HL.out HP.out (by omega) hq.out, hown4, HB2.out.trans hb4⟩, by first | (simp [intOf]; done) | (simp [intOf]; omega)⟩
        show _ = _
        rw [HF.out, show K - k = K - k - 1 + 1 from by omega, HS.out trivial, show K - (k + 1) = K - k - 1 from by omega]
      · have hne : (e != 0) = true := by simpa using he
        go_wp2
        go_ret3
        have hz := HX.out he
        rw [← show K - k = K - k - 1 + 1 from by omega, ← HF.out] at hz
        rw [hz] at HV
        rw [show Z = ([], 0, e) from HV.out.trans (if_neg he)]
        exact givesC_nil HB2.out
    · obtain rfl : k = K := by omega
      have hF := HF.out
      rw [Nat.sub_self, smp] at hF
      rw [hF] at HV
      have HZ : Hid (Z = (plyV acc, j, 0)) := HV.out.trans (if_pos rfl)
      have ho := HO.out
      obtain ⟨A1, c1, rfl, g1, g2, g3⟩ := lies_ownI ho
      have KPP := Lib.hid (KP.out wr A1 acc c1 g3 HP.out (by rw [HL.out]; exact hK))
      have hll := HL.out
      rw [hll] at KPP
      clear hF ho g1 g3
      rw [hll]
      clear hll
      unfold GivesN at KPP
      generalize plyV acc = pa at *
      go_wp2_with fail
      refine KPP.out.mono ?_
      rintro e1 w2 ⟨A2, c2, rfl, q1, q2, q3, q4, q5⟩
      go_wp2
      go_ret3
      rw [HZ.out]
      exact ⟨A2, c2, rfl, q1, q2, q3, q4.mono HB.out.size, HB.out.trans (q5.mono HB.out.size)⟩
set_option maxHeartbeats 1000000 in
theorem pick_Sample (A : Option Addr) (l : List Int) (c : Nat) (a n k t : Int) (w : World) (hA : LiesU w w.heap.size A l) (hu : ∀ x ∈ l, U64 x) (hl : (l.length : Int) ≤ 9223372036854775807) (hat : I64 a) :
    Calls Try.prog 18 #[.slice A l.length c, .int .i64 a, .int .i64 n, .int .i64 k, .int .i64 t] w (GivesC (sampV l a n k t) w) := by
  by_cases h : 0 ≤ n ∧ n ≤ 256 ∧ 0 ≤ k ∧ k ≤ n ∧ 0 ≤ a ∧ 1 ≤ t ∧ t ≤ 64
  · obtain ⟨h1, h2, h3, h4, h5, h6, h7⟩ := h
    obtain ⟨N, rfl⟩ : ∃ N : Nat, n = N := ⟨n.toNat, by omega⟩
    obtain ⟨K, rfl⟩ : ∃ K : Nat, k = K := ⟨k.toNat, by omega⟩
    obtain ⟨T, rfl⟩ : ∃ T : Nat, t = T := ⟨t.toNat, by omega⟩
    exact pick_Sample_go A l c N K T a w hA hu hl (by omega) (by omega) h5 (by unfold I64 at hat; omega) (by omega) (by omega)
  · rw [samp_no h]
    have KM := Lib.hid (pick_may a t w)
    have KW1 := Lib.hid (pick_within n 0 256 w)
    have KW2 := Lib.hid (pick_within k 0 n w)
    clear hA hu
    generalize l.length = M at *
    by_cases g1 : 0 ≤ n ∧ n ≤ 256
    · rw [show decide (0 ≤ n ∧ n ≤ 256) = true from by simp; omega] at KW1
      by_cases g2 : 0 ≤ k ∧ k ≤ n
      · rw [show decide (0 ≤ k ∧ k ≤ n) = true from by simp; omega] at KW2
        rw [show decide (0 ≤ a ∧ 1 ≤ t ∧ t ≤ 64) = false from by simp; omega] at KM
        clear h g1 g2
        go_enter Try.func18, Try.ntmps18
        go_wp2_with fail
        refine KW1.out.mono ?_
        rintro e1 w1 ⟨rfl, rfl⟩
        go_wp2_with fail
        refine KW2.out.mono ?_
        rintro e1 w1 ⟨rfl, rfl⟩
        go_wp2_with fail
        refine KM.out.mono ?_
        rintro e1 w1 ⟨rfl, rfl⟩
        go_wp2
        go_ret3
        exact givesC_nil (Below.refl _ _)
      · rw [show decide (0 ≤ k ∧ k ≤ n) = false from by simp; omega] at KW2
        clear h g1 g2
        go_enter Try.func18, Try.ntmps18
        go_wp2_with fail
        refine KW1.out.mono ?_
        rintro e1 w1 ⟨rfl, rfl⟩
        go_wp2_with fail
        refine KW2.out.mono ?_
        rintro e1 w1 ⟨rfl, rfl⟩
        go_wp2
        go_ret3
        exact givesC_nil (Below.refl _ _)
    · rw [show decide (0 ≤ n ∧ n ≤ 256) = false from by simp; omega] at KW1
      clear h g1
      go_enter Try.func18, Try.ntmps18
      go_wp2_with fail
      refine KW1.out.mono ?_
      rintro e1 w1 ⟨rfl, rfl⟩
      go_wp2
      go_ret3
      exact givesC_nil (Below.refl _ _)
theorem pick_Perm (A : Option Addr) (l : List Int) (c : Nat) (a n t : Int) (w : World) (hA : LiesU w w.heap.size A l) (hu : ∀ x ∈ l, U64 x) (hl : (l.length : Int) ≤ 9223372036854775807) (hat : I64 a) :
    Calls Try.prog 21 #[.slice A l.length c, .int .i64 a, .int .i64 n, .int .i64 t] w (GivesC (sampV l a n n t) w) := by
  have K := Lib.hid (pick_Sample A l c a n n t w hA hu hl hat)
  generalize sampV l a n n t = Z at *
  clear hA hu
  generalize l.length = M at *
  go_enter Try.func21, Try.ntmps21
  go_wp2_with fail
  refine K.out.mono ?_
  rintro e1 w2 ⟨A2, c2, rfl, q1, q2, q3, q4, q5⟩
  go_wp2
  go_ret3
  exact ⟨A2, c2, rfl, q1, q2, q3, q4, q5⟩
end Go.Proofs.Ytehekdahlnpldaa
