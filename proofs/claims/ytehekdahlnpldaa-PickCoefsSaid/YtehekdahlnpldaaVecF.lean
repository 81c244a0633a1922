import Derived.Test.YtehekdahlnpldaaVecE

/-! The reference of layer 8: Dot, Gap, Order, All, Much. -/
namespace Go.Proofs.Ytehekdahlnpldaa
open Go.RowKit
set_option linter.unusedVariables false
set_option linter.unusedSimpArgs false

set_option maxHeartbeats 2000000 in
theorem ref_Dot (A A2 : Option Addr) (a b : List Int) (c c2 B : Nat) (w : World) (hA : Lies w B A a) (hA2 : Lies w B A2 b) :
    Calls Try.prog 144 #[.slice A a.length c, .slice A2 b.length c2] w fun e w' => e = .returned (.tuple #[.int .i64 (dotN a b), .int .i64 (dotC a b)]) ∧ ∃ n, w' = w.drewN n := by
  have K1 := Lib.hid (ref_parts A a c B a.length w hA)
  have K2 := Lib.hid (ref_is A2 b c2 B a.length w hA2)
  have HA := Lib.hid hA
  have HA2 := Lib.hid hA2
  have HN : Hid (dotN a b = if dotE a b then dotI a b a.length else 0) := rfl
  have HC : Hid (dotC a b = if dotE a b then 0 else 80) := rfl
  have HE : Hid (dotE a b = (partsV a a.length && isV b a.length)) := rfl
  have HOK : Hid (dotE a b = true → b.length = a.length ∧ a.length ≤ 8 ∧ (∀ k, okC (a.getD k 0)) ∧ (∀ k, okN (b.getD k 0)) ∧ ∀ k : Nat, -(8589934592 * (k : Int)) ≤ dotI a b k ∧ dotI a b k ≤ 8589934592 * k) := fun h =>
    ⟨(dotE_ok h).2.2.1, (dotE_ok h).2.2.2, getD_okC (dotE_ok h).1, getD_okN (dotE_ok h).2.1, dotI_v (dotE_ok h).1 (dotE_ok h).2.1⟩
  generalize dotN a b = n at *
  generalize dotC a b = m at *
  generalize dotE a b = q at *
  generalize partsV a a.length = p1 at *
  generalize isV b a.length = p2 at *
  clear hA hA2
  cases p1
  · generalize a.length = N at *
    generalize b.length = M at *
    go_enter Try.func144, Try.ntmps144
    go_wp2_with fail
    refine K1.out.mono ?_
    rintro e w1 ⟨rfl, rfl⟩
    go_wp2
    go_ret2
    exact ⟨ret2i (by rw [HN.out, HE.out]; rfl) (by rw [HC.out, HE.out]; rfl), 0, rfl⟩
  · cases p2
    · generalize a.length = N at *
      generalize b.length = M at *
      go_enter Try.func144, Try.ntmps144
      go_wp2_with fail
      refine K1.out.mono ?_
      rintro e w1 ⟨rfl, rfl⟩
      go_wp2_with fail
      refine K2.out.mono ?_
      rintro e w1 ⟨rfl, rfl⟩
      go_wp2
      go_ret2
      exact ⟨ret2i (by rw [HN.out, HE.out]; rfl) (by rw [HC.out, HE.out]; rfl), 0, rfl⟩
    · obtain ⟨hlen, h8, hc, hv, hd⟩ := HOK.out HE.out
      have HL := Lib.hid hlen
      have HCC := Lib.hid hc
      have HO := Lib.hid hv
      have HD := Lib.hid hd
      clear hlen hc hv hd HOK
      generalize hN : a.length = N at *
      have HNN := Lib.hid hN
      clear hN
      generalize hM : b.length = M at *
      have HMM := Lib.hid hM
      clear hM
      go_enter Try.func144, Try.ntmps144
      go_wp2_with fail
      refine K1.out.mono ?_
      rintro e w1 ⟨rfl, rfl⟩
      go_wp2_with fail
      refine K2.out.mono ?_
      rintro e w1 ⟨rfl, rfl⟩
      go_wp2
      go_loopw [6, 7] (fun s i wr => ∃ k : Nat, k ≤ N ∧ i = .int .i64 k ∧ s = .int .i64 (dotI a b k) ∧ Hid (∃ n, wr = w.drewN n)) (fun _ i _ => N - (intOf i).toNat)
      case atStart => exact ⟨0, by omega, rfl, rfl, ⟨0, rfl⟩⟩
      case round =>
        obtain ⟨k, hk, rfl, rfl, HW⟩ := hrel
        by_cases hlt : k < N
        · have HAr : Hid (Lies wr B A a) := by obtain ⟨n, hn⟩ := HW.out; show Lies _ _ _ _; rw [hn]; exact HA.out
          have HAr2 : Hid (Lies wr B A2 b) := by obtain ⟨n, hn⟩ := HW.out; show Lies _ _ _ _; rw [hn]; exact HA2.out
          obtain ⟨ad, rfl, _, hc1⟩ := HAr.out.at (k := k) (by have := HNN.out; omega)
          obtain ⟨ad2, rfl, _, hc2⟩ := HAr2.out.at (k := k) (by have := HMM.out; have := HL.out; omega)
          have hm := mul_okC (HCC.out k) (HO.out k)
          have hd := HD.out k
          have HS : Hid (dotI a b (k + 1) = dotI a b k + a.getD k 0 * b.getD k 0) := rfl
          obtain ⟨hm1, hm2⟩ := hm
          obtain ⟨hd1, hd2⟩ := hd
          generalize a.getD k 0 = x at *
          generalize b.getD k 0 = y at *
          generalize dotI a b k = z at *
          have hji : (k : Int) < (N : Int) := by omega
          have hji2 : (k : Int) < (M : Int) := by have := HL.out; omega
          go_wp2
          go_quiet (fail)
          go_wp2
          exact ⟨⟨k + 1, by omega, by go_num, by rw [HS.out], (by obtain ⟨m, hm⟩ := HW.out; show ∃ _, _; rw [hm]; exact dre2' _ _ _)⟩, by first | (simp [intOf]; done) | (simp [intOf]; omega)⟩
        · obtain rfl : k = N := by omega
          go_wp2
          go_ret2
          exact ⟨ret2i (by rw [HN.out, HE.out]; rfl) (by rw [HC.out, HE.out]; rfl), HW.out⟩
theorem allV_nil (d : Int) : allV [] d = true := rfl
set_option maxHeartbeats 1000000 in
theorem ref_All (A : Option Addr) (R : List Row) (c B : Nat) (d : Int) (w : World) (hA : LiesR w B A R) (hl : (R.length : Int) ≤ 9223372036854775807) :
    Calls Try.prog 76 #[.slice A R.length c, .int .i64 d] w fun e w' => e = .returned (.bool (allV R d && decide (0 < R.length))) ∧ w = w' := by
  have HA := Lib.hid hA
  have HT0 : Hid (∀ k, k < R.length → allV (R.take (k + 1)) d = (allV (R.take k) d && isV (R.getD k row0).l d)) := fun k hk => allV_take hk
  have HF0 : Hid (∀ k, k < R.length → isV (R.getD k row0).l d = false → allV R d = false) := fun k hk h => allV_false hk h
  have HEnd : Hid (allV (R.take R.length) d = true → allV R d = true) := fun h => by rw [List.take_length] at h; exact h
  generalize allV R d = q at *
  clear hA
  generalize hN : R.length = N at *
  have HN := Lib.hid hN
  clear hN
  go_enter Try.func76, Try.ntmps76
  go_wp2
  go_loop [5] (fun i => ∃ k : Nat, k ≤ N ∧ i = .int .i64 k ∧ Hid (allV (R.take k) d = true)) (fun i => N - (intOf i).toNat)
  case atStart => exact ⟨0, by omega, rfl, rfl⟩
  case round =>
    obtain ⟨k, hk, rfl, HT⟩ := hrel
    by_cases hlt : k < N
    · obtain ⟨ad, rfl, _, hcell, hlies⟩ := HA.out.at (k := k) (by have := HN.out; omega)
      have K := Lib.hid (ref_is _ _ (R.getD k row0).c B d w hlies)
      have HS := Lib.hid (HT0.out k hlt)
      have HF := Lib.hid (HF0.out k hlt)
      clear hlies
      generalize R.getD k row0 = r at *
      obtain ⟨ra, rl, rc⟩ := r
      simp only at hcell K HS HF
      generalize hv : isV rl d = v at *
      have HV := Lib.hid hv
      clear hv
      generalize rl.length = M at *
      cases v
      · have HR := Lib.hid (HF.out rfl)
        clear HF
        go_wp2_with fail
        refine K.out.mono ?_
        rintro e w1 ⟨rfl, rfl⟩
        go_wp2
        go_ret
        exact ⟨ret_bool (by rw [HR.out]; rfl), rfl⟩
      · clear HF
        go_wp2_with fail
        refine K.out.mono ?_
        rintro e w1 ⟨rfl, rfl⟩
        go_wp2
        go_round
        case rel => exact ⟨k + 1, by omega, by go_num, (by show _ = _; rw [HS.out, HT.out]; rfl)⟩
        case measure => simp [intOf]; omega
    · obtain rfl : k = N := by omega
      have HR := Lib.hid (HEnd.out HT.out)
      go_wp2
      go_ret
      exact ⟨ret_bool (by rw [HR.out]; simp), rfl⟩
/-- more rows than most, or one that is longer than 20 -/
def muchV (R : List Row) (m : Int) : Bool := decide (m < R.length) || R.any fun r => decide (20 < r.l.length)
theorem muchV_no {R : List Row} {m : Int} (h : muchV R m = false) : (R.length : Int) ≤ m ∧ ∀ r ∈ R, r.l.length ≤ 20 := by
  unfold muchV at h
  rw [Bool.or_eq_false_iff] at h
  refine ⟨by have := of_decide_eq_false h.1; omega, fun r hr => ?_⟩
  have h2 := h.2
  rw [List.any_eq_false] at h2
  have := h2 r hr
  simp at this
  exact this
theorem muchV_yes {R : List Row} {m : Int} {k : Nat} (hk : k < R.length) (h : 20 < (R.getD k row0).l.length) : muchV R m = true := by
  unfold muchV
  rw [Bool.or_eq_true]
  right
  rw [List.any_eq_true]
  exact ⟨_, getD_mem hk, decide_eq_true h⟩
theorem muchV_end {R : List Row} {m : Int} (h0 : (R.length : Int) ≤ m) (h : ∀ j, j < R.length → (R.getD j row0).l.length ≤ 20) : muchV R m = false := by
  unfold muchV
  rw [Bool.or_eq_false_iff]
  refine ⟨decide_eq_false (by omega), ?_⟩
  rw [List.any_eq_false]
  intro r hr
  obtain ⟨j, hj, rfl⟩ := List.mem_iff_getElem.1 hr
  have := h j hj
  rw [List.getD_eq_getElem?_getD, List.getElem?_eq_getElem hj] at this
  simpa using this
set_option maxHeartbeats 1000000 in
theorem ref_Much (A : Option Addr) (R : List Row) (c B : Nat) (m : Int) (w : World) (hA : LiesR w B A R) (hl : (R.length : Int) ≤ 9223372036854775807) :
    Calls Try.prog 36 #[.slice A R.length c, .int .i64 m] w fun e w' => e = .returned (.bool (muchV R m)) ∧ w = w' := by
  have HA := Lib.hid hA
  have HY : Hid (∀ k, k < R.length → 20 < (R.getD k row0).l.length → muchV R m = true) := fun k hk h => muchV_yes hk h
  have HE0 : Hid ((R.length : Int) ≤ m → (∀ j, j < R.length → (R.getD j row0).l.length ≤ 20) → muchV R m = false) := fun h0 h => muchV_end h0 h
  have H0 : Hid (m < R.length → muchV R m = true) := fun h => by
    show _ = _
    unfold muchV
    rw [decide_eq_true h]; rfl
  generalize muchV R m = q at *
  clear hA
  generalize hN : R.length = N at *
  have HN := Lib.hid hN
  clear hN
  by_cases hm : m < N
  · have HR := Lib.hid (H0.out hm)
    go_enter Try.func36, Try.ntmps36
    go_wp2
    go_ret
    exact ⟨ret_bool HR.out.symm, rfl⟩
  · have HE1 := Lib.hid (HE0.out (by omega))
    go_enter Try.func36, Try.ntmps36
    go_wp2
    go_loop [5] (fun i => ∃ k : Nat, k ≤ N ∧ i = .int .i64 k ∧ Hid (∀ j, j < k → (R.getD j row0).l.length ≤ 20)) (fun i => N - (intOf i).toNat)
    case atStart => exact ⟨0, by omega, rfl, fun j hj => absurd hj (by omega)⟩
    case round =>
      obtain ⟨k, hk, rfl, HT⟩ := hrel
      by_cases hlt : k < N
      · obtain ⟨ad, rfl, _, hcell, hlies⟩ := HA.out.at (k := k) (by have := HN.out; omega)
        have HF := Lib.hid (HY.out k hlt)
        have HX : Hid ((R.getD k row0).l.length ≤ 20 → ∀ j, j < k + 1 → (R.getD j row0).l.length ≤ 20) := fun h j hj => by
          rcases Nat.lt_or_ge j k with g | g
          · exact HT.out j g
          · rw [show j = k from by omega]; exact h
        clear hlies
        generalize R.getD k row0 = r at *
        obtain ⟨ra, rl, rc⟩ := r
        simp only at hcell HF HX
        generalize rl.length = M at *
        by_cases hM : 20 < M
        · have hM' : (20 : Int) < (M : Int) := by omega
          have HR := Lib.hid (HF.out hM)
          go_wp2
          go_ret
          exact ⟨ret_bool HR.out.symm, rfl⟩
        · have hM' : ¬ (20 : Int) < (M : Int) := by omega
          have HR := Lib.hid (HX.out (by omega))
          go_wp2
          go_round
          case rel => exact ⟨k + 1, by omega, by go_num, HR.out⟩
          case measure => simp [intOf]; omega
      · obtain rfl : k = N := by omega
        have HR := Lib.hid (HE1.out HT.out)
        go_wp2
        go_ret
        exact ⟨ret_bool HR.out.symm, rfl⟩
end Go.Proofs.Ytehekdahlnpldaa
