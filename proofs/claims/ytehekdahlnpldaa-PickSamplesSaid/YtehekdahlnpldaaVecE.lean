import Derived.Test.YtehekdahlnpldaaVecD

/-! The reference of layer 8: Is, Parts, Dot, Gap, Order. -/
namespace Go.Proofs.Ytehekdahlnpldaa
open Go.RowKit
set_option linter.unusedVariables false
set_option linter.unusedSimpArgs false

theorem isV_no {v : List Int} {d : Int} (h : ¬ (1 ≤ d ∧ d ≤ 8 ∧ (v.length : Int) = d)) : isV v d = false := by
  rw [Bool.eq_false_iff]; intro g; obtain ⟨h1, h2, h3, _⟩ := isV_iff.1 g; exact h ⟨h1, h2, h3⟩
theorem partsV_no {v : List Int} {d : Int} (h : ¬ (1 ≤ d ∧ d ≤ 8 ∧ (v.length : Int) = d)) : partsV v d = false := by
  rw [Bool.eq_false_iff]; intro g; obtain ⟨h1, h2, h3, _⟩ := partsV_iff.1 g; exact h ⟨h1, h2, h3⟩
theorem mem_getD {l : List Int} {k : Nat} (h : k < l.length) : l.getD k 0 ∈ l := by
  rw [List.getD_eq_getElem?_getD, List.getElem?_eq_getElem h]; exact List.getElem_mem h
theorem all_getD {l : List Int} {P : Int → Prop} (h : ∀ j, j < l.length → P (l.getD j 0)) : ∀ x ∈ l, P x := fun x hx => by
  obtain ⟨j, hj, rfl⟩ := List.mem_iff_getElem.1 hx
  have := h j hj
  rw [List.getD_eq_getElem?_getD, List.getElem?_eq_getElem hj] at this
  exact this
theorem ref_is_no (A : Option Addr) (N c : Nat) (d : Int) (w : World) (h : ¬ (1 ≤ d ∧ d ≤ 8 ∧ (N : Int) = d)) :
    Calls Try.prog 82 #[.slice A N c, .int .i64 d] w fun e w' => e = .returned (.bool false) ∧ w = w' := by
  by_cases g1 : d < 1
  · clear h
    go_enter Try.func82, Try.ntmps82
    go_wp2
    go_ret
    exact ⟨rfl, rfl⟩
  · by_cases g2 : 8 < d
    · clear h
      go_enter Try.func82, Try.ntmps82
      go_wp2
      go_ret
      exact ⟨rfl, rfl⟩
    · have g3 : ((N : Int) != d) = true := by simp; omega
      clear h
      go_enter Try.func82, Try.ntmps82
      go_wp2
      go_ret
      exact ⟨rfl, rfl⟩
set_option maxHeartbeats 1000000 in
theorem ref_is (A : Option Addr) (l : List Int) (c B : Nat) (d : Int) (w : World) (hA : Lies w B A l) :
    Calls Try.prog 82 #[.slice A l.length c, .int .i64 d] w fun e w' => e = .returned (.bool (isV l d)) ∧ w = w' := by
  by_cases h : 1 ≤ d ∧ d ≤ 8 ∧ (l.length : Int) = d
  · obtain ⟨h1, h2, rfl⟩ := h
    have HA := Lib.hid hA
    have HYES : Hid ((∀ j, j < l.length → okN (l.getD j 0)) → isV l l.length = true) := fun h => isV_iff.2 ⟨h1, h2, rfl, all_getD (P := okN) h⟩
    have HNO : Hid (∀ k, k < l.length → ¬ okN (l.getD k 0) → isV l l.length = false) := fun k hk h => by
      rw [Bool.eq_false_iff]; intro g; exact h ((isV_iff.1 g).2.2.2 _ (mem_getD hk))
    generalize isV l l.length = R at *
    clear hA
    generalize hN : l.length = N at *
    have HN := Lib.hid hN
    clear hN
    go_enter Try.func82, Try.ntmps82
    go_wp2
    go_loop [5] (fun i => ∃ k : Nat, k ≤ N ∧ i = .int .i64 k ∧ Hid (∀ j, j < k → okN (l.getD j 0))) (fun i => N - (intOf i).toNat)
    case atStart => exact ⟨0, by omega, rfl, fun j hj => absurd hj (by omega)⟩
    case round =>
      obtain ⟨k, hk, rfl, HE⟩ := hrel
      by_cases hlt : k < N
      · obtain ⟨ad, rfl, _, hc1⟩ := HA.out.at (k := k) (by have := HN.out; omega)
        have HX : Hid (okN (l.getD k 0) → ∀ j, j < k + 1 → okN (l.getD j 0)) := fun h j hj => by
          rcases Nat.lt_or_ge j k with g | g
          · exact HE.out j g
          · rw [show j = k from by omega]; exact h
        have HF := Lib.hid (HNO.out k hlt)
        generalize l.getD k 0 = x at *
        by_cases g1 : x < -2147483648
        · have HR := Lib.hid (HF.out (by unfold okN; omega))
          go_wp2
          go_ret
          exact ⟨ret_bool HR.out.symm, rfl⟩
        · by_cases g2 : 2147483647 < x
          · have HR := Lib.hid (HF.out (by unfold okN; omega))
            go_wp2
            go_ret
            exact ⟨ret_bool HR.out.symm, rfl⟩
          · have HR := Lib.hid (HX.out (by unfold okN; omega))
            go_wp2
            go_round
            case rel => exact ⟨k + 1, by omega, by go_num, HR.out⟩
            case measure => simp [intOf]; omega
      · obtain rfl : k = N := by omega
        go_wp2
        go_ret
        exact ⟨ret_bool (HYES.out HE.out).symm, rfl⟩
  · rw [isV_no h]
    exact ref_is_no A l.length c d w h
theorem ref_parts_no (A : Option Addr) (N c : Nat) (d : Int) (w : World) (h : ¬ (1 ≤ d ∧ d ≤ 8 ∧ (N : Int) = d)) :
    Calls Try.prog 131 #[.slice A N c, .int .i64 d] w fun e w' => e = .returned (.bool false) ∧ w = w' := by
  by_cases g1 : d < 1
  · clear h
    go_enter Try.func131, Try.ntmps131
    go_wp2
    go_ret
    exact ⟨rfl, rfl⟩
  · by_cases g2 : 8 < d
    · clear h
      go_enter Try.func131, Try.ntmps131
      go_wp2
      go_ret
      exact ⟨rfl, rfl⟩
    · have g3 : ((N : Int) != d) = true := by simp; omega
      clear h
      go_enter Try.func131, Try.ntmps131
      go_wp2
      go_ret
      exact ⟨rfl, rfl⟩
/-- some of the first k is not 0 -/
def someK (l : List Int) : Nat → Bool
  | 0 => false
  | k + 1 => someK l k || (l.getD k 0 != 0)
theorem someK_iff (l : List Int) (k : Nat) : someK l k = true ↔ ∃ j, j < k ∧ l.getD j 0 ≠ 0 := by
  induction k with
  | zero => simp [someK]
  | succ k ih =>
    simp only [someK, Bool.or_eq_true, ih, bne_iff_ne]
    constructor
    · rintro (⟨j, h1, h2⟩ | h)
      · exact ⟨j, by omega, h2⟩
      · exact ⟨k, by omega, h⟩
    · rintro ⟨j, h1, h2⟩
      rcases Nat.lt_or_ge j k with g | g
      · exact .inl ⟨j, g, h2⟩
      · right; rw [show k = j from by omega]; exact h2
set_option maxHeartbeats 1000000 in
theorem ref_parts (A : Option Addr) (l : List Int) (c B : Nat) (d : Int) (w : World) (hA : Lies w B A l) :
    Calls Try.prog 131 #[.slice A l.length c, .int .i64 d] w fun e w' => e = .returned (.bool (partsV l d)) ∧ w = w' := by
  by_cases h : 1 ≤ d ∧ d ≤ 8 ∧ (l.length : Int) = d
  · obtain ⟨h1, h2, rfl⟩ := h
    have HA := Lib.hid hA
    have HYES : Hid ((∀ j, j < l.length → okC (l.getD j 0)) → someK l l.length = partsV l l.length) := fun h => by
      show _ = _
      rw [Bool.eq_iff_iff, someK_iff, partsV_iff]
      constructor
      · rintro ⟨j, g1, g2⟩
        exact ⟨h1, h2, rfl, all_getD (P := okC) h, _, mem_getD g1, g2⟩
      · rintro ⟨_, _, _, _, x, hx, hx0⟩
        obtain ⟨j, hj, rfl⟩ := List.mem_iff_getElem.1 hx
        exact ⟨j, hj, by rw [List.getD_eq_getElem?_getD, List.getElem?_eq_getElem hj]; exact hx0⟩
    have HNO : Hid (∀ k, k < l.length → ¬ okC (l.getD k 0) → partsV l l.length = false) := fun k hk h => by
      rw [Bool.eq_false_iff]; intro g; exact h ((partsV_iff.1 g).2.2.2.1 _ (mem_getD hk))
    generalize partsV l l.length = R at *
    clear hA
    generalize hN : l.length = N at *
    have HN := Lib.hid hN
    clear hN
    go_enter Try.func131, Try.ntmps131
    go_wp2
    go_loop [5, 6] (fun s i => ∃ k : Nat, k ≤ N ∧ i = .int .i64 k ∧ s = .bool (someK l k) ∧ Hid (∀ j, j < k → okC (l.getD j 0))) (fun _ i => N - (intOf i).toNat)
    case atStart => exact ⟨0, by omega, rfl, rfl, fun j hj => absurd hj (by omega)⟩
    case round =>
      obtain ⟨k, hk, rfl, rfl, HE⟩ := hrel
      by_cases hlt : k < N
      · obtain ⟨ad, rfl, _, hc1⟩ := HA.out.at (k := k) (by have := HN.out; omega)
        have HX : Hid (okC (l.getD k 0) → ∀ j, j < k + 1 → okC (l.getD j 0)) := fun h j hj => by
          rcases Nat.lt_or_ge j k with g | g
          · exact HE.out j g
          · rw [show j = k from by omega]; exact h
        have HF := Lib.hid (HNO.out k hlt)
        have HS : Hid (someK l (k + 1) = (someK l k || (l.getD k 0 != 0))) := rfl
        generalize l.getD k 0 = x at *
        generalize someK l k = s at *
        by_cases g1 : x < -4
        · have HR := Lib.hid (HF.out (by unfold okC; omega))
          go_wp2
          go_ret
          exact ⟨ret_bool HR.out.symm, rfl⟩
        · by_cases g2 : 4 < x
          · have HR := Lib.hid (HF.out (by unfold okC; omega))
            go_wp2
            go_ret
            exact ⟨ret_bool HR.out.symm, rfl⟩
          · have HR := Lib.hid (HX.out (by unfold okC; omega))
            cases s
            all_goals
              go_wp2
              go_round
              case rel => exact ⟨k + 1, by omega, by go_num, by rw [HS.out]; simp, HR.out⟩
              case measure => simp [intOf]; omega
      · obtain rfl : k = N := by omega
        go_wp2
        go_ret
        exact ⟨ret_bool (HYES.out HE.out), rfl⟩
  · rw [partsV_no h]
    exact ref_parts_no A l.length c d w h
end Go.Proofs.Ytehekdahlnpldaa
