import Derived.Test.YtehekdahlnpldaaVecC

/-! Package vec: In; the reference's Same, Is, Parts. -/
namespace Go.Proofs.Ytehekdahlnpldaa
open Go.RowKit
set_option linter.unusedVariables false
set_option linter.unusedSimpArgs false

/-- whether v is nowhere below lo or above hi -/
def inV (lo hi v : List Int) : Bool := decide (lo.length = v.length ∧ hi.length = v.length ∧ ∀ j, j < v.length → lo.getD j 0 ≤ v.getD j 0 ∧ v.getD j 0 ≤ hi.getD j 0)
theorem inV_iff {lo hi v : List Int} : inV lo hi v = true ↔ lo.length = v.length ∧ hi.length = v.length ∧ ∀ j, j < v.length → lo.getD j 0 ≤ v.getD j 0 ∧ v.getD j 0 ≤ hi.getD j 0 := by unfold inV; exact decide_eq_true_iff
theorem inV_no {lo hi v : List Int} {k : Nat} (hk : k < v.length) (h : ¬ (lo.getD k 0 ≤ v.getD k 0 ∧ v.getD k 0 ≤ hi.getD k 0)) : inV lo hi v = false := by
  rw [Bool.eq_false_iff]; intro g; exact h ((inV_iff.1 g).2.2 k hk)
theorem inV_len {lo hi v : List Int} (h : ¬ (lo.length = v.length ∧ hi.length = v.length)) : inV lo hi v = false := by
  rw [Bool.eq_false_iff]; intro g; exact h ⟨(inV_iff.1 g).1, (inV_iff.1 g).2.1⟩
/-! ### the reference's -/
set_option maxHeartbeats 1000000 in
theorem ref_same1 (A A2 : Option Addr) (l m : List Int) (c c2 B : Nat) (w : World) (hA : Lies w B A l) (hA2 : Lies w B A2 m) (hl : (l.length : Int) ≤ 9223372036854775807) (hm : (m.length : Int) ≤ 9223372036854775807) :
    Calls Try.prog 20 #[.slice A l.length c, .slice A2 m.length c2] w fun e w' => e = .returned (.bool (decide (l = m))) ∧ ∃ n, w' = w.drewN n := by
  by_cases hlen : l.length = m.length
  · have HL := Lib.hid hlen
    rw [← hlen]
    have HA := Lib.hid hA
    have HA2 := Lib.hid hA2
    have HYES : Hid ((∀ j, j < l.length → l.getD j 0 = m.getD j 0) → decide (l = m) = true) := fun h => decide_eq_true (ext_getD hlen h)
    have HNO : Hid (∀ k : Nat, l.getD k 0 ≠ m.getD k 0 → decide (l = m) = false) := fun k h => decide_eq_false (fun e => h (by rw [e]))
    generalize decide (l = m) = R at *
    clear hA hA2 hlen
    generalize hN : l.length = N at *
    have HN := Lib.hid hN
    clear hN
    go_enter Try.func20, Try.ntmps20
    go_wp2
    go_loopw [5] (fun i wr => ∃ k : Nat, k ≤ N ∧ i = .int .i64 k ∧ Hid (∀ j, j < k → l.getD j 0 = m.getD j 0) ∧ Hid (∃ n, wr = w.drewN n)) (fun i _ => N - (intOf i).toNat)
    case atStart => exact ⟨0, by omega, rfl, fun j hj => absurd hj (by omega), ⟨0, rfl⟩⟩
    case round =>
      obtain ⟨k, hk, rfl, HE, HW⟩ := hrel
      by_cases hlt : k < N
      · have HAr : Hid (Lies wr B A l) := by obtain ⟨n, hn⟩ := HW.out; show Lies _ _ _ _; rw [hn]; exact HA.out
        have HAr2 : Hid (Lies wr B A2 m) := by obtain ⟨n, hn⟩ := HW.out; show Lies _ _ _ _; rw [hn]; exact HA2.out
        obtain ⟨ad, rfl, _, hc1⟩ := HAr.out.at (k := k) (by have := HN.out; omega)
        obtain ⟨ad2, rfl, _, hc2⟩ := HAr2.out.at (k := k) (by have := HL.out; have := HN.out; omega)
        have HX : Hid (l.getD k 0 = m.getD k 0 → ∀ j, j < k + 1 → l.getD j 0 = m.getD j 0) := fun h j hj => by
          rcases Nat.lt_or_ge j k with g | g
          · exact HE.out j g
          · rw [show j = k from by omega]; exact h
        have HF := Lib.hid (HNO.out k)
        generalize l.getD k 0 = x at *
        generalize m.getD k 0 = y at *
        have hji : (k : Int) < (N : Int) := by omega
        by_cases hxy : x = y
        · subst hxy
          have HR := Lib.hid (HX.out rfl)
          clear HF HX
          go_wp2
          go_quiet (fail)
          go_wp2
          exact ⟨⟨k + 1, by omega, by go_num, HR.out, (by obtain ⟨m, hm⟩ := HW.out; show ∃ _, _; rw [hm]; exact dre2' _ _ _)⟩, by first | (simp [intOf]; done) | (simp [intOf]; omega)⟩
        · have hne : (x != y) = true := by simpa using hxy
          have HR := Lib.hid (HF.out hxy)
          clear HF HX
          go_wp2
          go_quiet (fail)
          go_wp2
          go_ret
          exact ⟨ret_bool HR.out.symm, (by obtain ⟨m, hm⟩ := HW.out; rw [hm]; exact dre2' _ _ _)⟩
      · obtain rfl : k = N := by omega
        go_wp2
        go_ret
        exact ⟨ret_bool (HYES.out HE.out).symm, HW.out⟩
  · have hR : decide (l = m) = false := decide_eq_false (fun e => hlen (by rw [e]))
    rw [hR]
    clear hA hA2 hR
    generalize l.length = N at *
    generalize m.length = M at *
    have hne : ((N : Int) != (M : Int)) = true := by simp; omega
    clear hlen
    go_enter Try.func20, Try.ntmps20
    go_wp2
    go_ret
    exact ⟨rfl, 0, rfl⟩
end Go.Proofs.Ytehekdahlnpldaa
