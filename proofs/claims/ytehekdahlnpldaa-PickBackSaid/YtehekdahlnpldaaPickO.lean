import Derived.Test.YtehekdahlnpldaaPickP

/-! Layer 7: Play, Back, Sample, Perm. -/
namespace Go.Proofs.Ytehekdahlnpldaa
open Go.RowKit
set_option linter.unusedVariables false
set_option linter.unusedSimpArgs false

theorem pick_Back (A : Option Addr) (s : List Int) (c : Nat) (n : Int) (w : World) (hA : Lies w w.heap.size A s) (hi : ∀ x ∈ s, I64 x) (hl : (s.length : Int) ≤ 9223372036854775807) :
    Calls Try.prog 22 #[.int .i64 n, .slice A s.length c] w (GivesP (backV n s) w) := by
  have KW := Lib.hid (pick_within n 0 256 w)
  by_cases h1 : 0 ≤ n ∧ n ≤ 256
  · rw [show decide (0 ≤ n ∧ n ≤ 256) = true from by simp; omega] at KW
    have KD := Lib.hid (pick_different A s c n w hA hi h1.1 h1.2 hl)
    by_cases h2 : diffV s n
    · rw [show decide (diffV s n) = true from decide_eq_true h2] at KD
      have hok : backOk n s := ⟨h1.1, h1.2, h2⟩
      have hlen := backOk_len hok
      have HV := Lib.hid (back_yes hok)
      obtain ⟨N, rfl⟩ : ∃ N : Nat, n = N := ⟨n.toNat, by omega⟩
      have KP := Lib.hid (fun W (h : Below w.heap.size w W) => pick_picking A s c N W ((hA.below h).mono h.size) (by omega) (bckOk_iff.2 h2) h2.2 (by omega))
      clear hA hi h2 hok
      generalize backV N s = Z at *
      generalize hb : bckV s = b at *
      clear hb
      generalize s.length = M at *
      go_enter Try.func22, Try.ntmps22
      go_wp2_with fail
      refine KW.out.mono ?_
      rintro e1 w1 ⟨rfl, rfl⟩
      go_wp2_with fail
      refine KD.out.mono ?_
      rintro e1 w1 ⟨rfl, b1⟩
      have HB := Lib.hid b1
      clear b1
      go_wp2_with fail
      refine (KP.out _ HB.out).mono ?_
      rintro e1 w2 ⟨A1, c1, rfl, g1, g2, g3, g4, g5⟩
      go_wp2
      go_ret2
      rw [HV.out]
      exact ⟨A1, c1, rfl, g1, g2, g3, g4.mono HB.out.size, HB.out.trans (g5.mono HB.out.size)⟩
    · rw [show decide (diffV s n) = false from decide_eq_false h2] at KD
      rw [back_no (fun h => h2 h.2.2)]
      clear hA hi h2
      generalize s.length = M at *
      go_enter Try.func22, Try.ntmps22
      go_wp2_with fail
      refine KW.out.mono ?_
      rintro e1 w1 ⟨rfl, rfl⟩
      go_wp2_with fail
      refine KD.out.mono ?_
      rintro e1 w1 ⟨rfl, b1⟩
      go_wp2
      go_ret2
      exact givesP_nil b1
  · rw [show decide (0 ≤ n ∧ n ≤ 256) = false from by simp; omega] at KW
    rw [back_no (fun h => h1 ⟨h.1, h.2.1⟩)]
    clear hA hi h1
    generalize s.length = M at *
    go_enter Try.func22, Try.ntmps22
    go_wp2_with fail
    refine KW.out.mono ?_
    rintro e1 w1 ⟨rfl, rfl⟩
    go_wp2
    go_ret2
    exact givesP_nil (Below.refl _ _)
set_option maxHeartbeats 2000000 in
theorem pick_Play (A : Option Addr) (p : List Int) (c : Nat) (n : Int) (w : World) (hA : Lies w w.heap.size A p) :
    Calls Try.prog 24 #[.int .i64 n, .slice A p.length c] w (GivesP (playV n p) w) := by
  have KW := Lib.hid (pick_within n 0 256 w)
  by_cases h1 : 0 ≤ n ∧ n ≤ 256
  · rw [show decide (0 ≤ n ∧ n ≤ 256) = true from by simp; omega] at KW
    obtain ⟨N, rfl⟩ : ∃ N : Nat, n = N := ⟨n.toNat, by omega⟩
    by_cases h2 : (N : Int) < (p.length : Int)
    · rw [play_no (fun h => by have := h.2.2.1; omega)]
      clear hA
      generalize p.length = M at *
      go_enter Try.func24, Try.ntmps24
      go_wp2_with fail
      refine KW.out.mono ?_
      rintro e1 w1 ⟨rfl, rfl⟩
      go_wp2
      go_ret2
      exact givesP_nil (Below.refl _ _)
    · have HNO : Hid (∀ k, k < p.length → ¬ (0 ≤ p.getD k 0 ∧ p.getD k 0 ≤ N - k - 1) → playV N p = ([], false)) := fun k hk hn => play_no (fun h => hn (h.2.2.2 k hk))
      have HYES : Hid ((∀ k : Nat, k < p.length → 0 ≤ p.getD k 0 ∧ p.getD k 0 ≤ N - k - 1) → playV N p = (plyV p, true)) := fun h => play_yes ⟨by omega, by omega, by omega, h⟩
      have KP := Lib.hid (fun h => pick_picked A p c N w hA (by omega) h (by omega))
      have HLI := Lib.hid hA
      have KX := Lib.hid (fun x k => pick_within x 0 ((N : Int) - (k : Int) - 1) w)
      generalize playV N p = Z at *
      generalize hb : plyV p = b at *
      clear hA hb
      generalize hM : p.length = M at *
      have HM := Lib.hid hM
      clear hM
      have h2n : decide (N < M) = false := by simp; omega
      have h2m : ¬ N < M := by omega
      go_enter Try.func24, Try.ntmps24
      go_wp2_with fail
      refine KW.out.mono ?_
      rintro e1 w1 ⟨rfl, rfl⟩
      go_wp2
      go_loopw [19] (fun i wr => ∃ k : Nat, k ≤ M ∧ i = .int .i64 k ∧ wr = w ∧ Hid (∀ j : Nat, j < k → 0 ≤ p.getD j 0 ∧ p.getD j 0 ≤ N - j - 1)) (fun i _ => M - (intOf i).toNat)
      case atStart => exact ⟨0, by omega, rfl, rfl, fun j hj => absurd hj (by omega)⟩
      case round =>
        obtain ⟨k, hk, rfl, rfl, HQ⟩ := hrel
        by_cases hlt : k < M
        · have hlg : (k : Int) < (M : Int) := by omega
          obtain ⟨ad, rfl, hab, hcell⟩ := HLI.out.at (k := k) (by have := HM.out; omega)
          have HFk := Lib.hid (HNO.out k hlt)
          have HQk : Hid ((0 ≤ p.getD k 0 ∧ p.getD k 0 ≤ N - k - 1) → ∀ j : Nat, j < k + 1 → 0 ≤ p.getD j 0 ∧ p.getD j 0 ≤ N - j - 1) := fun h j hj => by
            rcases Nat.lt_or_ge j k with g | g
            · exact HQ.out j g
            · rw [show j = k from by omega]; exact h
          have KXk := Lib.hid (KX.out (p.getD k 0) k)
          generalize p.getD k 0 = x at *
          by_cases hx : 0 ≤ x ∧ x ≤ N - k - 1
          · rw [show decide (0 ≤ x ∧ x ≤ N - k - 1) = true from by simp; omega] at KXk
            have HQ2 := Lib.hid (HQk.out hx)
            clear hx
            go_wp2_with fail
            refine KXk.out.mono ?_
            rintro e1 w2 ⟨rfl, rfl⟩
            go_wp2
            go_roundw
            case rel => exact ⟨k + 1, by omega, by go_num, by first | trivial | rfl, HQ2.out⟩
            case measure => first | (simp [intOf]; done) | (simp [intOf]; omega)
          · rw [show decide (0 ≤ x ∧ x ≤ N - k - 1) = false from by simp; omega] at KXk
            have HZ := Lib.hid (HFk.out hx)
            clear hx
            go_wp2_with fail
            refine KXk.out.mono ?_
            rintro e1 w2 ⟨rfl, rfl⟩
            go_wp2
            go_ret2
            rw [HZ.out]
            exact givesP_nil (Below.refl _ _)
        · obtain rfl : k = M := by omega
          have HZ := Lib.hid (HYES.out HQ.out)
          have KPP := Lib.hid (KP.out (fun j hj => HQ.out j (by have := HM.out; omega)))
          go_wp2_with fail
          refine KPP.out.mono ?_
          rintro e1 w2 ⟨A1, c1, rfl, g1, g2, g3, g4, g5⟩
          go_wp2
          go_ret2
          rw [HZ.out]
          exact ⟨A1, c1, rfl, g1, g2, g3, g4, g5⟩
  · rw [show decide (0 ≤ n ∧ n ≤ 256) = false from by simp; omega] at KW
    rw [play_no (fun h => h1 ⟨h.1, h.2.1⟩)]
    clear hA h1
    generalize p.length = M at *
    go_enter Try.func24, Try.ntmps24
    go_wp2_with fail
    refine KW.out.mono ?_
    rintro e1 w1 ⟨rfl, rfl⟩
    go_wp2
    go_ret2
    exact givesP_nil (Below.refl _ _)
end Go.Proofs.Ytehekdahlnpldaa
