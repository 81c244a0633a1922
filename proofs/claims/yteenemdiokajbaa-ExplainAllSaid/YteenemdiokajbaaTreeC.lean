import Derived.Test.YteenemdiokajbaaTreeB
import Derived.Test.YteenemdiokajbaaNumLog

/-! Layer 10: the reference's Is. -/
namespace Go.Proofs.Yteenemdiokajbaa
open Go.RowKit
set_option linter.unusedVariables false
set_option linter.unusedSimpArgs false

theorem isT_no {N : List TN} {dim : Int} (h : ¬ (1 ≤ dim ∧ dim ≤ 8 ∧ 0 < N.length ∧ 1 ≤ (N.getD 0 tn0).sz ∧ (N.getD 0 tn0).sz ≤ 64)) : isT N dim = false := by
  unfold isT
  exact decide_eq_false (fun g => h ⟨g.1, g.2.1, g.2.2.1, g.2.2.2.1, g.2.2.2.2.1⟩)
theorem isT_end {N : List TN} {dim : Int} (h : 1 ≤ dim ∧ dim ≤ 8 ∧ 0 < N.length ∧ 1 ≤ (N.getD 0 tn0).sz ∧ (N.getD 0 tn0).sz ≤ 64) : isT N dim = decide (endR N dim (lgT (N.getD 0 tn0).sz + 1) 0 = N.length) := by
  unfold isT
  rw [decide_eq_decide]
  exact ⟨fun g => g.2.2.2.2.2, fun g => ⟨h.1, h.2.1, h.2.2.1, h.2.2.2.1, h.2.2.2.2, g⟩⟩
set_option maxRecDepth 100000 in
set_option maxHeartbeats 4000000 in
theorem ref_isT (N : List TN) (dim : Int) (A : Option Addr) (c B : Nat) (w : World) (hl : N.length ≤ 100000) (hA : LiesT w B A N) (hB : B ≤ w.heap.size) :
    Calls Try.prog 16 #[.agg #[.int .i64 dim, .slice A N.length c]] w fun e w' => e = .returned (.bool (isT N dim)) ∧ Below w.heap.size w w' := by
  have HX := Lib.hid ((Kpc.start w).alloc #[.int .i64 dim, .slice A N.length c] 24)
  obtain ⟨y0, y1⟩ := box_cut HX.out.head
  by_cases h1 : dim < 1
  · rw [isT_no (fun h => by omega)]
    clear hA
    generalize N.length = M at *
    go_enter Try.func16, Try.ntmps16
    go_wp2
    go_ret
    exact ⟨rfl, HX.out.2.1⟩
  · by_cases h2 : 8 < dim
    · rw [isT_no (fun h => by omega)]
      clear hA
      generalize N.length = M at *
      go_enter Try.func16, Try.ntmps16
      go_wp2
      go_ret
      exact ⟨rfl, HX.out.2.1⟩
    · by_cases h3 : N.length = 0
      · rw [isT_no (fun h => by omega), h3]
        rw [h3] at HX y1
        clear hA
        go_enter Try.func16, Try.ntmps16
        go_wp2
        go_ret
        exact ⟨rfl, HX.out.2.1⟩
      · obtain ⟨ad, e0, hab, _, hli⟩ := hA.at (k := 0) (by omega)
        obtain ⟨ad1, e1, _, ⟨c0, c1, c2, c3, c4⟩, _⟩ := (hA.below (HX.out.2.1.mono hB)).at (k := 0) (by omega)
        cases e0
        cases e1
        simp only [Nat.zero_mul, add_zero'] at c4
        have KE : Hid (∀ (k : Nat) W (h : Below w.heap.size w W), k ≤ 900 → Calls Try.prog 45 #[.agg #[.int .i64 dim, .slice (some ad) N.length c], .int .i64 0, .int .i64 k] W fun e w' => e = .returned (.int .i64 (endR N dim (k + 1) 0)) ∧ Below W.heap.size W w') := fun k W h hk => by
          have := ref_end N dim (some ad) c B hl (k + 1) 0 (by omega) W (hA.below (h.mono hB)) (Nat.le_trans hB h.size)
          rw [show (((k + 1 : Nat) : Int) - 1) = (k : Int) from by omega] at this
          exact this
        have HNO := Lib.hid (fun h => isT_no (N := N) (dim := dim) h)
        have HEN := Lib.hid (fun h => isT_end (N := N) (dim := dim) h)
        have h0 : 0 < N.length := by omega
        generalize (N.getD 0 tn0).sz = s at *
        generalize isT N dim = R at *
        clear hA hli c0 c1 c2 c3
        generalize N.length = M at *
        have hg : (0 : Int) < (M : Int) := by omega
        have hz : ((M : Int) == 0) = false := by rw [beq_eq_false_iff_ne]; omega
        by_cases h4 : 1 ≤ s
        · by_cases h5 : s ≤ 64
          · have hR := HEN.out ⟨by omega, by omega, h0, h4, h5⟩
            have KL := Lib.hid (fun W => ref_log s (by unfold I64; omega) W)
            have HLG := Lib.hid (fun k h => log_lgT (n := s) (k := k) h h5)
            have KE1 := Lib.hid (fun W h => KE.out (lgT s) W h (by unfold lgT; split <;> (try split) <;> (try split) <;> (try split) <;> (try split) <;> (try split) <;> omega))
            generalize endR N dim (lgT s + 1) 0 = E at *
            generalize lgT s = lg at *
            have HR := Lib.hid hR
            clear HNO HEN KE hR
            have d1 : decide (1 ≤ s) = true := by simp; omega
            have d2 : decide (s ≤ 64) = true := by simp; omega
            go_enter Try.func16, Try.ntmps16
            go_wp2
            have JD := Lib.hid HX.out.drew
            obtain ⟨y0, y1⟩ := box_cut JD.out.head
            go_region_held3 (fun W => W.cell? ⟨w.heap.size, 0, none⟩ = some (.int .i64 dim) ∧ W.cell? ⟨w.heap.size, 1, none⟩ = some (.slice (some ad) M c)) (go_keep)
              (first
                | (go_at_call 46; ((refine (KL.out _).mono ?_); rintro e w3 ⟨k, hk, rfl, rfl⟩; obtain rfl := HLG.out k hk))
                | (go_at_call 45; ((refine (KE1.out _ JD.out.2.1).mono ?_); rintro e w4 ⟨rfl, b4⟩; have JD := Lib.hid (JD.out.below b4); obtain ⟨y0, y1⟩ := box_cut JD.out.head; clear b4)))
            all_goals
              go_wp2
              go_ret
              rw [HR.out]
              refine ⟨?_, JD.out.2.1⟩
              refine congrArg (fun b => Ending.returned (.bool b)) (?_ : (_ : Bool) = _)
              rw [Bool.eq_iff_iff]
              simp
          · have hR := HNO.out (fun h => h5 h.2.2.2.2)
            have HR := Lib.hid hR
            have d1 : decide (1 ≤ s) = true := by simp; omega
            have d2 : decide (s ≤ 64) = false := by simp; omega
            clear hR HNO HEN KE
            go_enter Try.func16, Try.ntmps16
            go_wp2
            go_quiet (fail)
            go_wp2
            go_ret
            rw [HR.out]
            exact ⟨rfl, below_drewN2 HX.out.2.1 nq⟩
        · have hR := HNO.out (fun h => h4 h.2.2.2.1)
          have HR := Lib.hid hR
          have d1 : decide (1 ≤ s) = false := by simp; omega
          clear hR HNO HEN KE
          go_enter Try.func16, Try.ntmps16
          go_wp2
          go_quiet (fail)
          go_wp2
          go_ret
          rw [HR.out]
          exact ⟨rfl, below_drewN2 HX.out.2.1 nq⟩
end Go.Proofs.Yteenemdiokajbaa
