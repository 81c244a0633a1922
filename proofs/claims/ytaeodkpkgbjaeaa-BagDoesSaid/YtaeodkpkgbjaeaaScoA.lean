/- Contracts of package score and its reference: Of, Is, order, Odder. -/
import Derived.Test.YtaeodkpkgbjaeaaScoM
import Derived.Test.YtaeodkpkgbjaeaaBigC
import Derived.Test.YtaeodkpkgbjaeaaBigD
import Derived.Outline
import Derived.BigQuiet
import Derived.Deep.QuietTactic
namespace Go.Proofs.Ytaeodkpkgbjaeaa
open Go.RowKit
set_option linter.unusedVariables false
set_option linter.unusedSimpArgs false
set_option maxRecDepth 100000

abbrev scV (s t : Int) : Value := .tuple #[.agg #[.int .i64 (scP s t), .int .i64 (scQ s t)], .int .i64 (scE s t)]
theorem scV_out {s t : Int} (h : ¬ SumOk s t) : Ending.returned (.tuple #[.agg #[.int .i64 0, .int .i64 0], .int .i64 1]) = .returned (scV s t) := by
  unfold scV scP scQ scE; rw [if_neg h, if_neg h, if_neg h]
theorem scV_in {s t : Int} (h : SumOk s t) : Ending.returned (.tuple #[.agg #[.int .i64 (s / (Int.gcd s t)), .int .i64 (t / (Int.gcd s t))], .int .i64 0]) = .returned (scV s t) := by
  unfold scV scP scQ scE
  rw [if_pos h, if_pos h, if_pos h]
theorem scV_ok {p q : Int} (h : ScoOk p q) : scV p q = .tuple #[.agg #[.int .i64 p, .int .i64 q], .int .i64 0] := by
  obtain ⟨-, h1, h2, h3⟩ := sc_same h
  unfold scV; rw [h1, h2, h3]
/-- what a greatest divisor tells, where both numbers are allowed -/
theorem num_gcd_sum {s t : Int} (h : SumOk s t) (W : World) : Calls Try.prog 219 #[.int .i64 s, .int .i64 t] W fun e w' => e = .returned (.tuple #[.int .i64 (Int.gcd s t), .int .i64 0]) ∧ Below W.heap.size W w' := by
  obtain ⟨h1, h2, h3, h4⟩ := id h
  have hg : Int.gcd s t ≤ 9223372036854775807 := by have := (gcd_pos_sum h).2; omega
  have k := num_gcd s t ⟨by omega, by omega⟩ ⟨by omega, by omega⟩ W
  rw [← gcdV_in rfl hg] at k
  refine k.mono fun e w' h => ?_
  obtain ⟨he, n, rfl⟩ := h
  exact ⟨he, below_drewN (Below.refl _ _) n⟩
theorem ref_gcd_sum {s t : Int} (h : SumOk s t) (W : World) : Calls Try.prog 90 #[.int .i64 s, .int .i64 t] W fun e w' => e = .returned (.tuple #[.int .i64 (Int.gcd s t), .int .i64 0]) ∧ Below W.heap.size W w' := by
  obtain ⟨h1, h2, h3, h4⟩ := id h
  have hg : Int.gcd s t ≤ 9223372036854775807 := by have := (gcd_pos_sum h).2; omega
  have k := ref_gcd s t ⟨by omega, by omega⟩ ⟨by omega, by omega⟩ W
  rw [← gcdV_in rfl hg] at k
  exact k
theorem sum_cases (s t : Int) : (s < 0) ∨ (0 ≤ s ∧ 274877906944 < s) ∨ ((0 ≤ s ∧ s ≤ 274877906944) ∧ t < 1) ∨ ((0 ≤ s ∧ s ≤ 274877906944) ∧ 1 ≤ t ∧ 16 < t) ∨ SumOk s t := by
  unfold SumOk; omega
set_option maxHeartbeats 2000000 in
theorem sco_of (s t : Int) (hs : I64 s) (ht : I64 t) (w : World) : Calls Try.prog 189 #[.int .i64 s, .int .i64 t] w fun e w' => e = .returned (scV s t) ∧ Below w.heap.size w w' := by
  have J0 := Lib.hid ((Keeps.start w).alloc #[.int .i64 0, .int .i64 0] 24)
  by_cases hok : SumOk s t
  · have KG := Lib.hid (fun W => num_gcd_sum hok W)
    have HR := Lib.hid (scV_in hok)
    obtain ⟨g0, g1⟩ := gcd_pos_sum hok
    obtain ⟨h1, h2, h3, h4⟩ := hok
    have g2 : (1 : Int) ≤ (Int.gcd s t : Int) := by omega
    generalize (Int.gcd s t : Int) = g at *
    have gz : (g == 0) = false := by simp; omega
    have gm : ¬ (s = -9223372036854775808 ∧ g = -1) := by omega
    have gm2 : ¬ (t = -9223372036854775808 ∧ g = -1) := by omega
    clear g0
    go_enter Try.func189, Try.ntmps189
    go_wp2_with fail
    refine (KG.out _).mono ?_
    rintro r w1 ⟨rfl, b⟩
    have J1 := Lib.hid (J0.out.below b)
    obtain ⟨r0, r1, r2, r3⟩ := J1.out.head.two
    clear b
    go_wp2
    go_region
    all_goals
      go_wp2
      have Z := (J1.out).head.set2 (.int .i64 (s / g)) (.int .i64 (t / g))
      obtain ⟨k0, k1, _, _⟩ := Z.two
      refine bodyPost_ret (v := .tuple #[.agg #[.int .i64 (s / g), .int .i64 (t / g)], .int .i64 0]) ?_ rfl ⟨HR.out, ?_⟩
      · simp [results, Try.results189, go_sem, k0, k1]
      · exact ((J1.out.drew.2.1).setCell (p := ⟨w.heap.size, 0, none⟩) (by simp) _).setCell (p := ⟨w.heap.size, 1, none⟩) (by simp) _
  · have HR := Lib.hid (scV_out hok)
    have Z := Lib.hid (J0.out.head.set2 (.int .i64 0) (.int .i64 0))
    have E := Lib.hid (show Below w.heap.size w (((w.alloc (.cells #[.int .i64 0, .int .i64 0] 24)).setCell ⟨w.heap.size, 0, none⟩ (.int .i64 0)).setCell ⟨w.heap.size, 1, none⟩ (.int .i64 0)) from ((J0.out.2.1).setCell (p := ⟨w.heap.size, 0, none⟩) (by simp) _).setCell (p := ⟨w.heap.size, 1, none⟩) (by simp) _)
    rcases sum_cases s t with h | ⟨h, h'⟩ | ⟨⟨h, h'⟩, h''⟩ | ⟨⟨h, h'⟩, h'', h3⟩ | h
    · clear hok
      go_enter Try.func189, Try.ntmps189
      go_wp2
      refine bodyPost_ret (v := .tuple #[.agg #[.int .i64 0, .int .i64 0], .int .i64 1]) ?_ rfl ⟨HR.out, J0.out.2.1⟩
      simp [results, Try.results189, go_sem]
    · have g : ¬ s < 0 := by omega
      clear hok
      go_enter Try.func189, Try.ntmps189
      go_wp2
      refine bodyPost_ret (v := .tuple #[.agg #[.int .i64 0, .int .i64 0], .int .i64 1]) ?_ rfl ⟨HR.out, J0.out.2.1⟩
      simp [results, Try.results189, go_sem]
    · clear hok
      go_enter Try.func189, Try.ntmps189
      go_wp2
      refine bodyPost_ret (v := .tuple #[.agg #[.int .i64 0, .int .i64 0], .int .i64 1]) ?_ rfl ⟨HR.out, J0.out.2.1⟩
      simp [results, Try.results189, go_sem]
    · clear hok
      go_enter Try.func189, Try.ntmps189
      go_wp2
      refine bodyPost_ret (v := .tuple #[.agg #[.int .i64 0, .int .i64 0], .int .i64 1]) ?_ rfl ⟨HR.out, J0.out.2.1⟩
      simp [results, Try.results189, go_sem]
    · exact absurd h hok
/-- two scores are the same -/
theorem same_two (a b c d : Int) : (decide (a = c) && decide (b = d)) = decide (a = c ∧ b = d) := by
  by_cases h : a = c <;> by_cases g : b = d <;> simp [h, g]
theorem scoB_of {p q : Int} (h : ScoOk p q) : scoB p q = true := decide_eq_true h
theorem scoB_no {p q : Int} (h : ¬ ScoOk p q) : scoB p q = false := decide_eq_false h
theorem sco_eq {p q : Int} (h : scE p q = 0) : (scP p q == p && scQ p q == q) = scoB p q := by
  by_cases hv : ScoOk p q
  · obtain ⟨-, h1, h2⟩ := (sco_iff p q).1 hv
    rw [scoB_of hv, h1, h2]; simp
  · rw [scoB_no hv]
    by_cases h1 : scP p q = p
    · have : ¬ scQ p q = q := fun h2 => hv ((sco_iff p q).2 ⟨h, h1, h2⟩)
      simp [h1, this]
    · simp [h1]
set_option maxHeartbeats 2000000 in
theorem sco_is (p q : Int) (hp : I64 p) (hq : I64 q) (w : World) : Calls Try.prog 144 #[.agg #[.int .i64 p, .int .i64 q]] w fun e w' => e = .returned (.bool (scoB p q)) ∧ Below w.heap.size w w' := by
  have J0 := Lib.hid ((Keeps.start w).alloc #[.int .i64 p, .int .i64 q] 24)
  have K := Lib.hid (fun W => sco_of p q hp hq W)
  have HE := Lib.hid (@sco_eq p q)
  have HN : Hid (scE p q ≠ 0 → false = scoB p q) := fun h => (scoB_no fun hv => h (sc_same hv).2.2.2).symm
  generalize scoB p q = B at *
  unfold scV at K
  generalize scP p q = P at *
  generalize scQ p q = Q at *
  generalize scE p q = E at *
  by_cases h : E = 0
  · subst h
    have HE := Lib.hid (HE.out rfl)
    clear HN
    by_cases hP : P = p
    · subst hP
      by_cases hQ : Q = q
      · subst hQ
        have HR : Hid (B = true) := by show _ = _; rw [← HE.out]; simp
        clear HE
        go_enter Try.func144, Try.ntmps144
        obtain ⟨r0, r1, r2, r3⟩ := J0.out.head.two
        go_wp2_with fail
        refine (K.out _).mono ?_
        rintro r w1 ⟨rfl, b⟩
        have J1 := Lib.hid ((J0.out.below b).alloc #[.int .i64 P, .int .i64 Q] 24)
        obtain ⟨x0, x1, x2, x3⟩ := J1.out.head.two
        obtain ⟨r0, r1, r2, r3⟩ := J1.out.tail.head.two
        clear b
        go_wp2
        go_ret
        exact ⟨by rw [HR.out]; rfl, J1.out.2.1⟩
      · have HR : Hid (B = false) := by show _ = _; rw [← HE.out]; simp [hQ]
        clear HE
        go_enter Try.func144, Try.ntmps144
        obtain ⟨r0, r1, r2, r3⟩ := J0.out.head.two
        go_wp2_with fail
        refine (K.out _).mono ?_
        rintro r w1 ⟨rfl, b⟩
        have J1 := Lib.hid ((J0.out.below b).alloc #[.int .i64 P, .int .i64 Q] 24)
        obtain ⟨x0, x1, x2, x3⟩ := J1.out.head.two
        obtain ⟨r0, r1, r2, r3⟩ := J1.out.tail.head.two
        clear b
        go_wp2
        go_ret
        exact ⟨by rw [HR.out]; rfl, J1.out.2.1⟩
    · have HR : Hid (B = false) := by show _ = _; rw [← HE.out]; simp [hP]
      clear HE
      go_enter Try.func144, Try.ntmps144
      obtain ⟨r0, r1, r2, r3⟩ := J0.out.head.two
      go_wp2_with fail
      refine (K.out _).mono ?_
      rintro r w1 ⟨rfl, b⟩
      have J1 := Lib.hid ((J0.out.below b).alloc #[.int .i64 P, .int .i64 Q] 24)
      obtain ⟨x0, x1, x2, x3⟩ := J1.out.head.two
      obtain ⟨r0, r1, r2, r3⟩ := J1.out.tail.head.two
      clear b
      go_wp2
      go_ret
      exact ⟨by rw [HR.out]; rfl, J1.out.2.1⟩
  · have HR := Lib.hid (HN.out h)
    have hb : (E == 0) = false := by simpa using h
    clear HN HE
    go_enter Try.func144, Try.ntmps144
    obtain ⟨r0, r1, r2, r3⟩ := J0.out.head.two
    go_wp2_with fail
    refine (K.out _).mono ?_
    rintro r w1 ⟨rfl, b⟩
    have J1 := Lib.hid ((J0.out.below b).alloc #[.int .i64 P, .int .i64 Q] 24)
    clear b
    go_wp2
    go_ret
    exact ⟨by rw [← HR.out]; rfl, J1.out.2.1⟩
theorem sco_cases (p q : Int) : (q < 1) ∨ (1 ≤ q ∧ 16 < q) ∨ ((1 ≤ q ∧ q ≤ 16) ∧ p < 0) ∨ ((1 ≤ q ∧ q ≤ 16) ∧ 0 ≤ p ∧ 274877906944 < p) ∨ SumOk p q := by
  unfold SumOk; omega
set_option maxHeartbeats 2000000 in
theorem ref13_is (p q : Int) (w : World) : Calls Try.prog 26 #[.agg #[.int .i64 p, .int .i64 q]] w fun e w' => e = .returned (.bool (scoB p q)) ∧ Below w.heap.size w w' := by
  have J0 := Lib.hid ((Keeps.start w).alloc #[.int .i64 p, .int .i64 q] 24)
  by_cases hok : SumOk p q
  · have KG := Lib.hid (fun W => ref_gcd_sum hok W)
    have HR : Hid (((Int.gcd p q : Int) == 1) = scoB p q) := by
      show _ = _
      obtain ⟨h1, h2, h3, h4⟩ := hok
      by_cases hg : Int.gcd p q = 1
      · rw [scoB_of ⟨h3, h4, h1, h2, hg⟩, hg]; rfl
      · rw [scoB_no fun h => hg h.2.2.2.2]; simp; omega
    obtain ⟨h1, h2, h3, h4⟩ := hok
    generalize (Int.gcd p q : Int) = g at *
    generalize scoB p q = B at *
    go_enter Try.func26, Try.ntmps26
    obtain ⟨r0, r1, r2, r3⟩ := J0.out.head.two
    go_wp2_with fail
    refine (KG.out _).mono ?_
    rintro r w1 ⟨rfl, b⟩
    have J1 := Lib.hid (J0.out.below b)
    clear b
    go_wp2
    go_ret
    exact ⟨by rw [← HR.out]; rfl, J1.out.2.1⟩
  · have HR : Hid (false = scoB p q) := (scoB_no fun hv => hok (sc_same hv).1).symm
    generalize scoB p q = B at *
    rcases sco_cases p q with h | ⟨h, h'⟩ | ⟨⟨h, h'⟩, h''⟩ | ⟨⟨h, h'⟩, h'', h3⟩ | h
    · clear hok
      go_enter Try.func26, Try.ntmps26
      obtain ⟨r0, r1, r2, r3⟩ := J0.out.head.two
      go_wp2
      go_ret
      exact ⟨by rw [← HR.out]; rfl, J0.out.2.1⟩
    · clear hok
      go_enter Try.func26, Try.ntmps26
      obtain ⟨r0, r1, r2, r3⟩ := J0.out.head.two
      go_wp2
      go_ret
      exact ⟨by rw [← HR.out]; rfl, J0.out.2.1⟩
    · clear hok
      go_enter Try.func26, Try.ntmps26
      obtain ⟨r0, r1, r2, r3⟩ := J0.out.head.two
      go_wp2
      go_ret
      exact ⟨by rw [← HR.out]; rfl, J0.out.2.1⟩
    · clear hok
      go_enter Try.func26, Try.ntmps26
      obtain ⟨r0, r1, r2, r3⟩ := J0.out.head.two
      go_wp2
      go_ret
      exact ⟨by rw [← HR.out]; rfl, J0.out.2.1⟩
    · exact absurd h hok
end Go.Proofs.Ytaeodkpkgbjaeaa
