/- Contracts of copseref03: part, Is, Of. -/
import Derived.Test.YtmfgegebnjpanaaRatA
import Derived.Test.YtmfgegebnjpanaaBigD
namespace Go.Proofs.Ytmfgegebnjpanaa
open Go.RowKit

theorem ref3_prt (n : Int) (w : World) : Calls Try.prog 128 #[.int .i64 n] w fun e w' => e = .returned (.bool (decide (Part n))) ∧ w = w' := by
  by_cases h1 : -1073741824 ≤ n
  · by_cases h2 : n ≤ 1073741824
    · have HR : Hid (decide (Part n) = true) := decide_eq_true ⟨h1, h2⟩
      go_enter Try.func128, Try.ntmps128
      go_wp2
      go_ret
      exact ⟨ret_b HR.out.symm, rfl⟩
    · have HR : Hid (decide (Part n) = false) := decide_eq_false fun h => h2 h.2
      go_enter Try.func128, Try.ntmps128
      go_wp2
      go_ret
      exact ⟨ret_b HR.out.symm, rfl⟩
  · have HR : Hid (decide (Part n) = false) := decide_eq_false fun h => h1 h.1
    go_enter Try.func128, Try.ntmps128
    go_wp2
    go_ret
    exact ⟨ret_b HR.out.symm, rfl⟩

/-- what Gcd tells, as two numbers -/
theorem ref_gcd2 (a b : Int) (ha : I64 a) (hb : I64 b) : ∃ g e : Int, (g = 1 ↔ Int.gcd a b = 1) ∧ (Int.gcd a b ≤ 9223372036854775807 → g = Int.gcd a b ∧ e = 0) ∧ (¬ Int.gcd a b ≤ 9223372036854775807 → g = 0 ∧ e = 10) ∧
    ∀ W, Calls Try.prog 88 #[.int .i64 a, .int .i64 b] W fun r w' => r = .returned (.tuple #[.int .i64 g, .int .i64 e]) ∧ Below W.heap.size W w' := by
  by_cases h : Int.gcd a b ≤ 9223372036854775807
  · refine ⟨Int.gcd a b, 0, by omega, fun _ => ⟨rfl, rfl⟩, fun hc => absurd h hc, fun W => ?_⟩
    have := ref_gcd a b ha hb W
    rw [← gcdV_in rfl h] at this
    exact this
  · refine ⟨0, 10, by omega, fun hc => absurd hc h, fun _ => ⟨rfl, rfl⟩, fun W => ?_⟩
    have := ref_gcd a b ha hb W
    rw [← gcdV_out rfl h] at this
    exact this

/-- both parts by what divides them -/
theorem of_parts {p q g : Int} (hg : g = Int.gcd p q) (h0 : q ≠ 0) (hq : I64 q) (hp : I64 p) :
    0 < g ∧ (-9223372036854775808 ≤ p.tdiv g ∧ p.tdiv g ≤ 9223372036854775807) ∧ (-9223372036854775808 ≤ q.tdiv g ∧ q.tdiv g ≤ 9223372036854775807) ∧
    (0 < q → 0 < q.tdiv g ∧ rX p q = p.tdiv g ∧ rY p q = q.tdiv g) ∧ (q < 0 → q.tdiv g < 0 ∧ rX p q = -(p.tdiv g) ∧ rY p q = -(q.tdiv g)) := by
  have hpos := gcd_pos (p := p) h0
  have e1 : p.tdiv g = p / g := Int.tdiv_eq_ediv_of_dvd (by rw [hg]; exact Int.gcd_dvd_left p q)
  have e2 : q.tdiv g = q / g := Int.tdiv_eq_ediv_of_dvd (by rw [hg]; exact Int.gcd_dvd_right p q)
  have hy := rY_pos (p := p) h0
  have b1 := tdiv_bd' (a := p) (b := g) (by omega) hp (by omega)
  have b2 := tdiv_bd' (a := q) (b := g) (by omega) hq (by omega)
  refine ⟨by omega, b1, b2, fun h => ?_, fun h => ?_⟩
  · have hd : dv p q = g := by unfold dv; rw [if_neg (by omega), hg]
    rw [e1, e2]
    unfold rX rY at *
    rw [hd] at hy ⊢
    exact ⟨hy, rfl, rfl⟩
  · have hd : dv p q = -g := by unfold dv; rw [if_pos h, hg]
    rw [e1, e2]
    unfold rX rY at *
    rw [hd, Int.ediv_neg] at hy
    rw [hd, Int.ediv_neg, Int.ediv_neg]
    exact ⟨by omega, rfl, rfl⟩
theorem part_neg {n : Int} : Part (-n) ↔ Part n := by unfold Part; omega
theorem big_gcd {p q : Int} (hg : ¬ Int.gcd p q ≤ 9223372036854775807) (h0 : q ≠ 0) (hq : I64 q) : q = -9223372036854775808 := by
  have h1 := Int.le_of_dvd (by have := gcd_pos (p := p) h0; omega : (0 : Int) < (q.natAbs : Int)) (show (Int.gcd p q : Int) ∣ (q.natAbs : Int) by rw [Int.dvd_natAbs]; exact Int.gcd_dvd_right p q)
  unfold I64 at hq
  omega
theorem big_num {p q : Int} (hg : ¬ Int.gcd p q ≤ 9223372036854775807) (hp0 : p ≠ 0) (hp : I64 p) : p = -9223372036854775808 := by
  have h1 := Int.le_of_dvd (by omega : (0 : Int) < (p.natAbs : Int)) (show (Int.gcd p q : Int) ∣ (p.natAbs : Int) by rw [Int.dvd_natAbs]; exact Int.gcd_dvd_left p q)
  unfold I64 at hp
  omega
set_option maxHeartbeats 2000000 in
theorem ref3_of (p q : Int) (hp : I64 p) (hq : I64 q) (w : World) : Calls Try.prog 98 #[.int .i64 p, .int .i64 q] w fun e w' => e = .returned (ofV p q) ∧ Below w.heap.size w w' := by
  have J0 := Lib.hid ((Keeps.start w).alloc #[.int .i64 0, .int .i64 0] 83)
  by_cases h0 : q = 0
  · subst h0
    go_enter Try.func98, Try.ntmps98
    go_wp2
    refine bodyPost_ret (v := .tuple #[.agg #[.int .i64 0, .int .i64 0], .int .i64 11]) ?_ rfl ⟨ofV_z, J0.out.2.1⟩
    simp [results, Try.results98, go_sem]
  obtain ⟨g, ge, -, hin, hout, K⟩ := ref_gcd2 p q hp hq
  have K := Lib.hid K
  have KP := Lib.hid ref3_prt
  have hqb : (q == 0) = false := by simpa using h0
  by_cases hg : Int.gcd p q ≤ 9223372036854775807
  · obtain ⟨hg1, rfl⟩ := hin hg
    obtain ⟨g0, ⟨bx1, bx2⟩, ⟨by1, by2⟩, hpos, hneg⟩ := of_parts hg1 h0 hq hp
    have gz : (g == 0) = false := by simp; omega
    have gm : ¬ (p = -9223372036854775808 ∧ g = -1) := by omega
    have gm2 : ¬ (q = -9223372036854775808 ∧ g = -1) := by omega
    clear hin hout hg1 hg
    by_cases h1 : Part (p.tdiv g)
    · have d1 : Hid (decide (Part (p.tdiv g)) = true) := decide_eq_true h1
      by_cases h2 : Part (q.tdiv g)
      · have d2 : Hid (decide (Part (q.tdiv g)) = true) := decide_eq_true h2
        rcases Int.lt_or_lt_of_ne h0 with hn | hn
        · obtain ⟨y0, e1, e2⟩ := hneg hn
          have HR : Hid (Ending.returned (.tuple #[.agg #[.int .i64 (-(p.tdiv g)), .int .i64 (-(q.tdiv g))], .int .i64 0]) = .returned (ofV p q)) := by
            have := ofV_in (p := p) (q := q) h0 (by rw [e1, e2, part_neg, part_neg]; exact ⟨h1, h2⟩)
            rw [e1, e2] at this
            exact this
          obtain ⟨c1, c2⟩ := id h1
          obtain ⟨c3, c4⟩ := id h2
          clear e1 e2 hneg hpos h1 h2
          go_enter Try.func98, Try.ntmps98
          go_wp2_with fail
          refine (K.out _).mono ?_
          rintro r w1 ⟨rfl, b⟩
          have J1 := Lib.hid (J0.out.below b)
          obtain ⟨r0, r1, r2, r3⟩ := J1.out.head.two
          clear b
          go_wp2_with fail
          go_quiet (fail)
          go_wp2_with fail
          refine (KP.out _ _).mono ?_
          rintro r w2 ⟨rfl, rfl⟩
          rw [d1.out]
          go_wp2_with fail
          refine (KP.out _ _).mono ?_
          rintro r w2 ⟨rfl, rfl⟩
          rw [d2.out]
          go_wp2
          have Z := (J1.out.head.drewN nq).set2 (.int .i64 (-(p.tdiv g))) (.int .i64 (-(q.tdiv g)))
          obtain ⟨k0, k1, _, _⟩ := Z.two
          refine bodyPost_ret (v := .tuple #[.agg #[.int .i64 (-(p.tdiv g)), .int .i64 (-(q.tdiv g))], .int .i64 0]) ?_ rfl ⟨HR.out, ?_⟩
          · simp [results, Try.results98, go_sem, k0, k1]
          · exact ((below_drewN J1.out.2.1 nq).setCell (p := ⟨w.heap.size, 0, none⟩) (by simp) _).setCell (p := ⟨w.heap.size, 1, none⟩) (by simp) _
        · obtain ⟨y0, e1, e2⟩ := hpos hn
          have y1 : ¬ q.tdiv g < 0 := by omega
          have HR : Hid (Ending.returned (.tuple #[.agg #[.int .i64 (p.tdiv g), .int .i64 (q.tdiv g)], .int .i64 0]) = .returned (ofV p q)) := by
            have := ofV_in (p := p) (q := q) h0 (by rw [e1, e2]; exact ⟨h1, h2⟩)
            rw [e1, e2] at this
            exact this
          clear e1 e2 hneg hpos h1 h2
          go_enter Try.func98, Try.ntmps98
          go_wp2_with fail
          refine (K.out _).mono ?_
          rintro r w1 ⟨rfl, b⟩
          have J1 := Lib.hid (J0.out.below b)
          obtain ⟨r0, r1, r2, r3⟩ := J1.out.head.two
          clear b
          go_wp2_with fail
          go_quiet (fail)
          go_wp2_with fail
          refine (KP.out _ _).mono ?_
          rintro r w2 ⟨rfl, rfl⟩
          rw [d1.out]
          go_wp2_with fail
          refine (KP.out _ _).mono ?_
          rintro r w2 ⟨rfl, rfl⟩
          rw [d2.out]
          go_wp2
          have Z := (J1.out.head.drewN nq).set2 (.int .i64 (p.tdiv g)) (.int .i64 (q.tdiv g))
          obtain ⟨k0, k1, _, _⟩ := Z.two
          refine bodyPost_ret (v := .tuple #[.agg #[.int .i64 (p.tdiv g), .int .i64 (q.tdiv g)], .int .i64 0]) ?_ rfl ⟨HR.out, ?_⟩
          · simp [results, Try.results98, go_sem, k0, k1]
          · exact ((below_drewN J1.out.2.1 nq).setCell (p := ⟨w.heap.size, 0, none⟩) (by simp) _).setCell (p := ⟨w.heap.size, 1, none⟩) (by simp) _
      · have d2 : Hid (decide (Part (q.tdiv g)) = false) := decide_eq_false h2
        have HR : Hid (Ending.returned (.tuple #[.agg #[.int .i64 0, .int .i64 0], .int .i64 10]) = .returned (ofV p q)) := by
          refine ofV_out h0 fun hh => ?_
          rcases Int.lt_or_lt_of_ne h0 with hn | hn
          · obtain ⟨-, e1, e2⟩ := hneg hn
            rw [e1, e2, part_neg, part_neg] at hh
            exact h2 hh.2
          · obtain ⟨-, e1, e2⟩ := hpos hn
            rw [e1, e2] at hh
            exact h2 hh.2
        clear hneg hpos h1 h2
        go_enter Try.func98, Try.ntmps98
        go_wp2_with fail
        refine (K.out _).mono ?_
        rintro r w1 ⟨rfl, b⟩
        have J1 := Lib.hid (J0.out.below b)
        obtain ⟨r0, r1, r2, r3⟩ := J1.out.head.two
        clear b
        go_wp2_with fail
        go_quiet (fail)
        go_wp2_with fail
        refine (KP.out _ _).mono ?_
        rintro r w2 ⟨rfl, rfl⟩
        rw [d1.out]
        go_wp2_with fail
        refine (KP.out _ _).mono ?_
        rintro r w2 ⟨rfl, rfl⟩
        rw [d2.out]
        go_wp2
        have Z := (J1.out.head.drewN nq).set2 (.int .i64 (0)) (.int .i64 (0))
        obtain ⟨k0, k1, _, _⟩ := Z.two
        refine bodyPost_ret (v := .tuple #[.agg #[.int .i64 (0), .int .i64 (0)], .int .i64 10]) ?_ rfl ⟨HR.out, ?_⟩
        · simp [results, Try.results98, go_sem, k0, k1]
        · exact ((below_drewN J1.out.2.1 nq).setCell (p := ⟨w.heap.size, 0, none⟩) (by simp) _).setCell (p := ⟨w.heap.size, 1, none⟩) (by simp) _
    · have d1 : Hid (decide (Part (p.tdiv g)) = false) := decide_eq_false h1
      have HR : Hid (Ending.returned (.tuple #[.agg #[.int .i64 0, .int .i64 0], .int .i64 10]) = .returned (ofV p q)) := by
        refine ofV_out h0 fun hh => ?_
        rcases Int.lt_or_lt_of_ne h0 with hn | hn
        · obtain ⟨-, e1, e2⟩ := hneg hn
          rw [e1, e2, part_neg, part_neg] at hh
          exact h1 hh.1
        · obtain ⟨-, e1, e2⟩ := hpos hn
          rw [e1, e2] at hh
          exact h1 hh.1
      clear hneg hpos h1
      go_enter Try.func98, Try.ntmps98
      go_wp2_with fail
      refine (K.out _).mono ?_
      rintro r w1 ⟨rfl, b⟩
      have J1 := Lib.hid (J0.out.below b)
      obtain ⟨r0, r1, r2, r3⟩ := J1.out.head.two
      clear b
      go_wp2_with fail
      go_quiet (fail)
      go_wp2_with fail
      refine (KP.out _ _).mono ?_
      rintro r w2 ⟨rfl, rfl⟩
      rw [d1.out]
      go_wp2
      have Z := (J1.out.head.drewN nq).set2 (.int .i64 (0)) (.int .i64 (0))
      obtain ⟨k0, k1, _, _⟩ := Z.two
      refine bodyPost_ret (v := .tuple #[.agg #[.int .i64 (0), .int .i64 (0)], .int .i64 10]) ?_ rfl ⟨HR.out, ?_⟩
      · simp [results, Try.results98, go_sem, k0, k1]
      · exact ((below_drewN J1.out.2.1 nq).setCell (p := ⟨w.heap.size, 0, none⟩) (by simp) _).setCell (p := ⟨w.heap.size, 1, none⟩) (by simp) _
  · obtain ⟨rfl, rfl⟩ := hout hg
    clear hin hout
    have hqb2 := big_gcd hg h0 hq
    subst hqb2
    have hd := dv_big (p := p) hq h0 hg
    by_cases hp0 : p = 0
    · subst hp0
      have HR : Hid (Ending.returned (.tuple #[.agg #[.int .i64 0, .int .i64 1], .int .i64 0]) = .returned (ofV 0 (-9223372036854775808))) := by
        have e1 : rX 0 (-9223372036854775808) = 0 := by unfold rX; rw [hd]; rfl
        have e2 : rY 0 (-9223372036854775808) = 1 := by unfold rY; rw [hd]; rfl
        have := ofV_in (p := 0) (q := -9223372036854775808) h0 (by rw [e1, e2]; unfold Part; omega)
        rw [e1, e2] at this
        exact this
      clear hd hg
      go_enter Try.func98, Try.ntmps98
      go_wp2_with fail
      refine (K.out _).mono ?_
      rintro r w1 ⟨rfl, b⟩
      have J1 := Lib.hid (J0.out.below b)
      obtain ⟨r0, r1, r2, r3⟩ := J1.out.head.two
      clear b
      go_wp2
      have Z := J1.out.head.set2 (.int .i64 0) (.int .i64 1)
      obtain ⟨k0, k1, _, _⟩ := Z.two
      refine bodyPost_ret (v := .tuple #[.agg #[.int .i64 0, .int .i64 1], .int .i64 0]) ?_ rfl ⟨HR.out, ?_⟩
      · simp [results, Try.results98, go_sem, k0, k1]
      · exact (J1.out.2.1.setCell (p := ⟨w.heap.size, 0, none⟩) (by simp) _).setCell (p := ⟨w.heap.size, 1, none⟩) (by simp) _
    · have hpb := big_num hg hp0 hp
      subst hpb
      have HR : Hid (Ending.returned (.tuple #[.agg #[.int .i64 1, .int .i64 1], .int .i64 0]) = .returned (ofV (-9223372036854775808) (-9223372036854775808))) := by
        have e1 : rX (-9223372036854775808) (-9223372036854775808) = 1 := by unfold rX; rw [hd]; rfl
        have e2 : rY (-9223372036854775808) (-9223372036854775808) = 1 := by unfold rY; rw [hd]; rfl
        have := ofV_in (p := -9223372036854775808) (q := -9223372036854775808) h0 (by rw [e1, e2]; unfold Part; omega)
        rw [e1, e2] at this
        exact this
      clear hd hg
      go_enter Try.func98, Try.ntmps98
      go_wp2_with fail
      refine (K.out _).mono ?_
      rintro r w1 ⟨rfl, b⟩
      have J1 := Lib.hid (J0.out.below b)
      obtain ⟨r0, r1, r2, r3⟩ := J1.out.head.two
      clear b
      go_wp2
      have Z := J1.out.head.set2 (.int .i64 1) (.int .i64 1)
      obtain ⟨k0, k1, _, _⟩ := Z.two
      refine bodyPost_ret (v := .tuple #[.agg #[.int .i64 1, .int .i64 1], .int .i64 0]) ?_ rfl ⟨HR.out, ?_⟩
      · simp [results, Try.results98, go_sem, k0, k1]
      · exact (J1.out.2.1.setCell (p := ⟨w.heap.size, 0, none⟩) (by simp) _).setCell (p := ⟨w.heap.size, 1, none⟩) (by simp) _
end Go.Proofs.Ytmfgegebnjpanaa
