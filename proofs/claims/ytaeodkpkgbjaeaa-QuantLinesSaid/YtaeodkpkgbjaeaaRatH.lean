/- Contracts of copseref03: part, Is, Of. -/
import Derived.Test.YtaeodkpkgbjaeaaRatA
import Derived.Test.YtaeodkpkgbjaeaaBigD
namespace Go.Proofs.Ytaeodkpkgbjaeaa
open Go.RowKit

/-- what Gcd tells, as two numbers -/
theorem ref_gcd2 (a b : Int) (ha : I64 a) (hb : I64 b) : ∃ g e : Int, (g = 1 ↔ Int.gcd a b = 1) ∧ (Int.gcd a b ≤ 9223372036854775807 → g = Int.gcd a b ∧ e = 0) ∧ (¬ Int.gcd a b ≤ 9223372036854775807 → g = 0 ∧ e = 10) ∧
    ∀ W, Calls Try.prog 90 #[.int .i64 a, .int .i64 b] W fun r w' => r = .returned (.tuple #[.int .i64 g, .int .i64 e]) ∧ Below W.heap.size W w' := by
  by_cases h : Int.gcd a b ≤ 9223372036854775807
  · refine ⟨Int.gcd a b, 0, by omega, fun _ => ⟨rfl, rfl⟩, fun hc => absurd h hc, fun W => ?_⟩
    have := ref_gcd a b ha hb W
    rw [← gcdV_in rfl h] at this
    exact this
  · refine ⟨0, 10, by omega, fun hc => absurd hc h, fun _ => ⟨rfl, rfl⟩, fun W => ?_⟩
    have := ref_gcd a b ha hb W
    rw [← gcdV_out rfl h] at this
    exact this

/-- both parts by what divides them -/
theorem of_parts {p q g : Int} (hg : g = Int.gcd p q) (h0 : q ≠ 0) (hq : I64 q) (hp : I64 p) :
    0 < g ∧ (-9223372036854775808 ≤ p.tdiv g ∧ p.tdiv g ≤ 9223372036854775807) ∧ (-9223372036854775808 ≤ q.tdiv g ∧ q.tdiv g ≤ 9223372036854775807) ∧
    (0 < q → 0 < q.tdiv g ∧ rX p q = p.tdiv g ∧ rY p q = q.tdiv g) ∧ (q < 0 → q.tdiv g < 0 ∧ rX p q = -(p.tdiv g) ∧ rY p q = -(q.tdiv g)) := by
  have hpos := gcd_pos (p := p) h0
  have e1 : p.tdiv g = p / g := Int.tdiv_eq_ediv_of_dvd (by rw [hg]; exact Int.gcd_dvd_left p q)
  have e2 : q.tdiv g = q / g := Int.tdiv_eq_ediv_of_dvd (by rw [hg]; exact Int.gcd_dvd_right p q)
  have hy := rY_pos (p := p) h0
  have b1 := tdiv_bd' (a := p) (b := g) (by omega) hp (by omega)
  have b2 := tdiv_bd' (a := q) (b := g) (by omega) hq (by omega)
  refine ⟨by omega, b1, b2, fun h => ?_, fun h => ?_⟩
  · have hd : dv p q = g := by unfold dv; rw [if_neg (by omega), hg]
    rw [e1, e2]
    unfold rX rY at *
    rw [hd] at hy ⊢
    exact ⟨hy, rfl, rfl⟩
  · have hd : dv p q = -g := by unfold dv; rw [if_pos h, hg]
    rw [e1, e2]
    unfold rX rY at *
    rw [hd, Int.ediv_neg] at hy
    rw [hd, Int.ediv_neg, Int.ediv_neg]
    exact ⟨by omega, rfl, rfl⟩
theorem part_neg {n : Int} : Part (-n) ↔ Part n := by unfold Part; omega
theorem big_gcd {p q : Int} (hg : ¬ Int.gcd p q ≤ 9223372036854775807) (h0 : q ≠ 0) (hq : I64 q) : q = -9223372036854775808 := by
  have h1 := Int.le_of_dvd (by have := gcd_pos (p := p) h0; omega : (0 : Int) < (q.natAbs : Int)) (show (Int.gcd p q : Int) ∣ (q.natAbs : Int) by rw [Int.dvd_natAbs]; exact Int.gcd_dvd_right p q)
  unfold I64 at hq
  omega
theorem big_num {p q : Int} (hg : ¬ Int.gcd p q ≤ 9223372036854775807) (hp0 : p ≠ 0) (hp : I64 p) : p = -9223372036854775808 := by
  have h1 := Int.le_of_dvd (by omega : (0 : Int) < (p.natAbs : Int)) (show (Int.gcd p q : Int) ∣ (p.natAbs : Int) by rw [Int.dvd_natAbs]; exact Int.gcd_dvd_left p q)
  unfold I64 at hp
  omega
end Go.Proofs.Ytaeodkpkgbjaeaa
