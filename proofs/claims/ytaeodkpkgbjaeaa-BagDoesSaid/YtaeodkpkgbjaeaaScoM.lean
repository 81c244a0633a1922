/- Scores as numbers. -/
import Derived.Test.YtaeodkpkgbjaeaaWideA
namespace Go.Proofs.Ytaeodkpkgbjaeaa
open Go.RowKit

/-- a score that is right -/
def ScoOk (p q : Int) : Prop := 1 ≤ q ∧ q ≤ 16 ∧ 0 ≤ p ∧ p ≤ 274877906944 ∧ Int.gcd p q = 1
instance (p q : Int) : Decidable (ScoOk p q) := by unfold ScoOk; infer_instance
def scoB (p q : Int) : Bool := decide (ScoOk p q)
def SumOk (s t : Int) : Prop := 0 ≤ s ∧ s ≤ 274877906944 ∧ 1 ≤ t ∧ t ≤ 16
instance (s t : Int) : Decidable (SumOk s t) := by unfold SumOk; infer_instance
def scP (s t : Int) : Int := if SumOk s t then s / Int.gcd s t else 0
def scQ (s t : Int) : Int := if SumOk s t then t / Int.gcd s t else 0
def scE (s t : Int) : Int := if SumOk s t then 0 else 1
theorem gcd_pos_sum {s t : Int} (h : SumOk s t) : 1 ≤ Int.gcd s t ∧ (Int.gcd s t : Int) ≤ t := by
  have h1 : 0 < Int.gcd s t := Int.gcd_pos_iff.2 (Or.inr (by unfold SumOk at h; omega))
  have h2 : (Int.gcd s t : Int) ∣ t := Int.gcd_dvd_right ..
  have := Int.le_of_dvd (by unfold SumOk at h; omega) h2
  exact ⟨h1, this⟩
theorem sc_ok {s t : Int} (h : SumOk s t) : ScoOk (scP s t) (scQ s t) ∧ scP s t * t = s * scQ s t := by
  obtain ⟨g1, g2⟩ := gcd_pos_sum h
  have hd1 : (Int.gcd s t : Int) ∣ s := Int.gcd_dvd_left ..
  have hd2 : (Int.gcd s t : Int) ∣ t := Int.gcd_dvd_right ..
  have e1 : s / (Int.gcd s t : Int) * Int.gcd s t = s := Int.ediv_mul_cancel hd1
  have e2 : t / (Int.gcd s t : Int) * Int.gcd s t = t := Int.ediv_mul_cancel hd2
  have hg : Int.gcd (s / (Int.gcd s t : Int)) (t / (Int.gcd s t : Int)) = 1 := by
    have h1 := Int.gcd_mul_right (s / (Int.gcd s t : Int)) (Int.gcd s t) (t / (Int.gcd s t : Int))
    rw [e1, e2, Int.natAbs_natCast] at h1
    have h3 : 1 * Int.gcd s t = Int.gcd (s / (Int.gcd s t : Int)) (t / (Int.gcd s t : Int)) * Int.gcd s t := by omega
    exact (Nat.eq_of_mul_eq_mul_right (by omega) h3).symm
  unfold scP scQ
  rw [if_pos h, if_pos h]
  obtain ⟨h1, h2, h3, h4⟩ := h
  have hG : (1 : Int) ≤ (Int.gcd s t : Int) := by omega
  clear g1
  generalize (Int.gcd s t : Int) = G at *
  generalize hA : s / G = A at *
  generalize hB : t / G = B at *
  have b1 : 1 ≤ B := by
    rw [← hB]; exact (Int.le_ediv_iff_mul_le (by omega)).2 (by omega)
  have b2 : B ≤ t := by rw [← hB]; exact Int.ediv_le_self _ (by omega)
  have b3 : 0 ≤ A := by rw [← hA]; exact Int.ediv_nonneg h1 (by omega)
  have b4 : A ≤ s := by rw [← hA]; exact Int.ediv_le_self _ h1
  refine ⟨⟨b1, by omega, b3, by omega, hg⟩, ?_⟩
  grind
theorem sc_same {p q : Int} (h : ScoOk p q) : SumOk p q ∧ scP p q = p ∧ scQ p q = q ∧ scE p q = 0 := by
  have hs : SumOk p q := ⟨h.2.2.1, h.2.2.2.1, h.1, h.2.1⟩
  unfold scP scQ scE
  rw [if_pos hs, if_pos hs, if_pos hs, h.2.2.2.2]
  exact ⟨hs, by simp, by simp, rfl⟩
theorem sco_iff (p q : Int) : ScoOk p q ↔ (scE p q = 0 ∧ scP p q = p ∧ scQ p q = q) := by
  constructor
  · intro h; obtain ⟨-, h1, h2, h3⟩ := sc_same h; exact ⟨h3, h1, h2⟩
  · intro ⟨h1, h2, h3⟩
    have hs : SumOk p q := by
      by_cases hs : SumOk p q
      · exact hs
      · unfold scE at h1; rw [if_neg hs] at h1; omega
    have := (sc_ok hs).1
    rwa [h2, h3] at this
theorem dvd_cop {a b c : Int} (h : a ∣ b * c) (hg : Int.gcd a b = 1) : a ∣ c := by
  have h1 : a.natAbs ∣ b.natAbs * c.natAbs := by
    rw [← Int.natAbs_mul]; exact Int.natAbs_dvd_natAbs.2 h
  have h2 : a.natAbs ∣ c.natAbs := Nat.Coprime.dvd_of_dvd_mul_left hg h1
  exact Int.natAbs_dvd_natAbs.1 h2
/-- which one is odder: 1: the first one -/
def oddC (a b c d : Int) : Int := cmpI (c * b) (a * d)
theorem oddC_cases (a b c d : Int) : (c * b < a * d ∧ oddC a b c d = -1) ∨ (c * b = a * d ∧ oddC a b c d = 0) ∨ (a * d < c * b ∧ oddC a b c d = 1) := by
  unfold oddC cmpI
  by_cases h1 : c * b < a * d
  · left; exact ⟨h1, if_pos h1⟩
  · by_cases h2 : c * b = a * d
    · right; left; exact ⟨h2, by rw [if_neg h1, if_pos h2]⟩
    · right; right; exact ⟨by omega, by rw [if_neg h1, if_neg h2]⟩
theorem oddC_neg (a b c d : Int) : oddC c d a b = - oddC a b c d := by
  rcases oddC_cases a b c d with ⟨h, e⟩ | ⟨h, e⟩ | ⟨h, e⟩ <;> rcases oddC_cases c d a b with ⟨g, f⟩ | ⟨g, f⟩ | ⟨g, f⟩ <;> omega
theorem oddC_zero {a b c d : Int} (h : ScoOk a b) (g : ScoOk c d) : oddC a b c d = 0 ↔ (a = c ∧ b = d) := by
  constructor
  · intro h0
    have e : c * b = a * d := by rcases oddC_cases a b c d with ⟨h, e⟩ | ⟨h, e⟩ | ⟨h, e⟩ <;> omega
    have d1 : b ∣ d := dvd_cop (b := a) ⟨c, by rw [← e, Int.mul_comm]⟩ (by rw [Int.gcd_comm]; exact h.2.2.2.2)
    have d2 : d ∣ b := dvd_cop (b := c) ⟨a, by rw [e, Int.mul_comm]⟩ (by rw [Int.gcd_comm]; exact g.2.2.2.2)
    have l1 := Int.le_of_dvd (by have := g.1; omega) d1
    have l2 := Int.le_of_dvd (by have := h.1; omega) d2
    have ebd : b = d := by omega
    subst ebd
    exact ⟨(Int.eq_of_mul_eq_mul_right (by have := h.1; omega) e).symm, rfl⟩
  · rintro ⟨rfl, rfl⟩
    unfold oddC cmpI
    rw [if_neg (by omega), if_pos rfl]
theorem mul_lt_r {a b c : Int} (h : a < b) (hc : 1 ≤ c) : a * c < b * c := Int.mul_lt_mul_of_pos_right h (by omega)
theorem mul_le_r {a b c : Int} (h : a ≤ b) (hc : 0 ≤ c) : a * c ≤ b * c := Int.mul_le_mul_of_nonneg_right h hc
theorem le_of_mul {a b c : Int} (hc : 1 ≤ c) (h : a * c ≤ b * c) : a ≤ b := Int.le_of_mul_le_mul_right h (by omega)
/-- not odder, and not odder -/
theorem oddC_trans {a b c d e f : Int} (hb : 1 ≤ b) (hd : 1 ≤ d) (hf : 1 ≤ f) (h1 : c * b ≤ a * d) (h2 : e * d ≤ c * f) : e * b ≤ a * f := by
  apply le_of_mul hd
  have g1 := mul_le_r h1 (show 0 ≤ f by omega)
  have g2 := mul_le_r h2 (show 0 ≤ b by omega)
  grind
/-- what is odder than an odder one is odder -/
theorem oddC_max {a b c d e f : Int} (h : ScoOk a b) (g : ScoOk c d) (k : ScoOk e f) (h1 : 0 ≤ oddC a b c d) (h2 : 0 ≤ oddC c d e f) : oddC a b e f = max (oddC a b c d) (oddC c d e f) := by
  have hb := h.1
  have hd := g.1
  have hf := k.1
  rcases oddC_cases a b c d with ⟨x1, e1⟩ | ⟨x1, e1⟩ | ⟨x1, e1⟩
  · omega
  · obtain ⟨rfl, rfl⟩ := (oddC_zero h g).1 e1
    rw [e1]; omega
  rcases oddC_cases c d e f with ⟨x2, e2⟩ | ⟨x2, e2⟩ | ⟨x2, e2⟩
  · omega
  · obtain ⟨rfl, rfl⟩ := (oddC_zero g k).1 e2
    rw [e2]; omega
  have g1 := mul_lt_r x1 hf
  have g2 := mul_lt_r x2 hb
  have g3 : a * f * d < e * b * d := by grind
  have g4 : a * f < e * b := by
    rcases Int.lt_or_le (a * f) (e * b) with h | h
    · exact h
    · have := mul_le_r h (show 0 ≤ d by omega); omega
  rcases oddC_cases a b e f with ⟨x3, e3⟩ | ⟨x3, e3⟩ | ⟨x3, e3⟩ <;> omega
/-- the level, where the average is c -/
def lvC (c p q : Int) : Int := 1000 * (c * q) / (c * q + p)
theorem lvC_range {c p q : Int} (hc : 1 ≤ c) (h : ScoOk p q) : 0 ≤ lvC c p q ∧ lvC c p q ≤ 1000 := by
  obtain ⟨h1, -, h2, -, -⟩ := h
  have hm : 1 ≤ c * q := by have := Int.mul_le_mul hc h1 (by omega) (by omega); omega
  unfold lvC
  generalize c * q = m at *
  exact ⟨Int.ediv_nonneg (by omega) (by omega), by
    have := (Int.ediv_lt_iff_lt_mul (a := 1000 * m) (b := 1001) (c := m + p) (by omega)).2 (by omega)
    omega⟩
theorem lvC_mono {c p q r s : Int} (hc : 1 ≤ c) (h : ScoOk p q) (g : ScoOk r s) (ho : 0 ≤ oddC p q r s) : lvC c r s ≤ lvC c p q := by
  have hl : p * s ≤ r * q := by rcases oddC_cases p q r s with ⟨x, e⟩ | ⟨x, e⟩ | ⟨x, e⟩ <;> omega
  obtain ⟨hz, -⟩ := lvC_range hc g
  obtain ⟨h1, -, h2, -, -⟩ := h
  obtain ⟨g1, -, g2, -, -⟩ := g
  have hm : 1 ≤ c * q := by have := Int.mul_le_mul hc h1 (by omega) (by omega); omega
  have hn : 1 ≤ c * s := by have := Int.mul_le_mul hc g1 (by omega) (by omega); omega
  have key : lvC c r s * (c * s + r) ≤ 1000 * (c * s) := by
    unfold lvC
    exact Int.ediv_mul_le _ (by omega)
  unfold lvC at hz ⊢
  unfold lvC at key
  generalize 1000 * (c * s) / (c * s + r) = z at *
  refine (Int.le_ediv_iff_mul_le (by omega)).2 ?_
  apply le_of_mul g1
  have k1 := mul_le_r key (show 0 ≤ q by omega)
  have k2 := Int.mul_le_mul_of_nonneg_left hl hz
  grind
end Go.Proofs.Ytaeodkpkgbjaeaa
