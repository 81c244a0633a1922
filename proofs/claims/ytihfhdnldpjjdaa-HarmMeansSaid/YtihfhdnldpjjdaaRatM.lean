/- What comes of ratios, as numbers. -/
import Derived.Test.YtihfhdnldpjjdaaRatA
namespace Go.Proofs.Ytihfhdnldpjjdaa
open Go.RowKit

theorem rX_mul_rY (n d : Int) : rX n d * d = n * rY n d := by
  have h1 := rX_mul n d
  have h2 := rY_mul n d
  have : rX n d * (rY n d * dv n d) = rX n d * dv n d * rY n d := by grind
  rw [h1, h2] at this
  exact this
theorem natAbs_dv (n d : Int) : (dv n d).natAbs = Int.gcd n d := by
  unfold dv; split <;> omega
theorem gcd_rX {n d : Int} (h : d ≠ 0) : Int.gcd (rX n d) (rY n d) = 1 := by
  have h1 := Int.gcd_mul_right (rX n d) (dv n d) (rY n d)
  rw [rX_mul, rY_mul, natAbs_dv] at h1
  have h2 := gcd_pos (p := n) h
  have h3 : 1 * Int.gcd n d = Int.gcd (rX n d) (rY n d) * Int.gcd n d := by omega
  exact (Nat.eq_of_mul_eq_mul_right (by omega) h3).symm
/-- what Of tells has the value that it was asked for -/
theorem of_ok {n d : Int} (h : ofE n d = 0) : d ≠ 0 ∧ Valid (ofP n d) (ofQ n d) ∧ ofP n d * d = n * ofQ n d := by
  have h0 : d ≠ 0 := by
    intro hc; unfold ofE at h; rw [if_pos hc] at h; omega
  have hf : Part (rX n d) ∧ Part (rY n d) := by
    by_cases hf : Part (rX n d) ∧ Part (rY n d)
    · exact hf
    · unfold ofE at h; rw [if_neg h0, if_neg hf] at h; omega
  have e1 : ofP n d = rX n d := by unfold ofP; rw [if_neg h0, if_pos hf]
  have e2 : ofQ n d = rY n d := by unfold ofQ; rw [if_neg h0, if_pos hf]
  rw [e1, e2]
  have hy := rY_pos (p := n) h0
  unfold Part at hf
  exact ⟨h0, ⟨⟨by omega, by omega⟩, ⟨by omega, by omega⟩, gcd_rX h0⟩, rX_mul_rY n d⟩
theorem dvd_of_coprime {a b c : Int} (h : a ∣ b * c) (hg : Int.gcd a b = 1) : a ∣ c := by
  have h1 : a.natAbs ∣ b.natAbs * c.natAbs := by
    rw [← Int.natAbs_mul]; exact Int.natAbs_dvd_natAbs.2 h
  have h2 : a.natAbs ∣ c.natAbs := Nat.Coprime.dvd_of_dvd_mul_left hg h1
  exact Int.natAbs_dvd_natAbs.1 h2
/-- a ratio is told by its value -/
theorem of_same {n d p q : Int} (hd : d ≠ 0) (hv : Valid p q) (h : n * q = p * d) : ofP n d = p ∧ ofQ n d = q ∧ ofE n d = 0 := by
  have hm := rX_mul_rY n d
  have hy := rY_pos (p := n) hd
  have hg := gcd_rX (n := n) hd
  have hq := hv.1
  have key : rX n d * q = p * rY n d := by
    have h1 : (rX n d * q) * d = (p * rY n d) * d := by grind
    exact Int.eq_of_mul_eq_mul_right hd h1
  have d1 : q ∣ rY n d := dvd_of_coprime (b := p) ⟨rX n d, by rw [← key]; grind⟩ (by rw [Int.gcd_comm]; exact hv.2.2)
  have d2 : rY n d ∣ q := dvd_of_coprime (b := rX n d) ⟨p, by rw [key]; grind⟩ (by rw [Int.gcd_comm]; exact hg)
  have l1 := Int.le_of_dvd (by omega) d1
  have l2 := Int.le_of_dvd (by omega) d2
  have ey : rY n d = q := by omega
  have ex : rX n d = p := by
    rw [ey] at key
    exact Int.eq_of_mul_eq_mul_right (by omega) key
  have hf : Part (rX n d) ∧ Part (rY n d) := by rw [ex, ey]; exact ⟨hv.2.1, by unfold Part; omega⟩
  unfold ofP ofQ ofE
  rw [if_neg hd, if_pos hf, if_neg hd, if_pos hf, if_neg hd, if_pos hf]
  exact ⟨ex, ey, rfl⟩
theorem do_ok {p q p2 q2 n d : Int} (h : doE p q p2 q2 n d = 0) : (Valid p q ∧ Valid p2 q2) ∧ doP p q p2 q2 n d = ofP n d ∧ doQ p q p2 q2 n d = ofQ n d ∧ ofE n d = 0 := by
  have hv : Valid p q ∧ Valid p2 q2 := by
    by_cases hv : Valid p q ∧ Valid p2 q2
    · exact hv
    · unfold doE at h; rw [if_neg hv] at h; omega
  unfold doE at h
  unfold doP doQ
  rw [if_pos hv] at h
  rw [if_pos hv, if_pos hv]
  exact ⟨hv, rfl, rfl, h⟩
theorem do_same {p q p2 q2 n d x y : Int} (hv : Valid p q ∧ Valid p2 q2) (hd : d ≠ 0) (hx : Valid x y) (h : n * y = x * d) : doP p q p2 q2 n d = x ∧ doQ p q p2 q2 n d = y ∧ doE p q p2 q2 n d = 0 := by
  obtain ⟨e1, e2, e3⟩ := of_same hd hx h
  unfold doP doQ doE
  rw [if_pos hv, if_pos hv, if_pos hv]
  exact ⟨e1, e2, e3⟩
theorem mul_ne {a b : Int} (h : 1 ≤ a) (g : 1 ≤ b) : a * b ≠ 0 := by
  intro hc
  rcases Int.mul_eq_zero.1 hc with h1 | h1 <;> omega
/-- what was added is taken off again -/
theorem add_sub_back {p q p2 q2 : Int} (h : doE p q p2 q2 (p * q2 + p2 * q) (q * q2) = 0) :
    Valid (doP p q p2 q2 (p * q2 + p2 * q) (q * q2)) (doQ p q p2 q2 (p * q2 + p2 * q) (q * q2)) ∧
    ∀ sP sQ, sP = doP p q p2 q2 (p * q2 + p2 * q) (q * q2) → sQ = doQ p q p2 q2 (p * q2 + p2 * q) (q * q2) →
      doP sP sQ p2 q2 (sP * q2 - p2 * sQ) (sQ * q2) = p ∧ doQ sP sQ p2 q2 (sP * q2 - p2 * sQ) (sQ * q2) = q ∧ doE sP sQ p2 q2 (sP * q2 - p2 * sQ) (sQ * q2) = 0 := by
  obtain ⟨hv, e1, e2, e3⟩ := do_ok h
  obtain ⟨h0, hs, hm⟩ := of_ok e3
  rw [e1, e2]
  refine ⟨hs, fun sP sQ h1 h2 => ?_⟩
  rw [← h1, ← h2] at hs hm
  exact do_same ⟨hs, hv.2⟩ (mul_ne hs.1.1 hv.2.1.1) hv.1 (by grind)
theorem mul_div_back {p q p2 q2 : Int} (h : doE p q p2 q2 (p * p2) (q * q2) = 0) (hb : p2 ≠ 0) :
    Valid (doP p q p2 q2 (p * p2) (q * q2)) (doQ p q p2 q2 (p * p2) (q * q2)) ∧
    ∀ sP sQ, sP = doP p q p2 q2 (p * p2) (q * q2) → sQ = doQ p q p2 q2 (p * p2) (q * q2) →
      doP sP sQ p2 q2 (sP * q2) (sQ * p2) = p ∧ doQ sP sQ p2 q2 (sP * q2) (sQ * p2) = q ∧ doE sP sQ p2 q2 (sP * q2) (sQ * p2) = 0 := by
  obtain ⟨hv, e1, e2, e3⟩ := do_ok h
  obtain ⟨h0, hs, hm⟩ := of_ok e3
  rw [e1, e2]
  refine ⟨hs, fun sP sQ h1 h2 => ?_⟩
  rw [← h1, ← h2] at hs hm
  have hsq := hs.1.1
  refine do_same ⟨hs, hv.2⟩ (fun hc => ?_) hv.1 (by grind)
  rcases Int.mul_eq_zero.1 hc with h1 | h1 <;> omega
theorem cmp_scale {x y u v k m : Int} (hk : 0 < k) (hm : 0 < m) (h : (x - y) * k = (u - v) * m) : cmpI x y = cmpI u v := by
  have s1 : ∀ z j : Int, 0 < j → (0 < z * j ↔ 0 < z) ∧ (z * j < 0 ↔ z < 0) := by
    intro z j hj
    refine ⟨⟨fun h => ?_, fun h => Int.mul_pos h hj⟩, fun h => ?_, fun h => Int.mul_neg_of_neg_of_pos h hj⟩
    · rcases Int.lt_or_le 0 z with g | g
      · exact g
      · have := Int.mul_nonpos_of_nonpos_of_nonneg g (Int.le_of_lt hj); omega
    · rcases Int.lt_or_le z 0 with g | g
      · exact g
      · have := Int.mul_nonneg g (Int.le_of_lt hj); omega
  have a := s1 (x - y) k hk
  have b := s1 (u - v) m hm
  rw [h] at a
  rcases cmp_cases x y with ⟨c, e⟩ | ⟨c, e⟩ | ⟨c, e⟩ <;> rcases cmp_cases u v with ⟨g, f⟩ | ⟨g, f⟩ | ⟨g, f⟩ <;> rw [e, f] <;> omega
/-- of two the greater one stays so, with as much more -/
theorem cmp_more {p q p2 q2 p3 q3 : Int} (h : doE p q p2 q2 (p * q2 + p2 * q) (q * q2) = 0) (h3 : doE p3 q3 p2 q2 (p3 * q2 + p2 * q3) (q3 * q2) = 0) :
    cmE p q p3 q3 = 0 ∧ ∀ sP sQ tP tQ, sP = doP p q p2 q2 (p * q2 + p2 * q) (q * q2) → sQ = doQ p q p2 q2 (p * q2 + p2 * q) (q * q2) → tP = doP p3 q3 p2 q2 (p3 * q2 + p2 * q3) (q3 * q2) → tQ = doQ p3 q3 p2 q2 (p3 * q2 + p2 * q3) (q3 * q2) →
      cmE sP sQ tP tQ = 0 ∧ cmN sP sQ tP tQ = cmN p q p3 q3 := by
  obtain ⟨hv, e1, e2, e3⟩ := do_ok h
  obtain ⟨h0, hs, hm⟩ := of_ok e3
  obtain ⟨hv3, f1, f2, f3⟩ := do_ok h3
  obtain ⟨g0, ht, hn⟩ := of_ok f3
  have hvv : Valid p q ∧ Valid p3 q3 := ⟨hv.1, hv3.1⟩
  refine ⟨by unfold cmE; rw [if_pos hvv], fun sP sQ tP tQ a1 a2 a3 a4 => ?_⟩
  rw [e1] at a1; rw [e2] at a2; rw [f1] at a3; rw [f2] at a4
  rw [← a1, ← a2] at hs hm
  rw [← a3, ← a4] at ht hn
  have hst : Valid sP sQ ∧ Valid tP tQ := ⟨hs, ht⟩
  refine ⟨by unfold cmE; rw [if_pos hst], ?_⟩
  unfold cmN
  rw [if_pos hst, if_pos hvv]
  have k1 := hv.1.1.1; have k2 := hv.2.1.1; have k3 := hv3.1.1.1; have k4 := hs.1.1; have k5 := ht.1.1
  refine cmp_scale (k := q * q2 * (q3 * q2)) (m := sQ * tQ * (q2 * q2)) ?_ ?_ ?_
  · exact Int.mul_pos (Int.mul_pos (by omega) (by omega)) (Int.mul_pos (by omega) (by omega))
  · exact Int.mul_pos (Int.mul_pos (by omega) (by omega)) (Int.mul_pos (by omega) (by omega))
  · have i1 : (sP * tQ - tP * sQ) * (q * q2 * (q3 * q2)) = (sP * (q * q2)) * tQ * (q3 * q2) - (tP * (q3 * q2)) * sQ * (q * q2) := by grind
    rw [i1, hm, hn]; grind
end Go.Proofs.Ytihfhdnldpjjdaa
