/- The contract of word.Mul. -/
import Derived.Test.YtbnpbflndnjmcaaDoorNumX
namespace Go.Proofs.YtbnpbflndnjmcaaDoor
open Go.RowKit
theorem or_low (h l : Int) (h0 : 0 ≤ h) (h1 : h < 4294967296) (l0 : 0 ≤ l) (l1 : l < 4294967296) : bits .or .u64 (h * 4294967296) l = h * 4294967296 + l := by
  rw [u64_or _ _ (by omega) (by omega) (by omega) (by omega)]
  obtain ⟨h, rfl⟩ := Int.eq_ofNat_of_zero_le h0
  obtain ⟨l, rfl⟩ := Int.eq_ofNat_of_zero_le l0
  have e : ((h : Int) * 4294967296).toNat = 2 ^ 32 * h := by omega
  have e2 : ((l : Int)).toNat = l := by omega
  rw [e, e2, ← Nat.two_pow_add_eq_or_of_lt (by omega : l < 2 ^ 32)]
  omega
/-- both words of a product, by halves -/
theorem halves (a b : Int) (ha : U64 a) (hb : U64 b) (x1 x0 y1 y0 lo mid oth : Int)
    (hx1 : x1 = a / 4294967296) (hx0 : x0 = a % 4294967296) (hy1 : y1 = b / 4294967296) (hy0 : y0 = b % 4294967296)
    (hlo : lo = x0 * y0) (hmid : mid = x1 * y0 + lo / 4294967296) (hoth : oth = x0 * y1 + mid % 4294967296) :
    (0 ≤ lo ∧ lo < 18446744073709551616) ∧ (0 ≤ x1 * y0 ∧ x1 * y0 < 18446744073709551616) ∧ (0 ≤ mid ∧ mid < 18446744073709551616) ∧ (0 ≤ x0 * y1 ∧ x0 * y1 < 18446744073709551616) ∧ (0 ≤ oth ∧ oth < 18446744073709551616) ∧
    (0 ≤ x1 * y1 ∧ x1 * y1 + mid / 4294967296 + oth / 4294967296 < 18446744073709551616) ∧ x1 * y1 + mid / 4294967296 + oth / 4294967296 = a * b / 18446744073709551616 ∧ oth % 4294967296 * 4294967296 + lo % 4294967296 = a * b % 18446744073709551616 := by
  unfold U64 at ha hb
  have b1 : 0 ≤ x1 ∧ x1 ≤ 4294967295 := by omega
  have b2 : 0 ≤ x0 ∧ x0 ≤ 4294967295 := by omega
  have b3 : 0 ≤ y1 ∧ y1 ≤ 4294967295 := by omega
  have b4 : 0 ≤ y0 ∧ y0 ≤ 4294967295 := by omega
  have pA := prod_bound x1 y1 b1.1 b1.2 b3.1 b3.2
  have pB := prod_bound x1 y0 b1.1 b1.2 b4.1 b4.2
  have pC := prod_bound x0 y0 b2.1 b2.2 b4.1 b4.2
  have pD := prod_bound x0 y1 b2.1 b2.2 b3.1 b3.2
  have ea : a = x1 * 4294967296 + x0 := by omega
  have eb : b = y1 * 4294967296 + y0 := by omega
  have hxy : a * b = x1 * y1 * 18446744073709551616 + (x1 * y0 + x0 * y1) * 4294967296 + x0 * y0 := by rw [ea, eb]; exact split_mul x1 x0 y1 y0
  rw [hxy]
  clear hxy ea eb hx1 hx0 hy1 hy0
  generalize x1 * y1 = A at *
  generalize x1 * y0 = B at *
  generalize x0 * y0 = C at *
  generalize x0 * y1 = D at *
  omega
theorem word_mul (a b : Int) (ha : U64 a) (hb : U64 b) (w : World) :
    Calls Tryd.prog 79 #[.int .u64 a, .int .u64 b] w fun e w' => e = .returned (.tuple #[.int .u64 (a * b / 18446744073709551616), .int .u64 (a * b % 18446744073709551616)]) ∧ w = w' := by
  have H := Lib.hid (halves a b ha hb _ _ _ _ _ _ _ rfl rfl rfl rfl rfl rfl rfl)
  obtain ⟨ha, ha'⟩ := ha
  obtain ⟨hb, hb'⟩ := hb
  go_enter Tryd.func79, Tryd.ntmps79
  go_wp2
  go_ret2
  obtain ⟨q1, q2, q3, q4, q5, q6, q7, q8⟩ := H.out
  have e1 := and_low32 a ha ha'
  have e2 := and_low32 b hb hb'
  have m : ∀ z : Int, 0 ≤ z ∧ z < 18446744073709551616 → z % 18446744073709551616 = z := fun z h => by omega
  have al : ∀ z : Int, 0 ≤ z ∧ z < 18446744073709551616 → bits .and .u64 z 4294967295 = z % 4294967296 := fun z h => and_low32 z h.1 h.2
  have q9 : 0 ≤ a / 4294967296 * (b / 4294967296) ∧ a / 4294967296 * (b / 4294967296) < 18446744073709551616 := by omega
  refine ⟨ret2i ?_ ?_, rfl⟩
  · simp only [e1, e2, u64w, m _ q1, m _ q2, m _ q3, m _ q4, m _ q5, m _ q9, al _ q3]
    rw [← q7]; omega
  · simp only [e1, e2, u64w, m _ q1, m _ q2, m _ q3, m _ q4, m _ q5, al _ q3, al _ q1]
    rw [← q8, ← or_low _ _ (by omega) (by omega) (by omega) (by omega)]
    congr 1
    omega
end Go.Proofs.YtbnpbflndnjmcaaDoor
