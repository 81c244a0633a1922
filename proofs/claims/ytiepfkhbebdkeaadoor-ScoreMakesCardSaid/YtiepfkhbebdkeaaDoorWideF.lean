/- The contract of copseref02.Fits. -/
import Derived.Test.YtiepfkhbebdkeaaDoorWideB
namespace Go.Proofs.YtiepfkhbebdkeaaDoor
open Go.RowKit

def hiAt (l : List Int) (k : Nat) : Int := val (l.drop (max k 4))
def loAt (l : List Int) (k : Nat) : Int := val ((l.take 4).drop k)
theorem val_bd {l : List Int} (h : Dig l) (k : Nat) (hk : l.length ≤ k) : 0 ≤ val l ∧ val l < pw k :=
  ⟨val_nonneg h, Int.lt_of_lt_of_le (val_lt h) (pw_mono hk)⟩
theorem hiAt_bd {l : List Int} (h : Dig l) (hl : l.length ≤ 8) (k : Nat) : U64 (hiAt l k) := by
  have := val_bd (dig_drop h (max k 4)) 4 (by rw [List.length_drop]; omega)
  unfold hiAt U64
  unfold pw at this; omega
theorem loAt_bd {l : List Int} (h : Dig l) (k : Nat) : U64 (loAt l k) := by
  have := val_bd (dig_drop (dig_take h 4) k) 4 (by rw [List.length_drop, List.length_take]; omega)
  unfold loAt U64
  unfold pw at this; omega
theorem at_high (l : List Int) (k : Nat) (hk : k < l.length) (h4 : 4 ≤ k) : hiAt l k = hiAt l (k + 1) * 65536 + l.getD k 0 ∧ loAt l k = loAt l (k + 1) := by
  unfold hiAt loAt
  rw [Nat.max_eq_left h4, Nat.max_eq_left (by omega), val_drop l k hk]
  refine ⟨by omega, ?_⟩
  rw [val_drop_ge _ k (by rw [List.length_take]; omega), val_drop_ge _ (k + 1) (by rw [List.length_take]; omega)]
theorem at_low (l : List Int) (k : Nat) (hk : k < l.length) (h4 : k < 4) : hiAt l k = hiAt l (k + 1) ∧ loAt l k = loAt l (k + 1) * 65536 + l.getD k 0 := by
  unfold hiAt loAt
  rw [Nat.max_eq_right (by omega), Nat.max_eq_right (by omega), val_drop (l.take 4) k (by rw [List.length_take]; omega)]
  refine ⟨rfl, ?_⟩
  have : (l.take 4).getD k 0 = l.getD k 0 := by
    rw [List.getD_eq_getElem?_getD, List.getD_eq_getElem?_getD, List.getElem?_take, if_pos h4]
  rw [this]; omega
theorem at_end (l : List Int) : wv (hiAt l 0) (loAt l 0) = val l := by
  unfold hiAt loAt
  rw [List.drop_zero, Nat.max_eq_right (by omega)]
  show val (l.drop 4) * 18446744073709551616 + val (l.take 4) = val l
  rcases Nat.lt_or_ge l.length 4 with h | h
  · rw [val_drop_ge l 4 (by omega), List.take_of_length_le (by omega)]; omega
  · have h1 := val_append (l.take 4) (l.drop 4)
    rw [List.take_append_drop, List.length_take, Nat.min_eq_left h] at h1
    rw [h1]; unfold pw; omega
theorem at_start (l : List Int) : hiAt l l.length = 0 ∧ loAt l l.length = 0 := by
  unfold hiAt loAt
  rw [List.drop_eq_nil_of_le (by omega), List.drop_eq_nil_of_le (by rw [List.length_take]; omega)]
  exact ⟨rfl, rfl⟩

/-- what Fits answers of a number -/
def FitsW (n : Int) (w : World) (e : Ending) (w' : World) : Prop :=
  (if n < 340282366920938463463374607431768211456 then ∃ h l, U64 h ∧ U64 l ∧ wv h l = n ∧ e = .returned (.tuple #[.agg #[.int .u64 h, .int .u64 l], .int .i64 0]) else e = .returned (.tuple #[.agg #[.int .u64 0, .int .u64 0], .int .i64 10])) ∧ Below w.heap.size w w'

theorem wfits_of {n : Int} (h1 : n < 340282366920938463463374607431768211456) {w w' : World} {e : Ending} (h : FitsW n w e w') :
    e = .returned (.tuple #[.agg #[.int .u64 (n / 18446744073709551616), .int .u64 (n % 18446744073709551616)], .int .i64 0]) ∧ Below w.heap.size w w' := by
  unfold FitsW at h
  rw [if_pos h1] at h
  obtain ⟨⟨a, b, ha, hb, hv, he⟩, hB⟩ := h
  refine ⟨?_, hB⟩
  have hv' : a * 18446744073709551616 + b = n := hv
  unfold U64 at ha hb
  obtain rfl : a = n / 18446744073709551616 := by omega
  obtain rfl : b = n % 18446744073709551616 := by omega
  exact he
theorem wfits_over {n : Int} (h1 : 340282366920938463463374607431768211456 ≤ n) {w w' : World} {e : Ending} (h : FitsW n w e w') :
    e = .returned (.tuple #[.agg #[.int .u64 0, .int .u64 0], .int .i64 10]) ∧ Below w.heap.size w w' := by
  unfold FitsW at h
  rw [if_neg (by omega)] at h
  exact h
end Go.Proofs.YtiepfkhbebdkeaaDoor
