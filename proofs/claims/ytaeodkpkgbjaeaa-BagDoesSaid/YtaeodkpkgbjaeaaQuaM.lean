/- Layer 19 (quant): the numbers: the place of the line, how many are over it. -/
import Derived.Test.YtaeodkpkgbjaeaaScoN
import Derived.Test.YtaeodkpkgbjaeaaScoL
namespace Go.Proofs.Ytaeodkpkgbjaeaa
open Go.RowKit
set_option linter.unusedVariables false

def IdxOk (n part whole : Int) : Prop := 1 ≤ n ∧ n ≤ 4096 ∧ 2 ≤ whole ∧ whole ≤ 1000 ∧ 1 ≤ part ∧ part < whole
instance (n p w : Int) : Decidable (IdxOk n p w) := by unfold IdxOk; infer_instance
def idN (n part whole : Int) : Int := if IdxOk n part whole then -(-((whole - part) * n) / whole) else 0
def idE (n part whole : Int) : Int := if IdxOk n part whole then 0 else 1
abbrev idV (n part whole : Int) : Value := .tuple #[.int .i64 (idN n part whole), .int .i64 (idE n part whole)]
theorem idV_no {n p w : Int} (h : ¬ IdxOk n p w) : Ending.returned (.tuple #[.int .i64 0, .int .i64 1]) = .returned (idV n p w) := by
  unfold idV idN idE; rw [if_neg h, if_neg h]
theorem idV_ok {n p w k : Int} (h : IdxOk n p w) (hk : k = -(-((w - p) * n) / w)) : Ending.returned (.tuple #[.int .i64 k, .int .i64 0]) = .returned (idV n p w) := by
  unfold idV idN idE; rw [if_pos h, if_pos h, hk]
theorem ceil_mul {M ev : Int} (h : 1 ≤ ev) : M ≤ -(-M / ev) * ev ∧ -(-M / ev) * ev < M + ev := by
  have h1 := Int.mul_ediv_add_emod (-M) ev
  have h2 := Int.emod_nonneg (-M) (show ev ≠ 0 by omega)
  have h3 := Int.emod_lt_of_pos (-M) (show 0 < ev by omega)
  have h4 : -(-M / ev) * ev = -(ev * (-M / ev)) := by rw [Int.neg_mul, Int.mul_comm]
  rw [h4]
  omega
theorem mul_lt_can {a b ev : Int} (h : 1 ≤ ev) (h1 : a * ev < b * ev) : a < b := Int.lt_of_mul_lt_mul_right h1 (by omega)
theorem idx_prod {n p w : Int} (h : IdxOk n p w) : 1 ≤ (w - p) * n ∧ (w - p) * n ≤ 4091904 ∧ (w - p) * n + p * n = w * n ∧ 1 ≤ p * n ∧ p * n ≤ 4091904 ∧ 1 ≤ n * w ∧ n * w ≤ 4096000 := by
  obtain ⟨h1, h2, h3, h4, h5, h6⟩ := h
  have a1 : 1 * n ≤ (w - p) * n := Int.mul_le_mul_of_nonneg_right (by omega) (by omega)
  have a2 : (w - p) * n ≤ 999 * n := Int.mul_le_mul_of_nonneg_right (by omega) (by omega)
  have a3 : 1 * n ≤ p * n := Int.mul_le_mul_of_nonneg_right (by omega) (by omega)
  have a4 : p * n ≤ 999 * n := Int.mul_le_mul_of_nonneg_right (by omega) (by omega)
  have a5 : n * w ≤ n * 1000 := Int.mul_le_mul_of_nonneg_left (by omega) (by omega)
  have a6 : n * 1 ≤ n * w := Int.mul_le_mul_of_nonneg_left (by omega) (by omega)
  refine ⟨by omega, by omega, by rw [← Int.add_mul]; congr 1; omega, by omega, by omega, by omega, by omega⟩
theorem idN_bd {n p w : Int} (h : IdxOk n p w) : 1 ≤ idN n p w ∧ idN n p w ≤ n ∧ (w - p) * n ≤ idN n p w * w ∧ (idN n p w - 1) * w < (w - p) * n := by
  obtain ⟨b1, b2, b3, b4, b5, b6, b7⟩ := idx_prod h
  have hh := h
  obtain ⟨h1, h2, h3, h4, h5, h6⟩ := h
  obtain ⟨c1, c2⟩ := ceil_mul (M := (w - p) * n) (ev := w) (by omega)
  have e : idN n p w = -(-((w - p) * n) / w) := by unfold idN; rw [if_pos hh]
  rw [← e] at c1 c2
  generalize idN n p w = k at *
  have k1 : 0 < k := mul_lt_can (ev := w) (by omega) (by omega)
  have k2 : k < n + 1 := mul_lt_can (ev := w) (by omega) (by rw [Int.add_mul, Int.one_mul]; have : w * n = n * w := Int.mul_comm _ _; omega)
  refine ⟨by omega, by omega, c1, ?_⟩
  rw [Int.sub_mul, Int.one_mul]; omega
theorem idN_fit {n p w : Int} (h : IdxOk n p w) : (n - idN n p w) * w ≤ p * n ∧ p * n < (n - idN n p w + 1) * w ∧ 0 ≤ (n - idN n p w) * w ∧ (n - idN n p w + 1) * w ≤ 4096000 + 1000 := by
  obtain ⟨b1, b2, b3, b4, b5, b6, b7⟩ := idx_prod h
  obtain ⟨k1, k2, k3, k4⟩ := idN_bd h
  obtain ⟨h1, h2, h3, h4, h5, h6⟩ := h
  generalize idN n p w = k at *
  have e1 : (n - k) * w = n * w - k * w := Int.sub_mul _ _ _
  have e2 : (n - k + 1) * w = n * w - k * w + w := by rw [Int.add_mul, Int.one_mul, e1]
  have e3 : (k - 1) * w = k * w - w := by rw [Int.sub_mul, Int.one_mul]
  have e4 : w * n = n * w := Int.mul_comm _ _
  have e5 : 0 ≤ (n - k) * w := Int.mul_nonneg (by omega) (by omega)
  have e6 : 1 * w ≤ k * w := Int.mul_le_mul_of_nonneg_right (by omega) (by omega)
  refine ⟨by omega, by omega, e5, by omega⟩
theorem idN_next {n p w : Int} (h : IdxOk n p w) (h' : IdxOk (n + 1) p w) : idN (n + 1) p w = idN n p w ∨ idN (n + 1) p w = idN n p w + 1 := by
  obtain ⟨k1, k2, k3, k4⟩ := idN_bd h
  obtain ⟨m1, m2, m3, m4⟩ := idN_bd h'
  obtain ⟨h1, h2, h3, h4, h5, h6⟩ := h
  generalize idN n p w = k at *
  generalize idN (n + 1) p w = m at *
  rw [Int.mul_add, Int.mul_one] at m3 m4
  have e1 : (k - 1) * w = k * w - w := by rw [Int.sub_mul, Int.one_mul]
  have e2 : (m - 1) * w = m * w - w := by rw [Int.sub_mul, Int.one_mul]
  have a1 : k - 1 < m := mul_lt_can (ev := w) (by omega) (by omega)
  have a2 : m < k + 2 := mul_lt_can (ev := w) (by omega) (by rw [Int.add_mul]; omega)
  omega
/-- is it over the line? -/
def ovB (x y : PQ) : Bool := decide (0 ≤ oddC x.1 x.2 y.1 y.2)
def odB (x y : PQ) : Bool := decide (0 < oddC x.1 x.2 y.1 y.2)
def cntO (l : List PQ) (y : PQ) : Nat := l.countP fun x => ovB x y
def cntD (l : List PQ) (y : PQ) : Nat := l.countP fun x => odB x y
theorem countP_step {l : List PQ} {k : Nat} (f : PQ → Bool) (h : k < l.length) : (l.take (k + 1)).countP f = (l.take k).countP f + (if f (l.getD k pq0) = true then 1 else 0) := by
  rw [List.take_add_one, List.countP_append, List.getElem?_eq_getElem h, List.getD_eq_getElem?_getD, List.getElem?_eq_getElem h]
  simp [List.countP_cons]
theorem cntO_le (l : List PQ) (y : PQ) : cntO l y ≤ l.length := List.countP_le_length
theorem cntD_le (l : List PQ) (y : PQ) : cntD l y ≤ l.length := List.countP_le_length
theorem oddC_refl (a b : Int) : oddC a b a b = 0 := by
  rcases oddC_cases a b a b with ⟨h, e⟩ | ⟨h, e⟩ | ⟨h, e⟩ <;> omega
/-- of what is sorted, so many are over the one at a place, and so many are odder -/
theorem sort_shares {l s : List PQ} (h : IsSort l s) {k : Nat} (hk : 1 ≤ k) (hk2 : k ≤ l.length) : l.length - k + 1 ≤ cntO l (s.getD (k - 1) pq0) ∧ cntD l (s.getD (k - 1) pq0) ≤ l.length - k := by
  have hl := h.len
  have e1 : cntO l (s.getD (k - 1) pq0) = cntO s (s.getD (k - 1) pq0) := (h.1.countP_eq _).symm
  have e2 : cntD l (s.getD (k - 1) pq0) = cntD s (s.getD (k - 1) pq0) := (h.1.countP_eq _).symm
  rw [e1, e2, ← hl]
  have hlt : k - 1 < s.length := by omega
  have hy : s.getD (k - 1) pq0 = s[k - 1] := by rw [List.getD_eq_getElem?_getD, List.getElem?_eq_getElem hlt]; rfl
  rw [hy]
  have hp := List.pairwise_iff_getElem.1 h.2
  constructor
  · have h1 : (s.drop (k - 1)).countP (fun x => ovB x s[k - 1]) = (s.drop (k - 1)).length := by
      rw [List.countP_eq_length]
      intro x hx
      obtain ⟨j, hj, rfl⟩ := List.mem_iff_getElem.1 hx
      rw [List.getElem_drop]
      rw [List.length_drop] at hj
      unfold ovB
      rw [decide_eq_true_eq]
      by_cases h0 : j = 0
      · subst h0
        simp only [Nat.add_zero]
        rw [oddC_refl]; omega
      · have := hp (k - 1) (k - 1 + j) hlt (by omega) (by omega)
        unfold leS at this
        rw [oddC_neg] at this
        omega
    have h3 : s.countP (fun x => ovB x s[k - 1]) = (s.take (k - 1)).countP (fun x => ovB x s[k - 1]) + (s.drop (k - 1)).countP (fun x => ovB x s[k - 1]) := by
      rw [← List.countP_append, List.take_append_drop]
    unfold cntO
    rw [h3, h1, List.length_drop]
    omega
  · have h1 : (s.take k).countP (fun x => odB x s[k - 1]) = 0 := by
      rw [List.countP_eq_zero]
      intro x hx
      obtain ⟨j, hj, rfl⟩ := List.mem_iff_getElem.1 hx
      rw [List.length_take] at hj
      rw [List.getElem_take]
      unfold odB
      rw [decide_eq_true_eq]
      by_cases h0 : j = k - 1
      · subst h0
        rw [oddC_refl]; omega
      · have := hp j (k - 1) (by omega) hlt (by omega)
        unfold leS at this
        omega
    have h2 : (s.drop k).countP (fun x => odB x s[k - 1]) ≤ (s.drop k).length := List.countP_le_length
    rw [List.length_drop] at h2
    have h3 : s.countP (fun x => odB x s[k - 1]) = (s.take k).countP (fun x => odB x s[k - 1]) + (s.drop k).countP (fun x => odB x s[k - 1]) := by
      rw [← List.countP_append, List.take_append_drop]
    unfold cntD
    rw [h3, h1]
    omega
end Go.Proofs.Ytaeodkpkgbjaeaa
