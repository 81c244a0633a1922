/- Plain arithmetic of digits of base 65536, the lowest first: no Go in sight. -/
import Derived.WalkKit
namespace Go.Proofs.YtbnpbflndnjmcaaDoor

/-- the digits of a number from 0 on, without noughts at the top -/
def digs (n : Int) : List Int := if h : n ≤ 0 then [] else n % 65536 :: digs (n / 65536)
termination_by n.toNat
decreasing_by omega
/-- what digits say -/
def val : List Int → Int
  | [] => 0
  | d :: l => d + 65536 * val l
def Dig (l : List Int) : Prop := ∀ d ∈ l, 0 ≤ d ∧ d < 65536
def pw (k : Nat) : Int := 65536 ^ k

theorem digs_0 {n : Int} (h : n ≤ 0) : digs n = [] := by rw [digs, dif_pos h]
theorem digs_s {n : Int} (h : 0 < n) : digs n = n % 65536 :: digs (n / 65536) := by rw [digs, dif_neg (by omega)]
theorem val_digs (n : Int) (h : 0 ≤ n) : val (digs n) = n := by
  by_cases h0 : n = 0
  · subst h0; rw [digs_0 (by omega)]; rfl
  · rw [digs_s (by omega), val, val_digs (n / 65536) (by omega)]; omega
termination_by n.toNat
decreasing_by omega
theorem dig_digs (n : Int) : Dig (digs n) := by
  by_cases h0 : n ≤ 0
  · rw [digs_0 h0]; intro d hd; cases hd
  · rw [digs_s (by omega)]
    intro d hd
    rcases List.mem_cons.1 hd with rfl | hd
    · omega
    · exact dig_digs (n / 65536) d hd
termination_by n.toNat
decreasing_by omega
theorem pw_0 : pw 0 = 1 := rfl
theorem pw_s (k : Nat) : pw (k + 1) = pw k * 65536 := by unfold pw; rw [Int.pow_succ]
theorem pw_pos (k : Nat) : 0 < pw k := by
  induction k with
  | zero => decide
  | succ k ih => rw [pw_s]; omega
theorem pw_mono {a b : Nat} (h : a ≤ b) : pw a ≤ pw b := by
  induction b with
  | zero => rw [Nat.le_zero.1 h]; exact Int.le_refl _
  | succ b ih =>
    rcases Nat.lt_or_ge b a with h1 | h1
    · rw [show a = b + 1 from by omega]; exact Int.le_refl _
    · have := ih h1
      have := pw_pos b
      rw [pw_s b]; omega
theorem val_nonneg {l : List Int} (h : Dig l) : 0 ≤ val l := by
  induction l with
  | nil => exact Int.le_refl _
  | cons d l ih =>
    have := ih fun x hx => h x (List.mem_cons_of_mem _ hx)
    have := (h d List.mem_cons_self).1
    rw [val]; omega
theorem val_lt {l : List Int} (h : Dig l) : val l < pw l.length := by
  induction l with
  | nil => decide
  | cons d l ih =>
    have := ih fun x hx => h x (List.mem_cons_of_mem _ hx)
    have := (h d List.mem_cons_self).2
    rw [val, List.length_cons, pw_s]; omega
theorem val_append (a b : List Int) : val (a ++ b) = val a + pw a.length * val b := by
  induction a with
  | nil => simp [val, pw]
  | cons d a ih =>
    rw [List.cons_append, val, val, ih, List.length_cons, pw_s]
    grind
theorem val_snoc (a : List Int) (d : Int) : val (a ++ [d]) = val a + pw a.length * d := by
  rw [val_append]; simp [val]
theorem val_take (l : List Int) (k : Nat) (h : k < l.length) : val (l.take (k + 1)) = val (l.take k) + pw k * l.getD k 0 := by
  rw [List.take_succ_eq_append_getElem h, val_snoc, List.length_take, Nat.min_eq_left (by omega)]
  simp [List.getD, h]
theorem val_drop (l : List Int) (k : Nat) (h : k < l.length) : val (l.drop k) = l.getD k 0 + 65536 * val (l.drop (k + 1)) := by
  rw [List.drop_eq_getElem_cons h, val]
  simp [List.getD, h]
theorem val_drop_ge (l : List Int) (k : Nat) (h : l.length ≤ k) : val (l.drop k) = 0 := by
  rw [List.drop_eq_nil_of_le h]; rfl
theorem dig_take {l : List Int} (h : Dig l) (k : Nat) : Dig (l.take k) := fun d hd => h d (List.mem_of_mem_take hd)
theorem dig_drop {l : List Int} (h : Dig l) (k : Nat) : Dig (l.drop k) := fun d hd => h d (List.mem_of_mem_drop hd)
theorem dig_snoc {l : List Int} (h : Dig l) {d : Int} (h0 : 0 ≤ d) (h1 : d < 65536) : Dig (l ++ [d]) := fun x hx => by
  rcases List.mem_append.1 hx with h2 | h2
  · exact h x h2
  · rw [List.mem_singleton.1 h2]; exact ⟨h0, h1⟩
theorem dig_getD {l : List Int} (h : Dig l) (k : Nat) : 0 ≤ l.getD k 0 ∧ l.getD k 0 < 65536 := by
  by_cases hk : k < l.length
  · rw [List.getD_eq_getElem?_getD, List.getElem?_eq_getElem hk]; exact h _ (List.getElem_mem _)
  · rw [List.getD_eq_getElem?_getD, List.getElem?_eq_none (by omega)]; simp
/-- digits without a nought at the top are the digits of what they say -/
theorem digs_val {l : List Int} (h : Dig l) (ht : l = [] ∨ l.getD (l.length - 1) 0 ≠ 0) : digs (val l) = l := by
  induction l with
  | nil => rw [val, digs_0 (by omega)]
  | cons d l ih =>
    have hd := h d List.mem_cons_self
    have hl : Dig l := fun x hx => h x (List.mem_cons_of_mem _ hx)
    have hv := val_nonneg hl
    cases l with
    | nil =>
      have h0 : d ≠ 0 := by
        rcases ht with ht | ht
        · cases ht
        · simpa using ht
      rw [val, val, digs_s (by omega)]
      have e1 : (d + 65536 * 0) % 65536 = d := by omega
      have e2 : (d + 65536 * 0) / 65536 = 0 := by omega
      rw [e1, e2, digs_0 (by omega)]
    | cons e m =>
      have ih' := ih hl (.inr (by
        rcases ht with ht | ht
        · cases ht
        · simpa [List.length_cons] using ht))
      have hp : 0 < val (e :: m) := by
        rcases Int.lt_or_le 0 (val (e :: m)) with h0 | h0
        · exact h0
        · rw [digs_0 h0] at ih'; cases ih'
      rw [val, digs_s (by omega)]
      have e1 : (d + 65536 * val (e :: m)) % 65536 = d := by omega
      have e2 : (d + 65536 * val (e :: m)) / 65536 = val (e :: m) := by omega
      rw [e1, e2, ih']
/-- at the top of digits there is no nought -/
theorem digs_top (n : Int) (h : 0 < n) : (digs n).getD ((digs n).length - 1) 0 ≠ 0 := by
  rw [digs_s h]
  by_cases h1 : n / 65536 = 0
  · rw [h1, digs_0 (by omega)]; simp; omega
  · have ih := digs_top (n / 65536) (by omega)
    have hne : (digs (n / 65536)).length ≠ 0 := by
      intro h2
      rw [List.length_eq_zero_iff] at h2
      rw [digs_s (by omega)] at h2
      cases h2
    have : (n % 65536 :: digs (n / 65536)).length - 1 = ((digs (n / 65536)).length - 1) + 1 := by rw [List.length_cons]; omega
    rw [this, List.getD_cons_succ]
    exact ih
termination_by n.toNat
decreasing_by omega
theorem digs_len (n : Int) (k : Nat) (h : n < pw k) : (digs n).length ≤ k := by
  induction k generalizing n with
  | zero => rw [digs_0 (by rw [pw_0] at h; omega)]; exact Nat.le_refl _
  | succ k ih =>
    by_cases h0 : n ≤ 0
    · rw [digs_0 h0]; exact Nat.zero_le _
    · rw [digs_s (by omega), List.length_cons]
      have := ih (n / 65536) (by rw [pw_s] at h; omega)
      omega
theorem digs_len_ge (n : Int) (k : Nat) (h : pw k ≤ n) : k < (digs n).length := by
  have h1 := val_lt (dig_digs n)
  rw [val_digs n (by have := pw_pos k; omega)] at h1
  rcases Nat.lt_or_ge k (digs n).length with h2 | h2
  · exact h2
  · have h3 : pw (digs n).length ≤ pw k := pw_mono h2
    omega
end Go.Proofs.YtbnpbflndnjmcaaDoor
