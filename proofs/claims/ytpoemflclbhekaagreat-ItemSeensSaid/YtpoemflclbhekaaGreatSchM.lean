/- Layer 20 (sched): the numbers: which way to work is right, the next turn, how many turns there are, where trees are grown. -/
import Derived.Test.YtpoemflclbhekaaGreatBase
namespace Go.Proofs.YtpoemflclbhekaaGreat
open Go.RowKit
set_option linter.unusedVariables false

/-- is a way to work right? -/
def CfOk (dim win tr sam ev kind part whole tries keep notes : Int) : Prop :=
  (1 ≤ dim ∧ dim ≤ 8) ∧ (2 ≤ win ∧ win ≤ 256) ∧ (1 ≤ tr ∧ tr ≤ 16) ∧ (2 ≤ sam ∧ sam ≤ 64 ∧ sam ≤ win) ∧ (1 ≤ ev ∧ ev ≤ 256) ∧ (1 ≤ kind ∧ kind ≤ 2) ∧ (2 ≤ whole ∧ whole ≤ 1000) ∧ (1 ≤ part ∧ part ≤ whole - 1) ∧ (1 ≤ tries ∧ tries ≤ 64) ∧ (1 ≤ keep ∧ keep ≤ 64) ∧ (1 ≤ notes ∧ notes ≤ 256)
instance (a b c d e f g h i j k : Int) : Decidable (CfOk a b c d e f g h i j k) := by unfold CfOk; infer_instance

/-- the next turn behind a count -/
def nextVS (sam ev n : Int) : Int := -(-(max sam (n + 1)) / ev) * ev
/-- the turns up to a count -/
def upV (sam ev n : Int) : Int := max 0 (n / ev - (sam - 1) / ev)
def turnsV (sam ev a b : Int) : Int := max 0 (upV sam ev b - upV sam ev a)
def turnP (sam ev n : Int) : Prop := sam ≤ n ∧ n % ev = 0
instance (a b c : Int) : Decidable (turnP a b c) := by unfold turnP; infer_instance

theorem ceil_bd {M ev : Int} (h : 1 ≤ ev) : M ≤ -(-M / ev) * ev ∧ -(-M / ev) * ev < M + ev := by
  have h1 := Int.mul_ediv_add_emod (-M) ev
  have h2 := Int.emod_nonneg (-M) (show ev ≠ 0 by omega)
  have h3 := Int.emod_lt_of_pos (-M) (show 0 < ev by omega)
  have h4 : -(-M / ev) * ev = -(ev * (-M / ev)) := by rw [Int.neg_mul, Int.mul_comm]
  rw [h4]
  omega
theorem mul_lt_cancel {a b ev : Int} (h : 1 ≤ ev) (h1 : a * ev < b * ev) : a < b := Int.lt_of_mul_lt_mul_right h1 (by omega)
theorem next_bd {sam ev n : Int} (h : 1 ≤ ev) : max sam (n + 1) ≤ nextVS sam ev n ∧ nextVS sam ev n < max sam (n + 1) + ev := ceil_bd h
theorem next_turn {sam ev n : Int} (h : 1 ≤ ev) : turnP sam ev (nextVS sam ev n) := by
  refine ⟨by have := (next_bd (sam := sam) (n := n) h).1; omega, ?_⟩
  unfold nextVS
  exact Int.mul_emod_left _ _
theorem next_least {sam ev n m : Int} (h : 1 ≤ ev) (h1 : n < m) (h2 : m < nextVS sam ev n) : ¬ turnP sam ev m := by
  rintro ⟨h3, h4⟩
  have hb := (next_bd (sam := sam) (n := n) h).2
  obtain ⟨k, rfl⟩ := Int.dvd_of_emod_eq_zero h4
  unfold nextVS at h2 hb
  generalize -(-(max sam (n + 1)) / ev) = q at *
  rw [Int.mul_comm] at h2 h1 h3
  have := mul_lt_cancel h h2
  have h5 : (k + 1) * ev ≤ q * ev := Int.mul_le_mul_of_nonneg_right (by omega) (by omega)
  rw [Int.add_mul, Int.one_mul] at h5
  omega
theorem ceil_floor {M ev : Int} (h : 1 ≤ ev) : -(-M / ev) = (M - 1) / ev + 1 := by
  have hb := ceil_bd (M := M) h
  have h1 := Int.mul_ediv_add_emod (M - 1) ev
  have h2 := Int.emod_nonneg (M - 1) (show ev ≠ 0 by omega)
  have h3 := Int.emod_lt_of_pos (M - 1) (show 0 < ev by omega)
  generalize -(-M / ev) = q at *
  generalize (M - 1) / ev = m at *
  rw [Int.mul_comm] at h1
  have a1 : m < q := mul_lt_cancel h (by omega)
  have a2 : q < m + 2 := mul_lt_cancel h (by rw [Int.add_mul]; omega)
  omega
theorem max_ediv {a b ev : Int} (h : 1 ≤ ev) : (max a b) / ev = max (a / ev) (b / ev) := by
  rcases Int.le_total a b with g | g
  · rw [Int.max_eq_right g, Int.max_eq_right (Int.ediv_le_ediv (by omega) g)]
  · rw [Int.max_eq_left g, Int.max_eq_left (Int.ediv_le_ediv (by omega) g)]
theorem next_eq {sam ev n : Int} (h : 1 ≤ ev) : nextVS sam ev n = (max ((sam - 1) / ev) (n / ev) + 1) * ev := by
  unfold nextVS
  rw [ceil_floor h, show max sam (n + 1) - 1 = max (sam - 1) n from by omega, max_ediv h]
theorem turns_ref {sam ev a b : Int} (h : 1 ≤ ev) : (if nextVS sam ev a > b then 0 else (b - nextVS sam ev a) / ev + 1) = turnsV sam ev a b := by
  rw [next_eq h]
  unfold turnsV upV
  have h1 := Int.mul_ediv_add_emod b ev
  have h2 := Int.emod_nonneg b (show ev ≠ 0 by omega)
  have h3 := Int.emod_lt_of_pos b (show 0 < ev by omega)
  rw [Int.mul_comm] at h1
  generalize (sam - 1) / ev = s at *
  generalize a / ev = F at *
  by_cases hg : (max s F + 1) * ev > b
  · rw [if_pos hg]
    have : b / ev < max s F + 1 := mul_lt_cancel h (by omega)
    omega
  · rw [if_neg hg]
    have hq : (b - (max s F + 1) * ev) / ev = b / ev - (max s F + 1) := by
      rw [show b - (max s F + 1) * ev = b + (-(max s F + 1)) * ev from by rw [Int.neg_mul]; omega, Int.add_mul_ediv_right _ _ (by omega)]
      omega
    rw [hq]
    have : max s F + 1 < b / ev + 1 := mul_lt_cancel h (by rw [Int.add_mul (b / ev)]; omega)
    omega
theorem next_again {sam ev n : Int} (h : 1 ≤ ev) (hn : sam ≤ n) (hm : n % ev = 0) : nextVS sam ev n = n + ev := by
  obtain ⟨k, rfl⟩ := Int.dvd_of_emod_eq_zero hm
  rw [next_eq h, Int.mul_ediv_cancel_left _ (by omega)]
  have h2 : (sam - 1) / ev ≤ k := by
    have := Int.ediv_le_ediv (a := sam - 1) (b := ev * k) (c := ev) (by omega) (by omega)
    rwa [Int.mul_ediv_cancel_left _ (by omega)] at this
  rw [Int.max_eq_right h2, Int.add_mul, Int.one_mul, Int.mul_comm]
theorem turns_step {sam ev n : Int} (h : 1 ≤ ev) : turnsV sam ev n (nextVS sam ev n) = 1 := by
  rw [← turns_ref h, if_neg (by omega)]
  simp

/-- the place of the first one of the least of the first k -/
def amK (b : List Int) : Nat → Nat
  | 0 => 0
  | k + 1 => if b.getD k 0 < b.getD (amK b k) 0 then k else amK b k
theorem amK_lt (b : List Int) (k : Nat) (h : 0 < k) : amK b k < k := by
  induction k with
  | zero => omega
  | succ k ih =>
    unfold amK
    split
    · omega
    · by_cases hk : k = 0
      · subst hk; simp [amK]
      · have := ih (by omega); omega
/-- where a tree is grown -/
def placeV (tr : Nat) (b : List Int) : Nat := if b.length < tr then b.length else amK b b.length
theorem placeV_le {tr : Nat} (h : 0 < tr) (b : List Int) : placeV tr b ≤ b.length := by
  unfold placeV
  split
  · omega
  · have := amK_lt b b.length (by omega); omega
theorem placeV_full {tr : Nat} {b : List Int} (h : 0 < tr) (hb : ¬ b.length < tr) : placeV tr b < b.length := by
  unfold placeV
  rw [if_neg hb]
  exact amK_lt b b.length (by omega)
/-- the births when one more tree was grown -/
def bornV (tr : Nat) (b : List Int) (n : Int) : List Int := if b.length < tr then b ++ [n] else b.set (placeV tr b) n
theorem bornV_len {tr : Nat} {b : List Int} (n : Int) (h : b.length ≤ tr) : (bornV tr b n).length ≤ tr := by
  unfold bornV
  split <;> simp <;> omega
/-- the births behind k turns, the first one of them n -/
def plB (tr : Nat) (ev n : Int) (b : List Int) : Nat → List Int
  | 0 => b
  | k + 1 => bornV tr (plB tr ev n b k) (n + ev * k)
def plI (tr : Nat) (ev n : Int) (b : List Int) : Nat → List Int
  | 0 => []
  | k + 1 => plI tr ev n b k ++ [((placeV tr (plB tr ev n b k) : Nat) : Int)]
theorem plB_len {tr : Nat} {ev n : Int} {b : List Int} (h : b.length ≤ tr) (k : Nat) : (plB tr ev n b k).length ≤ tr := by
  induction k with
  | zero => exact h
  | succ k ih => exact bornV_len _ ih
theorem plI_len (tr : Nat) (ev n : Int) (b : List Int) (k : Nat) : (plI tr ev n b k).length = k := by
  induction k with
  | zero => rfl
  | succ k ih => simp [plI, ih]
/-! From nothing on: the places go round. -/
theorem amK_at {b : List Int} {m t : Nat} (hm : ∀ i, i < m → i ≠ t → b.getD t 0 < b.getD i 0) (k : Nat) (h1 : t < k) (h2 : k ≤ m) : amK b k = t := by
  induction k with
  | zero => omega
  | succ k ih =>
    unfold amK
    by_cases hk : k = t
    · subst hk
      by_cases h0 : k = 0
      · subst h0; simp [amK]
      · have h3 := amK_lt b k (by omega)
        rw [if_pos (hm _ (by omega) (by omega))]
    · have h4 := ih (by omega) (by omega)
      rw [h4, if_neg (by have := hm k (by omega) hk; omega)]
/-- behind k turns from nothing on -/
def RoundB (tr : Nat) (ev n : Int) (b : List Int) (k : Nat) : Prop := b.length = min k tr ∧ ∀ j : Nat, j < k → k ≤ j + tr → b.getD (j % tr) 0 = n + ev * j
theorem ev_lt {ev : Int} (hev : 1 ≤ ev) {a b : Nat} (h : a < b) : ev * (a : Int) < ev * (b : Int) := Int.mul_lt_mul_of_pos_left (by omega) (by omega)
theorem placeV_round {tr : Nat} {ev n : Int} {b : List Int} {k : Nat} (ht : 0 < tr) (hev : 1 ≤ ev) (h : RoundB tr ev n b k) : placeV tr b = k % tr := by
  obtain ⟨h1, h2⟩ := h
  unfold placeV
  by_cases hk : k < tr
  · rw [if_pos (by omega), h1, Nat.mod_eq_of_lt hk]; omega
  · rw [if_neg (by omega)]
    have hm : (k - tr) % tr = k % tr := by rw [show k = k - tr + tr from by omega, Nat.add_mod_right, show k - tr + tr - tr = k - tr from by omega]
    refine amK_at (m := b.length) (t := k % tr) ?_ _ (by have := Nat.mod_lt k ht; omega) (Nat.le_refl _)
    intro i hi hne
    have e1 := h2 (k - tr) (by omega) (by omega)
    rw [hm] at e1
    have hlt : i < tr := by omega
    have hq : (k - 1 - i) % tr < tr := Nat.mod_lt _ ht
    have hdm := Nat.mod_add_div (k - 1 - i) tr
    have hj : (k - 1 - (k - 1 - i) % tr) % tr = i := by
      rw [show k - 1 - (k - 1 - i) % tr = i + tr * ((k - 1 - i) / tr) from by omega, Nat.add_mul_mod_self_left, Nat.mod_eq_of_lt hlt]
    have e2 := h2 (k - 1 - (k - 1 - i) % tr) (by omega) (by omega)
    rw [hj] at e2
    rw [e1, e2]
    have : k - tr ≠ k - 1 - (k - 1 - i) % tr := fun hh => hne (by rw [← hj, ← hh, hm])
    have := ev_lt hev (a := k - tr) (b := k - 1 - (k - 1 - i) % tr) (by omega)
    omega
theorem roundB_all {tr : Nat} {ev n : Int} (ht : 0 < tr) (hev : 1 ≤ ev) (k : Nat) : RoundB tr ev n (plB tr ev n [] k) k := by
  induction k with
  | zero => exact ⟨by simp [plB], fun j hj => by omega⟩
  | succ k ih =>
    have hp := placeV_round ht hev ih
    obtain ⟨h1, h2⟩ := ih
    show RoundB tr ev n (bornV tr (plB tr ev n [] k) (n + ev * k)) (k + 1)
    generalize plB tr ev n [] k = b at *
    unfold bornV
    rw [hp]
    by_cases hk : k < tr
    · rw [if_pos (by omega)]
      refine ⟨by simp; omega, fun j hj hj2 => ?_⟩
      by_cases e : j = k
      · subst e
        rw [Nat.mod_eq_of_lt hk, List.getD_eq_getElem?_getD, List.getElem?_append_right (by omega)]
        simp [show j - b.length = 0 from by omega]
      · have := h2 j (by omega) (by omega)
        rw [Nat.mod_eq_of_lt (by omega)] at this ⊢
        rw [List.getD_eq_getElem?_getD, List.getElem?_append_left (by omega), ← List.getD_eq_getElem?_getD]
        exact this
    · rw [if_neg (by omega)]
      have hkm := Nat.mod_lt k ht
      refine ⟨by simp; omega, fun j hj hj2 => ?_⟩
      by_cases e : j = k
      · subst e
        rw [List.getD_eq_getElem?_getD, List.getElem?_set_self (by omega)]
        rfl
      · have hne : k % tr ≠ j % tr := by
          intro hh
          have d1 := Nat.mod_add_div k tr
          have d2 := Nat.mod_add_div j tr
          have : tr * (k / tr) < tr * (j / tr + 1) := by rw [Nat.mul_add]; omega
          have a1 := Nat.lt_of_mul_lt_mul_left this
          have : tr * (j / tr) < tr * (k / tr) := by omega
          have a2 := Nat.lt_of_mul_lt_mul_left this
          omega
        rw [List.getD_eq_getElem?_getD, List.getElem?_set_ne hne, ← List.getD_eq_getElem?_getD]
        exact h2 j (by omega) (by omega)
theorem plI_get {tr : Nat} {ev n : Int} (ht : 0 < tr) (hev : 1 ≤ ev) (k i : Nat) (hi : i < k) : (plI tr ev n [] k).getD i 0 = ((i % tr : Nat) : Int) := by
  induction k with
  | zero => omega
  | succ k ih =>
    unfold plI
    by_cases e : i = k
    · subst e
      rw [List.getD_eq_getElem?_getD, List.getElem?_append_right (by rw [plI_len]; omega), plI_len]
      simp [placeV_round ht hev (roundB_all (n := n) ht hev i)]
    · rw [List.getD_eq_getElem?_getD, List.getElem?_append_left (by rw [plI_len]; omega), ← List.getD_eq_getElem?_getD]
      exact ih (by omega)
/-- the last turn of k -/
def lastV (ev n : Int) (k : Nat) : Int := if k = 0 then 0 else n + ev * ((k - 1 : Nat) : Int)
theorem born_bd {tr : Nat} {ev n : Int} (ht : 0 < tr) (hev : 1 ≤ ev) (k i : Nat) (hi : i < (plB tr ev n [] k).length) :
    (plB tr ev n [] k).getD i 0 ≤ lastV ev n k ∧ lastV ev n k - (plB tr ev n [] k).getD i 0 ≤ ((tr : Int) - 1) * ev := by
  obtain ⟨h1, h2⟩ := roundB_all (n := n) ht hev k
  have hlt : i < tr := by omega
  have hq : (k - 1 - i) % tr < tr := Nat.mod_lt _ ht
  have hdm := Nat.mod_add_div (k - 1 - i) tr
  have hj : (k - 1 - (k - 1 - i) % tr) % tr = i := by
    rw [show k - 1 - (k - 1 - i) % tr = i + tr * ((k - 1 - i) / tr) from by omega, Nat.add_mul_mod_self_left, Nat.mod_eq_of_lt hlt]
  have e2 := h2 (k - 1 - (k - 1 - i) % tr) (by omega) (by omega)
  rw [hj] at e2
  rw [e2]
  unfold lastV
  rw [if_neg (by omega)]
  have q1 : (k - 1 - i) % tr ≤ tr - 1 := by omega
  have q2 : ((k - 1 : Nat) : Int) = ((k - 1 - (k - 1 - i) % tr : Nat) : Int) + (((k - 1 - i) % tr : Nat) : Int) := by omega
  rw [q2, Int.mul_add]
  have q3 : ev * (((k - 1 - i) % tr : Nat) : Int) ≤ ((tr : Int) - 1) * ev := by
    rw [Int.mul_comm]
    exact Int.mul_le_mul_of_nonneg_right (by omega) (by omega)
  have q4 : 0 ≤ ev * (((k - 1 - i) % tr : Nat) : Int) := Int.mul_nonneg (by omega) (by omega)
  omega
theorem lastV_next {sam ev : Int} (hev : 1 ≤ ev) (hs : 1 ≤ sam) (k : Nat) : nextVS sam ev (lastV ev (nextVS sam ev 0) k) = lastV ev (nextVS sam ev 0) (k + 1) := by
  obtain ⟨h1, h2⟩ := next_turn (sam := sam) (n := 0) hev
  unfold lastV
  by_cases hk : k = 0
  · subst hk; simp
  · rw [if_neg hk, if_neg (by omega)]
    have q : 0 ≤ ev * ((k - 1 : Nat) : Int) := Int.mul_nonneg (by omega) (by omega)
    rw [next_again hev (by omega) (by rw [Int.add_mul_emod_self_left]; exact h2)]
    rw [show ((k + 1 - 1 : Nat) : Int) = ((k - 1 : Nat) : Int) + 1 from by omega, Int.mul_add, Int.mul_one]
    omega
theorem lastV_turns {sam ev : Int} (hev : 1 ≤ ev) (hs : 1 ≤ sam) (k : Nat) : turnsV sam ev 0 (lastV ev (nextVS sam ev 0) k) = k := by
  unfold lastV
  by_cases hk : k = 0
  · subst hk; simp [turnsV]
  · rw [if_neg hk, ← turns_ref hev]
    have q : 0 ≤ ev * ((k - 1 : Nat) : Int) := Int.mul_nonneg (by omega) (by omega)
    rw [if_neg (by omega), show nextVS sam ev 0 + ev * ((k - 1 : Nat) : Int) - nextVS sam ev 0 = ev * ((k - 1 : Nat) : Int) from by omega, Int.mul_ediv_cancel_left _ (by omega)]
    omega
theorem lastV_bd {sam ev : Int} (hev : 1 ≤ ev) (he2 : ev ≤ 256) (hs : 1 ≤ sam) (hs2 : sam ≤ 64) (k : Nat) (hk : k ≤ 64) : 0 ≤ lastV ev (nextVS sam ev 0) k ∧ lastV ev (nextVS sam ev 0) k ≤ 20000 := by
  have hb := next_bd (sam := sam) (n := 0) hev
  unfold lastV
  by_cases h0 : k = 0
  · rw [if_pos h0]; omega
  · rw [if_neg h0]
    have q : 0 ≤ ev * ((k - 1 : Nat) : Int) := Int.mul_nonneg (by omega) (by omega)
    have q2 : ev * ((k - 1 : Nat) : Int) ≤ 256 * 63 := by
      have a1 : ev * ((k - 1 : Nat) : Int) ≤ 256 * ((k - 1 : Nat) : Int) := Int.mul_le_mul_of_nonneg_right he2 (by omega)
      omega
    omega
end Go.Proofs.YtpoemflclbhekaaGreat
