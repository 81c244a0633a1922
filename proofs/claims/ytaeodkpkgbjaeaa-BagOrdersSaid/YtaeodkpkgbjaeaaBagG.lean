/- Layer 18 (bag): the blocks' scores in one row; what find tells of it. -/
import Derived.Test.YtaeodkpkgbjaeaaBagE
import Derived.Test.YtaeodkpkgbjaeaaScoN
namespace Go.Proofs.Ytaeodkpkgbjaeaa
open Go.RowKit
set_option linter.unusedVariables false
set_option linter.unusedSimpArgs false

/-- all scores, one block's behind the other's -/
def flat (bs : List Blk) : List PQ := bs.flatMap (fun b => b.2)
theorem flat_cons (b : Blk) (bs : List Blk) : flat (b :: bs) = b.2 ++ flat bs := rfl
theorem flat_app (a b : List Blk) : flat (a ++ b) = flat a ++ flat b := by simp [flat]
theorem sumA_zero (bs : List Blk) : sumA bs 0 = 0 := rfl
theorem sumA_cons (b : Blk) (bs : List Blk) : ∀ i, sumA (b :: bs) (i + 1) = b.2.length + sumA bs i
  | 0 => by rw [sumA_succ, sumA_zero, sumA_zero]; simp [lnA]
  | i + 1 => by
    rw [sumA_succ, sumA_cons b bs i, sumA_succ]
    have : lnA (b :: bs) (i + 1) = lnA bs i := by simp [lnA]
    omega
theorem sumA_all (bs : List Blk) : sumA bs bs.length = (flat bs).length := by
  induction bs with
  | nil => rfl
  | cons b bs ih => rw [List.length_cons, sumA_cons, flat_cons, List.length_append, ih]
theorem sumA_mono (bs : List Blk) {i j : Nat} (h : i ≤ j) : sumA bs i ≤ sumA bs j := by
  induction j with
  | zero => obtain rfl : i = 0 := by omega
            exact Nat.le_refl _
  | succ j ih =>
    rcases Nat.lt_or_ge i (j + 1) with g | g
    · have := ih (by omega); rw [sumA_succ]; omega
    · obtain rfl : i = j + 1 := by omega
      exact Nat.le_refl _
theorem flat_at : ∀ (bs : List Blk) (d r : Nat), d < bs.length → r < lnA bs d → (flat bs).getD (sumA bs d + r) pq0 = scA bs d r ∧ sumA bs d + r < (flat bs).length
  | [], d, r, h, _ => absurd h (by simp)
  | b :: bs, 0, r, h, hr => by
    have hr : r < b.2.length := by simpa [lnA] using hr
    rw [sumA_zero, flat_cons, Nat.zero_add]
    refine ⟨?_, by rw [List.length_append]; omega⟩
    simp [scA, List.getElem?_append_left hr]
  | b :: bs, d + 1, r, h, hr => by
    have hr : r < lnA bs d := by simpa [lnA] using hr
    obtain ⟨h1, h2⟩ := flat_at bs d r (by simpa using h) hr
    rw [sumA_cons, flat_cons]
    refine ⟨?_, by rw [List.length_append]; omega⟩
    rw [show b.2.length + sumA bs d + r = b.2.length + (sumA bs d + r) by omega]
    have e : scA (b :: bs) (d + 1) r = scA bs d r := by simp [scA]
    rw [e, ← h1, List.getD_eq_getElem?_getD, List.getElem?_append_right (by omega)]
    simp
/-- once told, told of all that follow -/
def MonoQ (Q : PQ → Bool) (l : List PQ) : Prop := ∀ i j, i ≤ j → j < l.length → Q (l.getD i pq0) = true → Q (l.getD j pq0) = true
/-- the first p are not told, all others are -/
structure CutQ (Q : PQ → Bool) (l : List PQ) (p : Nat) : Prop where
  le : p ≤ l.length
  no : ∀ i, i < p → Q (l.getD i pq0) = false
  yes : ∀ i, p ≤ i → i < l.length → Q (l.getD i pq0) = true
theorem MonoQ.m1 {Q : PQ → Bool} {bs : List Blk} (h : MonoQ Q (flat bs)) (hO : OkB bs) : ∀ i j : Nat, i ≤ j → j + 1 < bs.length → Q (scA bs (i + 1) 0) = true → Q (scA bs (j + 1) 0) = true := by
  intro i j hij hj hq
  obtain ⟨a1, a2⟩ := flat_at bs (i + 1) 0 (by omega) (hO.full _ (by omega) (by omega))
  obtain ⟨b1, b2⟩ := flat_at bs (j + 1) 0 hj (hO.full _ (by omega) hj)
  rw [← a1] at hq
  rw [← b1]
  exact h _ _ (by have := sumA_mono bs (show i + 1 ≤ j + 1 by omega); omega) b2 hq
theorem MonoQ.m2 {Q : PQ → Bool} {bs : List Blk} (h : MonoQ Q (flat bs)) : ∀ d i j : Nat, d < bs.length → i ≤ j → j < lnA bs d → Q (scA bs d i) = true → Q (scA bs d j) = true := by
  intro d i j hd hij hj hq
  obtain ⟨a1, a2⟩ := flat_at bs d i hd (by omega)
  obtain ⟨b1, b2⟩ := flat_at bs d j hd hj
  rw [← a1] at hq
  rw [← b1]
  exact h _ _ (by omega) b2 hq
theorem CutQ.of {Q : PQ → Bool} {bs : List Blk} (h : MonoQ Q (flat bs)) (hO : OkB bs) {d r : Nat} (hd : d < bs.length) (hr : r ≤ lnA bs d)
    (F1 : ∀ i, i < d → Q (scA bs (i + 1) 0) = false) (T1 : ∀ i, d ≤ i → i + 1 < bs.length → Q (scA bs (i + 1) 0) = true) (F2 : ∀ j, j < r → Q (scA bs d j) = false) (T2 : ∀ j, r ≤ j → j < lnA bs d → Q (scA bs d j) = true) :
    CutQ Q (flat bs) (sumA bs d + r) := by
  have hle : sumA bs d + r ≤ (flat bs).length := by
    rw [← sumA_all]
    have := sumA_mono bs (show d + 1 ≤ bs.length by omega)
    rw [sumA_succ] at this; omega
  refine ⟨hle, fun i hi => ?_, fun i h1 h2 => ?_⟩
  · have hr0 : 0 < r ∨ d = 0 := by
      rcases Nat.eq_zero_or_pos r with h0 | h0
      · right
        rcases Nat.eq_zero_or_pos d with g | g
        · exact g
        · have f := F1 (d - 1) (by omega)
          rw [show d - 1 + 1 = d by omega] at f
          rw [T2 0 (by omega) (hO.full d g hd)] at f
          cases f
      · exact Or.inl h0
    rcases hr0 with h0 | h0
    · obtain ⟨a1, a2⟩ := flat_at bs d (r - 1) hd (by omega)
      have f := F2 (r - 1) (by omega)
      rw [← a1] at f
      cases hq : Q ((flat bs).getD i pq0) with
      | false => rfl
      | true => rw [h i (sumA bs d + (r - 1)) (by omega) a2 hq] at f; cases f
    · subst h0
      rw [sumA_zero] at hi
      obtain ⟨a1, a2⟩ := flat_at bs 0 i hd (by omega)
      rw [sumA_zero, Nat.zero_add] at a1
      rw [a1]; exact F2 i (by omega)
  · rcases Nat.lt_or_ge r (lnA bs d) with g | g
    · obtain ⟨a1, a2⟩ := flat_at bs d r hd g
      have t := T2 r (Nat.le_refl _) g
      rw [← a1] at t
      exact h _ i h1 h2 t
    · rcases Nat.lt_or_ge (d + 1) bs.length with k | k
      · obtain ⟨a1, a2⟩ := flat_at bs (d + 1) 0 k (hO.full _ (by omega) k)
        have t := T1 d (Nat.le_refl _) k
        rw [← a1] at t
        refine h _ i ?_ h2 t
        rw [sumA_succ]; omega
      · have e : bs.length = d + 1 := by omega
        rw [← sumA_all, e, sumA_succ] at h2
        omega
theorem CutQ.count {Q : PQ → Bool} {l : List PQ} {p : Nat} (h : CutQ Q l p) : l.countP (fun x => !Q x) = p := by
  have e : l = l.take p ++ l.drop p := (List.take_append_drop p l).symm
  have hle := h.le
  have h1 : (l.take p).countP (fun x => !Q x) = p := by
    rw [List.countP_eq_length.2]
    · rw [List.length_take]; omega
    · intro x hx
      obtain ⟨i, hi, rfl⟩ := List.getElem_of_mem hx
      rw [List.length_take] at hi
      have := h.no i (by omega)
      rw [List.getElem_take]
      have e : l.getD i pq0 = l[i]'(by omega) := by simp [List.getElem?_eq_getElem (show i < l.length by omega)]
      rw [e] at this
      rw [this]; rfl
  have h2 : (l.drop p).countP (fun x => !Q x) = 0 := by
    rw [List.countP_eq_zero]
    intro x hx
    obtain ⟨i, hi, rfl⟩ := List.getElem_of_mem hx
    rw [List.length_drop] at hi
    have := h.yes (p + i) (by omega) (by omega)
    rw [List.getElem_drop]
    have e : l.getD (p + i) pq0 = l[p + i]'(by omega) := by simp [List.getElem?_eq_getElem (show p + i < l.length by omega)]
    rw [e] at this
    rw [this]; simp
  rw [e, List.countP_append, h1, h2]; rfl
/-- scores that are right, each no odder than those behind it -/
structure UpS (l : List PQ) : Prop where
  ok : ∀ x ∈ l, okP x
  up : l.Pairwise leS
theorem UpS.at {l : List PQ} (h : UpS l) {i j : Nat} (hij : i ≤ j) (hj : j < l.length) : leS (l.getD i pq0) (l.getD j pq0) := by
  have e1 : l.getD i pq0 = l[i]'(by omega) := by simp [List.getElem?_eq_getElem (show i < l.length by omega)]
  have e2 : l.getD j pq0 = l[j] := by simp [List.getElem?_eq_getElem hj]
  rw [e1, e2]
  rcases Nat.lt_or_ge i j with g | g
  · exact List.pairwise_iff_getElem.1 h.up i j (by omega) hj g
  · obtain rfl : i = j := by omega
    rw [leS_iff]; omega
theorem UpS.okAt {l : List PQ} (h : UpS l) {j : Nat} (hj : j < l.length) : okP (l.getD j pq0) := by
  have e2 : l.getD j pq0 = l[j] := by simp [List.getElem?_eq_getElem hj]
  rw [e2]
  exact h.ok _ (List.getElem_mem hj)
theorem byB_iff {x s : PQ} (hx : okP x) (hs : okP s) : byB x.1 x.2 s.1 s.2 = true ↔ ¬ leS x s := by
  unfold byB cpN leS
  have : ScoOk x.1 x.2 ∧ ScoOk s.1 s.2 := ⟨hx, hs⟩
  rw [if_pos this, decide_eq_true_iff]; omega
theorem UpS.mono2 {l : List PQ} (h : UpS l) {s : PQ} (hs : okP s) : MonoQ (fun x => byB x.1 x.2 s.1 s.2) l := by
  intro i j hij hj hq
  have oi := h.okAt (show i < l.length by omega)
  have oj := h.okAt hj
  have := (byB_iff oi hs).1 hq
  exact (byB_iff oj hs).2 fun hle => this (leS_trans oi oj hs (h.at hij hj) hle)
/-- s itself, or odder -/
def upB (s x : PQ) : Bool := decide (x = s) || byB x.1 x.2 s.1 s.2
theorem UpS.mono1 {l : List PQ} (h : UpS l) {s : PQ} (hs : okP s) : MonoQ (upB s) l := by
  intro i j hij hj hq
  have oi := h.okAt (show i < l.length by omega)
  have oj := h.okAt hj
  have hle := h.at hij hj
  unfold upB at *
  rw [Bool.or_eq_true, decide_eq_true_iff] at *
  by_cases hb : byB (l.getD j pq0).1 (l.getD j pq0).2 s.1 s.2 = true
  · exact Or.inr hb
  · left
    have h2 : leS (l.getD j pq0) s := by
      by_cases g : leS (l.getD j pq0) s
      · exact g
      · exact absurd ((byB_iff oj hs).2 g) hb
    rcases hq with e | e
    · rw [e] at hle
      exact leS_anti oj hs h2 hle
    · exact absurd (leS_trans oi oj hs hle h2) ((byB_iff oi hs).1 e)
/-- how many are less odd than s -/
def lessN (l : List PQ) (s : PQ) : Nat := l.countP fun x => decide (oddC x.1 x.2 s.1 s.2 < 0)
def sameN (l : List PQ) (s : PQ) : Nat := l.countP fun x => decide (x = s)
theorem UpS.less {l : List PQ} (h : UpS l) {s : PQ} (hs : okP s) : l.countP (fun x => !upB s x) = lessN l s := by
  unfold lessN
  refine List.countP_congr fun x hx => ?_
  have ox := h.ok x hx
  have z := oddC_zero (a := x.1) (b := x.2) (c := s.1) (d := s.2) ox hs
  have b := byB_iff ox hs
  unfold upB
  rw [Bool.not_eq_true', Bool.or_eq_false_iff, decide_eq_false_iff_not, decide_eq_true_iff]
  unfold leS at b
  constructor
  · rintro ⟨g1, g2⟩
    have n1 : ¬ oddC x.1 x.2 s.1 s.2 = 0 := fun e => g1 (Prod.ext (z.1 e).1 (z.1 e).2)
    have n2 : oddC x.1 x.2 s.1 s.2 ≤ 0 := by
      by_cases g : oddC x.1 x.2 s.1 s.2 ≤ 0
      · exact g
      · rw [b.2 g] at g2; cases g2
    omega
  · intro g
    refine ⟨fun e => ?_, ?_⟩
    · rw [e] at g
      have := (oddC_zero hs hs).2 ⟨rfl, rfl⟩
      omega
    · cases hq : byB x.1 x.2 s.1 s.2 with
      | false => rfl
      | true => exact absurd (by omega) (b.1 hq)
theorem UpS.both {l : List PQ} (h : UpS l) {s : PQ} (hs : okP s) : l.countP (fun x => !byB x.1 x.2 s.1 s.2) = lessN l s + sameN l s := by
  rw [← h.less hs]
  have ok := h.ok
  clear h
  induction l with
  | nil => rfl
  | cons x l ih =>
    have ih := ih fun y hy => ok y (List.mem_cons_of_mem _ hy)
    have ox := ok x List.mem_cons_self
    have b := byB_iff ox hs
    unfold sameN at *
    rw [List.countP_cons, List.countP_cons, List.countP_cons, ih]
    have key : (if (!byB x.1 x.2 s.1 s.2) = true then 1 else 0) = (if (!upB s x) = true then 1 else 0) + (if decide (x = s) = true then 1 else 0) := by
      unfold upB
      by_cases e : x = s
      · subst e
        have : byB x.1 x.2 x.1 x.2 = false := by
          cases hq : byB x.1 x.2 x.1 x.2 with
          | false => rfl
          | true => exact absurd (by rw [leS_iff]; omega) (b.1 hq)
        simp [this]
      · simp [e]
    omega
end Go.Proofs.Ytaeodkpkgbjaeaa
