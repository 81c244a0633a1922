import Derived.Test.YtdcemcpcjdkpjaaCutT

/-! Layer 10: nodes that are a tree: numbers. -/
namespace Go.Proofs.Ytdcemcpcjdkpjaa
open Go.RowKit
set_option linter.unusedVariables false
set_option linter.unusedSimpArgs false

/-- a node: the cut's parts (where they lie, their room), its level, Left, Right, Size -/
structure TN where
  a : Option Addr
  c : Nat
  co : List Int
  lv : Int
  lf : Int
  rt : Int
  sz : Int
def tn0 : TN := ⟨none, 0, [], 0, 0, 0, 0⟩
def leafN (n : TN) : Prop := n.lf = 0 ∧ n.rt = 0 ∧ n.co.length = 0 ∧ n.lv = 0 ∧ 1 ≤ n.sz ∧ n.sz ≤ 64
instance (n : TN) : Decidable (leafN n) := by unfold leafN; exact inferInstance
/-- the nodes from i up to e are a subtree whose deepest leaf is d steps down -/
inductive Sub (N : List TN) (dim : Int) : Nat → Nat → Nat → Prop where
  | leaf {i : Nat} (hi : i < N.length) (hl : leafN (N.getD i tn0)) : Sub N dim i (i + 1) 0
  | inner {i m e d1 d2 : Nat} (hi : i < N.length) (hl : (N.getD i tn0).lf = (i : Int) + 1) (hr : (N.getD i tn0).rt = m) (hc : isC (N.getD i tn0).co (N.getD i tn0).lv dim = true)
      (h1 : Sub N dim (i + 1) m d1) (h2 : Sub N dim m e d2) (hs : (N.getD i tn0).sz = (N.getD (i + 1) tn0).sz + (N.getD m tn0).sz) : Sub N dim i e (1 + max d1 d2)
theorem Sub.lt {N : List TN} {dim : Int} {i e d : Nat} (h : Sub N dim i e d) : i < e ∧ e ≤ N.length := by
  induction h with
  | leaf hi _ => exact ⟨by omega, by omega⟩
  | inner hi _ _ _ _ _ _ ih1 ih2 => exact ⟨by omega, ih2.2⟩
theorem Sub.unique {N : List TN} {dim : Int} {i e d : Nat} (h : Sub N dim i e d) : ∀ {e' d' : Nat}, Sub N dim i e' d' → e' = e ∧ d' = d := by
  induction h with
  | leaf hi hl =>
    intro e' d' h'
    cases h' with
    | leaf => exact ⟨rfl, rfl⟩
    | inner _ hl' => have := hl.1; omega
  | inner hi hl hr hc h1 h2 hs ih1 ih2 =>
    intro e' d' h'
    cases h' with
    | leaf _ hl' => have := hl'.1; omega
    | @inner _ m' _ d1' d2' _ _ hr' _ h1' h2' _ =>
      obtain ⟨rfl, rfl⟩ := ih1 h1'
      obtain ⟨rfl, rfl⟩ := ih2 h2'
      exact ⟨rfl, rfl⟩
theorem Sub.all {N : List TN} {dim : Int} {i e d : Nat} (h : Sub N dim i e d) : ∀ j, i ≤ j → j < e → ∃ e' d', Sub N dim j e' d' := by
  induction h with
  | leaf hi hl =>
    intro j h1 h2
    obtain rfl : j = _ := Nat.le_antisymm (by omega) h1
    exact ⟨_, _, .leaf hi hl⟩
  | @inner i m e d1 d2 hi hl hr hc h1 h2 hs ih1 ih2 =>
    intro j g1 g2
    rcases Nat.lt_or_ge i j with h | h
    · rcases Nat.lt_or_ge j m with h' | h'
      · exact ih1 j (by omega) h'
      · exact ih2 j h' g2
    · obtain rfl : j = i := by omega
      exact ⟨_, _, .inner hi hl hr hc h1 h2 hs⟩
theorem Sub.count {N : List TN} {dim : Int} {i e d : Nat} (h : Sub N dim i e d) : 1 ≤ (N.getD i tn0).sz ∧ (e : Int) - i ≤ 2 * (N.getD i tn0).sz - 1 := by
  induction h with
  | leaf hi hl => have := hl.2.2.2.2; omega
  | inner hi hl hr hc h1 h2 hs ih1 ih2 => omega
/-- what the reference tells of a subtree: the place behind it; -1: it is none -/
def endR (N : List TN) (dim : Int) : Nat → Nat → Int
  | 0, _ => -1
  | f + 1, i =>
    if ¬ i < N.length then -1
    else if (N.getD i tn0).lf = 0 ∧ (N.getD i tn0).rt = 0 then (if leafN (N.getD i tn0) then (i : Int) + 1 else -1)
    else if ¬ ((N.getD i tn0).lf = (i : Int) + 1 ∧ isC (N.getD i tn0).co (N.getD i tn0).lv dim = true) then -1
    else if endR N dim f (i + 1) < 0 ∨ ¬ (N.getD i tn0).rt = endR N dim f (i + 1) then -1
    else if endR N dim f (endR N dim f (i + 1)).toNat < 0 ∨ ¬ (N.getD i tn0).sz = (N.getD (i + 1) tn0).sz + (N.getD (endR N dim f (i + 1)).toNat tn0).sz then -1
    else endR N dim f (endR N dim f (i + 1)).toNat
theorem endR_sub {N : List TN} {dim : Int} : ∀ (f i : Nat), 0 ≤ endR N dim f i → ∃ d, d < f ∧ Sub N dim i (endR N dim f i).toNat d
  | 0, i => fun h => by simp [endR] at h
  | f + 1, i => fun h => by
    unfold endR at h ⊢
    by_cases h1 : i < N.length
    · rw [if_neg (by omega)] at h ⊢
      by_cases h2 : (N.getD i tn0).lf = 0 ∧ (N.getD i tn0).rt = 0
      · rw [if_pos h2] at h ⊢
        by_cases h3 : leafN (N.getD i tn0)
        · rw [if_pos h3] at h ⊢
          refine ⟨0, by omega, ?_⟩
          rw [show ((i : Int) + 1).toNat = i + 1 from by omega]
          exact .leaf h1 h3
        · rw [if_neg h3] at h; omega
      · rw [if_neg h2] at h ⊢
        by_cases h3 : (N.getD i tn0).lf = (i : Int) + 1 ∧ isC (N.getD i tn0).co (N.getD i tn0).lv dim = true
        · rw [if_neg (fun g => g h3)] at h ⊢
          by_cases h4 : endR N dim f (i + 1) < 0 ∨ ¬ (N.getD i tn0).rt = endR N dim f (i + 1)
          · rw [if_pos h4] at h; omega
          · rw [if_neg h4] at h ⊢
            by_cases h5 : endR N dim f (endR N dim f (i + 1)).toNat < 0 ∨ ¬ (N.getD i tn0).sz = (N.getD (i + 1) tn0).sz + (N.getD (endR N dim f (i + 1)).toNat tn0).sz
            · rw [if_pos h5] at h; omega
            · rw [if_neg h5] at h ⊢
              obtain ⟨d1, g1, s1⟩ := endR_sub (N := N) (dim := dim) f (i + 1) (Int.not_lt.1 fun g => h4 (.inl g))
              obtain ⟨d2, g2, s2⟩ := endR_sub f _ h
              have h4' : (N.getD i tn0).rt = endR N dim f (i + 1) := Classical.byContradiction fun g => h4 (.inr g)
              have h5' := Classical.byContradiction fun g => h5 (.inr g)
              exact ⟨1 + max d1 d2, by omega, .inner h1 h3.1 (by rw [h4']; omega) h3.2 s1 s2 h5'⟩
        · rw [if_pos h3] at h; omega
    · rw [if_pos h1] at h; omega
theorem sub_endR {N : List TN} {dim : Int} {i e d : Nat} (h : Sub N dim i e d) : ∀ f, d < f → endR N dim f i = e := by
  induction h with
  | leaf hi hl =>
    intro f hf
    obtain ⟨g, rfl⟩ : ∃ g, f = g + 1 := ⟨f - 1, by omega⟩
    unfold endR
    rw [if_neg (by omega), if_pos ⟨hl.1, hl.2.1⟩, if_pos hl]
    omega
  | @inner i m e d1 d2 hi hl hr hc h1 h2 hs ih1 ih2 =>
    intro f hf
    obtain ⟨g, rfl⟩ : ∃ g, f = g + 1 := ⟨f - 1, by omega⟩
    have e1 := ih1 g (by omega)
    have e2 := ih2 g (by omega)
    unfold endR
    rw [if_neg (by omega), if_neg (fun h => by have := h.1; omega), if_neg (fun h => h ⟨hl, hc⟩), e1, if_neg (by omega), show ((m : Int)).toNat = m from by omega, e2, if_neg (by omega)]
/-- the least number of doublings that reach n (up to 64) -/
def lgT (n : Int) : Nat := if n ≤ 1 then 0 else if n ≤ 2 then 1 else if n ≤ 4 then 2 else if n ≤ 8 then 3 else if n ≤ 16 then 4 else if n ≤ 32 then 5 else 6
theorem log_lgT {n : Int} {k : Nat} (h : IsLog n k) (hn : n ≤ 64) : k = lgT n := by
  obtain ⟨h1, h2, h3⟩ := h
  have lo : ∀ j : Nat, j < 7 → n ≤ (2 : Int) ^ j → k ≤ j := fun j _ hj => Nat.not_lt.1 (fun g => by have := h2 j g; omega)
  have hi : ∀ j : Nat, k ≤ j → j < 7 → n ≤ (2 : Int) ^ j := fun j hk hj => by
    have hk63 : k < 63 := by omega
    have h4 := h3 hk63
    have h5 : (2 : Nat) ^ k ≤ 2 ^ j := Nat.pow_le_pow_right (by omega) hk
    have h6 : ((2 ^ k : Nat) : Int) = (2 : Int) ^ k := by simp
    have h7 : ((2 ^ j : Nat) : Int) = (2 : Int) ^ j := by simp
    omega
  have e0 := lo 0 (by omega); have e1 := lo 1 (by omega); have e2 := lo 2 (by omega); have e3 := lo 3 (by omega); have e4 := lo 4 (by omega); have e5 := lo 5 (by omega); have e6 := lo 6 (by omega)
  have f0 := hi 0; have f1 := hi 1; have f2 := hi 2; have f3 := hi 3; have f4 := hi 4; have f5 := hi 5
  simp only [show ((2 : Int) ^ 0) = 1 from rfl, show ((2 : Int) ^ 1) = 2 from rfl, show ((2 : Int) ^ 2) = 4 from rfl, show ((2 : Int) ^ 3) = 8 from rfl, show ((2 : Int) ^ 4) = 16 from rfl, show ((2 : Int) ^ 5) = 32 from rfl, show ((2 : Int) ^ 6) = 64 from rfl] at e0 e1 e2 e3 e4 e5 e6 f0 f1 f2 f3 f4 f5
  unfold lgT
  split
  · omega
  · split
    · omega
    · split
      · omega
      · split
        · omega
        · split
          · omega
          · split
            · omega
            · omega
/-- these nodes are a tree -/
def isT (N : List TN) (dim : Int) : Bool := decide (1 ≤ dim ∧ dim ≤ 8 ∧ 0 < N.length ∧ 1 ≤ (N.getD 0 tn0).sz ∧ (N.getD 0 tn0).sz ≤ 64 ∧ endR N dim (lgT (N.getD 0 tn0).sz + 1) 0 = N.length)
theorem isT_iff {N : List TN} {dim : Int} : isT N dim = true ↔ 1 ≤ dim ∧ dim ≤ 8 ∧ (N.getD 0 tn0).sz ≤ 64 ∧ ∃ d, Sub N dim 0 N.length d ∧ d ≤ lgT (N.getD 0 tn0).sz := by
  unfold isT
  rw [decide_eq_true_iff]
  constructor
  · rintro ⟨h1, h2, h3, h4, h5, h6⟩
    obtain ⟨d, g1, g2⟩ := endR_sub (N := N) (dim := dim) (lgT (N.getD 0 tn0).sz + 1) 0 (by omega)
    rw [h6] at g2
    exact ⟨h1, h2, h5, d, by simpa using g2, by omega⟩
  · rintro ⟨h1, h2, h3, d, h4, h5⟩
    have := h4.count
    have := h4.lt
    exact ⟨h1, h2, by omega, by omega, h3, sub_endR h4 _ (by omega)⟩
theorem isT_len {N : List TN} {dim : Int} (h : isT N dim = true) : 0 < N.length ∧ N.length ≤ 127 := by
  obtain ⟨h1, h2, h3, d, h4, h5⟩ := isT_iff.1 h
  have := h4.count
  have := h4.lt
  omega
end Go.Proofs.Ytdcemcpcjdkpjaa
