import Derived.Test.YtkkeejbgaaodeaaPatU

/-! Layer 11's reference: who names a node, how deep it is: numbers. -/
namespace Go.Proofs.Ytkkeejbgaaodeaa
open Go.RowKit
set_option linter.unusedVariables false
set_option linter.unusedSimpArgs false

/-- node k names node i -/
def nms (N : List TN) (k : Nat) (i : Int) : Prop := 0 < (N.getD k tn0).lf ∧ ((N.getD k tn0).lf = i ∨ (N.getD k tn0).rt = i)
instance (N : List TN) (k : Nat) (i : Int) : Decidable (nms N k i) := by unfold nms; exact inferInstance
/-- the last one of the first K nodes that names node i; -1: none -/
def parK (N : List TN) (i : Int) : Nat → Int
  | 0 => -1
  | K + 1 => if nms N K i then (K : Int) else parK N i K
theorem parK_none {N : List TN} {i : Int} : ∀ {K : Nat}, (∀ k, k < K → ¬ nms N k i) → parK N i K = -1
  | 0, _ => rfl
  | K + 1, h => by rw [parK, if_neg (h K (Nat.lt_succ_self _)), parK_none (fun k hk => h k (by omega))]
theorem parK_one {N : List TN} {i : Int} {p : Nat} : ∀ {K : Nat}, p < K → nms N p i → (∀ k, k < K → nms N k i → k = p) → parK N i K = p
  | 0, h, _, _ => absurd h (by omega)
  | K + 1, h, hp, hu => by
    by_cases hk : nms N K i
    · rw [parK, if_pos hk, hu K (Nat.lt_succ_self _) hk]
    · rw [parK, if_neg hk]
      have : p ≠ K := fun e => hk (e ▸ hp)
      exact parK_one (by omega) hp (fun k hk' => hu k (by omega))
theorem parK_bd (N : List TN) (i : Int) : ∀ K : Nat, -1 ≤ parK N i K ∧ parK N i K < K
  | 0 => by simp [parK]
  | K + 1 => by
    have := parK_bd N i K
    rw [parK]
    split <;> omega
theorem nms_in {N : List TN} {dm : Int} {i e d : Nat} (h : Sub N dm i e d) : ∀ k, i ≤ k → k < e → ∀ j : Nat, nms N k j → i < j ∧ j < e := by
  induction h with
  | @leaf i hi hl =>
    intro k h1 h2 j hn
    obtain rfl : k = i := by omega
    have := hn.1
    have := hl.1
    omega
  | @inner i m e d1 d2 hi hl hr hc h1 h2 hs ih1 ih2 =>
    intro k g1 g2 j hn
    have l1 := h1.lt
    have l2 := h2.lt
    rcases Nat.lt_or_ge i k with g | g
    · rcases Nat.lt_or_ge k m with g' | g'
      · have := ih1 k (by omega) g' j hn; omega
      · have := ih2 k g' g2 j hn; omega
    · obtain rfl : k = i := by omega
      rcases hn.2 with h | h <;> omega
theorem seqT_head {N : List TN} (f i dep : Nat) : (i, dep) ∈ seqT N (f + 1) i dep := by
  rw [seqT]
  exact List.mem_cons_self ..
theorem par_sub {N : List TN} {dm : Int} {i e d : Nat} (h : Sub N dm i e d) : ∀ f dep, d < f → ∀ j : Nat, i < j → j < e →
    ∃ p dp, i ≤ p ∧ p < j ∧ nms N p j ∧ (∀ k, i ≤ k → k < e → nms N k j → k = p) ∧ (p, dp) ∈ seqT N f i dep ∧ (j, dp + 1) ∈ seqT N f i dep := by
  induction h with
  | @leaf i hi hl => intro f dep hf j h1 h2; omega
  | @inner i m e d1 d2 hi hl hr hc h1 h2 hs ih1 ih2 =>
    intro f dep hf j g1 g2
    have l1 := h1.lt
    have l2 := h2.lt
    obtain ⟨f, rfl⟩ : ∃ k, f = k + 1 := ⟨f - 1, by omega⟩
    obtain ⟨f, rfl⟩ : ∃ k, f = k + 1 := ⟨f - 1, by omega⟩
    rw [seqT_inner (by omega), hl, hr, show ((i : Int) + 1).toNat = i + 1 from by omega, Int.toNat_natCast]
    have hroot : ∀ q : Nat, nms N i q → q = i + 1 ∨ q = m := fun q hq => by
      rcases hq.2 with h | h <;> omega
    have n1 := nms_in h1
    have n2 := nms_in h2
    rcases Nat.lt_or_ge j (i + 2) with q | q
    · obtain rfl : j = i + 1 := by omega
      refine ⟨i, dep, Nat.le_refl _, g1, ⟨by omega, .inl (by omega)⟩, fun k k1 k2 hk => ?_, List.mem_cons_self .., List.mem_cons_of_mem _ (List.mem_append_left _ (seqT_head ..))⟩
      rcases Nat.lt_or_ge i k with c | c
      · rcases Nat.lt_or_ge k m with c' | c'
        · have := n1 k (by omega) c' _ hk; omega
        · have := n2 k c' k2 _ hk; omega
      · omega
    · rcases Nat.lt_or_ge j m with q' | q'
      · obtain ⟨p, dp, p1, p2, p3, p4, p5, p6⟩ := ih1 (f + 1) (dep + 1) (by omega) j (by omega) q'
        refine ⟨p, dp, by omega, p2, p3, fun k k1 k2 hk => ?_, List.mem_cons_of_mem _ (List.mem_append_left _ p5), List.mem_cons_of_mem _ (List.mem_append_left _ p6)⟩
        rcases Nat.lt_or_ge i k with c | c
        · rcases Nat.lt_or_ge k m with c' | c'
          · exact p4 k (by omega) c' hk
          · have := n2 k c' k2 _ hk; omega
        · obtain rfl : k = i := by omega
          have := hroot j hk; omega
      · rcases Nat.lt_or_ge m j with q'' | q''
        · obtain ⟨p, dp, p1, p2, p3, p4, p5, p6⟩ := ih2 (f + 1) (dep + 1) (by omega) j q'' g2
          refine ⟨p, dp, by omega, p2, p3, fun k k1 k2 hk => ?_, List.mem_cons_of_mem _ (List.mem_append_right _ p5), List.mem_cons_of_mem _ (List.mem_append_right _ p6)⟩
          rcases Nat.lt_or_ge i k with c | c
          · rcases Nat.lt_or_ge k m with c' | c'
            · have := n1 k (by omega) c' _ hk; omega
            · exact p4 k c' k2 hk
          · obtain rfl : k = i := by omega
            have := hroot j hk; omega
        · obtain rfl : j = m := by omega
          refine ⟨i, dep, Nat.le_refl _, g1, ⟨by omega, .inr (by omega)⟩, fun k k1 k2 hk => ?_, List.mem_cons_self .., List.mem_cons_of_mem _ (List.mem_append_right _ (seqT_head ..))⟩
          rcases Nat.lt_or_ge i k with c | c
          · rcases Nat.lt_or_ge k j with c' | c'
            · have := n1 k (by omega) c' _ hk; omega
            · have := n2 k c' k2 _ hk; omega
          · omega
theorem seqT_at {N : List TN} {dm : Int} {i e d : Nat} (h : Sub N dm i e d) : ∀ f dep, d < f → ∀ k, k < e - i → ((seqT N f i dep).getD k (0, 0)).1 = i + k := by
  induction h with
  | @leaf i hi hl =>
    intro f dep hf k hk
    obtain ⟨f, rfl⟩ : ∃ k, f = k + 1 := ⟨f - 1, by omega⟩
    rw [seqT_leaf hl.1]
    obtain rfl : k = 0 := by omega
    rfl
  | @inner i m e d1 d2 hi hl hr hc h1 h2 hs ih1 ih2 =>
    intro f dep hf k hk
    have l1 := h1.lt
    have l2 := h2.lt
    obtain ⟨f, rfl⟩ : ∃ k, f = k + 1 := ⟨f - 1, by omega⟩
    rw [seqT_inner (by omega), hl, hr, show ((i : Int) + 1).toNat = i + 1 from by omega, Int.toNat_natCast]
    have e1 := seqT_len h1 f (dep + 1) (by omega)
    cases k with
    | zero => rfl
    | succ k =>
      rw [List.getD_eq_getElem?_getD, List.getElem?_cons_succ]
      rcases Nat.lt_or_ge k (m - (i + 1)) with c | c
      · rw [List.getElem?_append_left (by omega), ← List.getD_eq_getElem?_getD, ih1 f (dep + 1) (by omega) k c]
        omega
      · rw [List.getElem?_append_right (by omega), ← List.getD_eq_getElem?_getD, e1, ih2 f (dep + 1) (by omega) (k - (m - (i + 1))) (by omega)]
        omega
/-- how deep a node is -/
def depN (N : List TN) (dm : Int) (j : Nat) : Nat := ((allT N dm).getD j (0, 0)).2
theorem allT_len {N : List TN} {dm : Int} (hT : isT N dm = true) : (allT N dm).length = N.length := by
  obtain ⟨_, _, _, d0, s0, _⟩ := isT_iff.1 hT
  have hd := s0.deep
  rw [allT_yes hT, seqT_len s0 _ _ (by omega)]
  rfl
theorem allT_at {N : List TN} {dm : Int} (hT : isT N dm = true) {k : Nat} (hk : k < N.length) : (allT N dm).getD k (0, 0) = (k, depN N dm k) := by
  obtain ⟨_, _, _, d0, s0, _⟩ := isT_iff.1 hT
  have hd := s0.deep
  have h := seqT_at s0 (N.length + 1) 0 (by omega) k (by omega)
  unfold depN
  rw [allT_yes hT]
  exact Prod.ext (by rw [h, Nat.zero_add]) rfl
theorem depN_mem {N : List TN} {dm : Int} (hT : isT N dm = true) {j δ : Nat} (h : (j, δ) ∈ allT N dm) : depN N dm j = δ := by
  obtain ⟨k, hk, he⟩ := List.mem_iff_getElem.1 h
  have hl := allT_len hT
  have h2 := allT_at hT (k := k) (by omega)
  rw [List.getD_eq_getElem?_getD, List.getElem?_eq_getElem hk, Option.getD_some, he] at h2
  have h3 := congrArg Prod.fst h2
  have h4 := congrArg Prod.snd h2
  simp only at h3 h4
  rw [h3, ← h4]
theorem depN_zero {N : List TN} {dm : Int} (hT : isT N dm = true) : depN N dm 0 = 0 := by
  refine depN_mem hT ?_
  rw [allT_yes hT]
  exact seqT_head ..
theorem par_zero {N : List TN} {dm : Int} (hT : isT N dm = true) : parK N 0 N.length = -1 := by
  obtain ⟨_, _, _, d0, s0, _⟩ := isT_iff.1 hT
  refine parK_none (fun k hk hn => ?_)
  have := nms_in s0 k (Nat.zero_le _) hk 0 hn
  omega
theorem par_at {N : List TN} {dm : Int} (hT : isT N dm = true) {j : Nat} (h0 : 0 < j) (hj : j < N.length) : ∃ p : Nat, parK N j N.length = p ∧ p < j ∧ depN N dm j = depN N dm p + 1 := by
  obtain ⟨_, _, _, d0, s0, _⟩ := isT_iff.1 hT
  have hd := s0.deep
  obtain ⟨p, dp, p1, p2, p3, p4, p5, p6⟩ := par_sub s0 (N.length + 1) 0 (by omega) j h0 hj
  rw [← allT_yes hT] at p5 p6
  exact ⟨p, parK_one (by omega) p3 (fun k hk hn => p4 k (Nat.zero_le _) hk hn), p2, by rw [depN_mem hT p6, depN_mem hT p5]⟩
theorem depN_le {N : List TN} {dm : Int} (hT : isT N dm = true) : ∀ (b j : Nat), j ≤ b → j < N.length → depN N dm j ≤ j
  | b, 0, _, _ => by rw [depN_zero hT]; exact Nat.le_refl _
  | 0, j + 1, h, _ => absurd h (by omega)
  | b + 1, j + 1, h, hj => by
    obtain ⟨p, _, hp, he⟩ := par_at hT (j := j + 1) (by omega) hj
    have := depN_le hT b p (by omega) (by omega)
    omega
/-- the parents of the nodes -/
def parL (N : List TN) (dm : Int) : List Int := if isT N dm = true then (List.range N.length).map (fun i : Nat => parK N (i : Int) N.length) else []
def depL (N : List TN) (dm : Int) : List Int := (allT N dm).map (fun x => (x.2 : Int))
theorem parL_at {N : List TN} {dm : Int} (hT : isT N dm = true) {j : Nat} (hj : j < N.length) : (parL N dm).getD j 0 = parK N j N.length := by
  unfold parL
  rw [if_pos hT, List.getD_eq_getElem?_getD, List.getElem?_map, List.getElem?_range hj]
  rfl
theorem parL_len {N : List TN} {dm : Int} (hT : isT N dm = true) : (parL N dm).length = N.length := by unfold parL; rw [if_pos hT]; simp
theorem depL_at {N : List TN} {dm : Int} (hT : isT N dm = true) {j : Nat} (hj : j < N.length) : (depL N dm).getD j 0 = (depN N dm j : Int) := by
  have h := allT_at hT hj
  have hl := allT_len hT
  unfold depL
  rw [List.getD_eq_getElem?_getD, List.getElem?_map]
  rw [List.getD_eq_getElem?_getD, List.getElem?_eq_getElem (by omega), Option.getD_some] at h
  rw [List.getElem?_eq_getElem (by omega), h]
  rfl
/-- the leaves, and their depths -/
def levL (N : List TN) (dm : Int) : List (Nat × Nat) := (allT N dm).filter (fun x => decide ((N.getD x.1 tn0).lf = 0))
end Go.Proofs.Ytkkeejbgaaodeaa
