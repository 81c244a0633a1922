import Derived.Test.YtdcemcpcjdkpjaaTreeW

/-! Layer 10: the reference's shift; what its grow needs. -/
namespace Go.Proofs.Ytdcemcpcjdkpjaa
open Go.RowKit
set_option linter.unusedVariables false
set_option linter.unusedSimpArgs false

theorem grN_ind {k t : Int} {l : List Int} (P : Nat → List Row → Int → GT → Prop)
    (h0 : ∀ s R a, (s = 0 ∨ R.length = 1 ∨ (dE (drw k R l a t) = 0 ∧ dO (drw k R l a t) = false)) → P s R a ([lfN R.length], a, 0))
    (hE : ∀ s R a x, ¬ x = 0 → P s R a ([], 0, x))
    (hB : ∀ s R a Z X Y, Z = drw k R l a t → ¬ R.length = 1 → dE Z = 0 → dO Z = true → X = grN k l t s (lfR Z R) (dA Z) → X.2.2 = 0 → Y = grN k l t s (rgR Z R) X.2.1 → Y.2.2 = 0 → P s (lfR Z R) (dA Z) X → P s (rgR Z R) X.2.1 Y → P (s + 1) R a (rootN Z R.length X.1.length :: (shL 1 X.1 ++ shL (1 + X.1.length) Y.1), Y.2.1, 0)) :
    ∀ s R a, P s R a (grN k l t s R a)
  | 0, R, a => h0 0 R a (.inl rfl)
  | s + 1, R, a => by
    by_cases h1 : R.length = 1
    · rw [grN_leaf (.inr h1)]
      exact h0 _ _ _ (.inr (.inl h1))
    · by_cases h2 : dE (drw k R l a t) = 0
      · cases h3 : dO (drw k R l a t) with
        | false =>
          rw [grN_same h2 h3]
          exact h0 _ _ _ (.inr (.inr ⟨h2, h3⟩))
        | true =>
          obtain ⟨Z, hZ⟩ : ∃ Z, Z = drw k R l a t := ⟨_, rfl⟩
          rw [← hZ] at h2 h3
          obtain ⟨X, hX⟩ : ∃ X, X = grN k l t s (lfR Z R) (dA Z) := ⟨_, rfl⟩
          have hx := grN_ind P h0 hE hB s (lfR Z R) (dA Z)
          rw [← hX] at hx
          by_cases h4 : X.2.2 = 0
          · obtain ⟨Y, hY⟩ : ∃ Y, Y = grN k l t s (rgR Z R) X.2.1 := ⟨_, rfl⟩
            have hy := grN_ind P h0 hE hB s (rgR Z R) X.2.1
            rw [← hY] at hy
            by_cases h5 : Y.2.2 = 0
            · rw [grN_both h1 hZ.symm h2 h3 hX.symm h4 hY.symm h5]
              exact hB s R a Z X Y hZ h1 h2 h3 hX h4 hY h5 hx hy
            · rw [grN_right h1 hZ.symm h2 h3 hX.symm h4 hY.symm h5]
              exact hE _ _ _ _ h5
          · rw [grN_left h1 hZ.symm h2 h3 hX.symm h4]
            exact hE _ _ _ _ h4
      · rw [grN_err h1 h2]
        exact hE _ _ _ _ h2
def bdT (m : Nat) (n : TN) : Prop := 0 ≤ n.lf ∧ n.lf ≤ m ∧ 0 ≤ n.rt ∧ n.rt ≤ m
theorem bdT_sh {m b : Nat} {n : TN} (h : bdT m n) {M : Nat} (hM : m + b ≤ M) : bdT M (shN b n) := by
  unfold bdT shN at *
  split
  · simp only; omega
  · omega
theorem grN_bd {k t : Int} {l : List Int} (s : Nat) (R : List Row) (a : Int) : (grN k l t s R a).1.length ≤ 2 ^ (s + 1) - 1 ∧ ∀ n ∈ (grN k l t s R a).1, bdT (grN k l t s R a).1.length n := by
  refine grN_ind (fun s R a G => G.1.length ≤ 2 ^ (s + 1) - 1 ∧ ∀ n ∈ G.1, bdT G.1.length n) ?_ ?_ ?_ s R a
  · intro s R a _
    refine ⟨?_, fun n hn => ?_⟩
    · have : 2 ≤ 2 ^ (s + 1) := by rw [Nat.pow_succ]; have := Nat.pow_pos (n := s) (show 0 < 2 by omega); omega
      simp
      omega
    · rw [List.mem_singleton.1 hn]
      unfold bdT lfN
      simp
  · intro s R a x _
    exact ⟨by simp, fun n hn => by cases hn⟩
  · intro s R a Z X Y _ _ _ _ _ _ _ _ ⟨x1, x2⟩ ⟨y1, y2⟩
    have hp := Nat.pow_pos (n := s + 1) (show 0 < 2 by omega)
    have hq : 2 ^ (s + 1 + 1) = 2 ^ (s + 1) * 2 := Nat.pow_succ ..
    refine ⟨by simp only [List.length_cons, List.length_append, shL_len]; omega, fun n hn => ?_⟩
    simp only [List.length_cons, List.length_append, shL_len]
    rcases List.mem_cons.1 hn with rfl | hn
    · unfold bdT rootN; simp only; omega
    · rcases List.mem_append.1 hn with hn | hn
      · obtain ⟨m, hm, rfl⟩ := List.mem_map.1 hn
        exact bdT_sh (x2 m hm) (by omega)
      · obtain ⟨m, hm, rfl⟩ := List.mem_map.1 hn
        exact bdT_sh (y2 m hm) (by omega)
theorem dA_i64 {k t a : Int} {l : List Int} {R : List Row} (hl : (l.length : Int) ≤ 9223372036854775807) (h2 : dE (drw k R l a t) = 0) (h3 : dO (drw k R l a t) = true) : I64 (dA (drw k R l a t)) := by
  obtain ⟨h1, _, h⟩ := drw_ok h2
  rcases h with ⟨_, h⟩ | ⟨_, hp⟩
  · rw [h] at h3; cases h3
  · obtain ⟨_, _, _, _, _, p6, p7, _⟩ := hp
    have := h1.2.1
    unfold I64 dA
    omega
theorem grN_i64 {k t : Int} {l : List Int} (hl : (l.length : Int) ≤ 9223372036854775807) (s : Nat) (R : List Row) (a : Int) (ha : I64 a) : I64 (grN k l t s R a).2.1 := by
  refine grN_ind (fun s R a G => I64 a → I64 G.2.1) ?_ ?_ ?_ s R a ha
  · intro s R a _ h; exact h
  · intro s R a x _ _; show I64 0; unfold I64; omega
  · intro s R a Z X Y hZ _ h2 h3 _ _ _ _ x1 y1 _
    exact y1 (x1 (by rw [hZ] at h2 h3 ⊢; exact dA_i64 hl h2 h3))
/-! ### nodes onto a row of the call's own -/
theorem nd_one (n : TN) : ∀ u ∈ (ndC n).toList, u.oneCell' = true := by
  intro u hu
  simp [ndC] at hu
  rcases hu with rfl | rfl | rfl | rfl | rfl <;> rfl
theorem ndL_one (N : List TN) : ∀ u ∈ ndL N, u.oneCell' = true := by
  intro u hu
  obtain ⟨n, _, h⟩ := List.mem_flatMap.1 hu
  exact nd_one n u h
theorem take_succT {N : List TN} {k : Nat} (hk : k < N.length) : N.take (k + 1) = N.take k ++ [N.getD k tn0] := by
  rw [List.take_succ_eq_append_getElem hk]
  simp [List.getD, hk]
end Go.Proofs.Ytdcemcpcjdkpjaa
