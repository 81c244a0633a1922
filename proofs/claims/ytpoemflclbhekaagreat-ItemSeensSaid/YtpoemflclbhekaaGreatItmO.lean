/- Layer 22 (item): what was read of a request without an error is written as the bytes that were read. -/
import Derived.Test.YtpoemflclbhekaaGreatItmCd
import Derived.Test.YtpoemflclbhekaaGreatBinO
namespace Go.Proofs.YtpoemflclbhekaaGreat
open Go.RowKit
set_option linter.unusedVariables false
set_option linter.unusedSimpArgs false

theorem at_N {b : List Int} (hb : byt b) {k : Nat} {e most : Int} (h : (rN b k e most).1.2 = 0) : e = 0 ∧ k < (rN b k e most).1.1 ∧ (rN b k e most).1.1 ≤ b.length ∧ uB (rN b k e most).2 = (b.drop k).take ((rN b k e most).1.1 - k) := by
  by_cases he : e = 0
  · subst he
    obtain ⟨-, h1, e1⟩ := rN_bd h
    rw [e1]
    obtain ⟨g1, g2, g3⟩ := rU_ok hb h1
    exact ⟨rfl, g1, g2, g3⟩
  · rw [rN_e he] at h; exact absurd h he
theorem at_L {b : List Int} (hb : byt b) {k : Nat} {e most : Int} (h : (rL b k e most).1.2 = 0) : e = 0 ∧ k ≤ (rL b k e most).1.1 ∧ (rL b k e most).1.1 ≤ b.length ∧ lB (rL b k e most).2 = (b.drop k).take ((rL b k e most).1.1 - k) := by
  by_cases he : e = 0
  · subst he
    unfold rL at h ⊢
    by_cases h1 : (rdL b (rN b k 0 most).2 (rN b k 0 most).1 []).1.2 ≠ 0
    · rw [if_pos h1] at h; exact absurd h h1
    rw [if_neg h1]
    have h1 := Decidable.not_not.1 h1
    have h2 : (rN b k 0 most).1.2 = 0 := by
      by_cases h3 : (rN b k 0 most).1.2 = 0
      · exact h3
      · rw [rdL_end (.inr h3)] at h1; exact h1
    obtain ⟨-, g0, g1, g2⟩ := at_N hb h2
    generalize rN b k 0 most = r at *
    obtain ⟨⟨k1, e1⟩, n⟩ := r
    simp only at h1 h2 g0 g1 g2 ⊢
    subst h2
    obtain ⟨M, k', q1, q2, q3, q4, q5, q6⟩ := rdL_ok hb _ _ _ g1 h1
    rw [q1]
    refine ⟨trivial, by show k ≤ k'; omega, q4, ?_⟩
    show lB M = (b.drop k).take (k' - k)
    unfold lB
    rw [q2, g2, q5, take_two b (Nat.le_of_lt g0) q3]
  · rw [rL_e he] at h; exact absurd h he
theorem at_I {b : List Int} (hb : byt b) (q : Bool) (s : Nat × Int) (h : (rdI b q s).1.2 = 0) : s.2 = 0 ∧ s.1 ≤ (rdI b q s).1.1 ∧ (s.1 ≤ b.length → (rdI b q s).1.1 ≤ b.length) ∧ (if q = true then uB (rdI b q s).2 else []) = (b.drop s.1).take ((rdI b q s).1.1 - s.1) := by
  cases q
  · exact ⟨h, Nat.le_refl _, fun h => h, by show [] = (b.drop s.1).take (s.1 - s.1); simp⟩
  · obtain ⟨g0, g1, g2, g3⟩ := at_N hb (k := s.1) (e := s.2) (most := 1099511627776) h
    exact ⟨g0, Nat.le_of_lt g1, fun _ => g2, g3⟩
theorem at_X {b : List Int} (hb : byt b) (q : Bool) (s : Nat × Int) (h : (rdX b q s).1.2 = 0) : s.2 = 0 ∧ s.1 ≤ (rdX b q s).1.1 ∧ (s.1 ≤ b.length → (rdX b q s).1.1 ≤ b.length) ∧ (if q = true then lB (rdX b q s).2 else []) = (b.drop s.1).take ((rdX b q s).1.1 - s.1) := by
  cases q
  · exact ⟨h, Nat.le_refl _, fun h => h, by show [] = (b.drop s.1).take (s.1 - s.1); simp⟩
  · obtain ⟨g0, g1, g2, g3⟩ := at_L hb (k := s.1) (e := s.2) (most := 8) h
    exact ⟨g0, g1, fun _ => g2, g3⟩
theorem chk_zero {q : Bool} {e : Int} (h : chkF q e = 0) : q = true ∧ e = 0 := by
  cases q
  · exfalso
    have h : failE e 211 = 0 := h
    unfold failE at h
    split at h <;> simp_all
  · exact ⟨rfl, h⟩
theorem gA_one {b : List Int} (hb : byt b) (h : (gA b 0 0).1.2 = 0) : 0 < (gA b 0 0).1.1 ∧ (gA b 0 0).1.1 ≤ b.length ∧ aW ((gA b 0 0).2.1 : Nat) ((gA b 0 0).2.2.1 : Nat) ((gA b 0 0).2.2.2.2.1 : Nat) ((gA b 0 0).2.2.2.2.2 : Nat) (gA b 0 0).2.2.2.1 = b.take (gA b 0 0).1.1 := by
  unfold gA at h ⊢
  have hN := @at_N b hb 0 0 1099511627776
  generalize rN b 0 0 1099511627776 = r at *
  obtain ⟨⟨k1, e1⟩, kd⟩ := r
  simp only at h hN ⊢
  unfold gA5 at h ⊢
  have hI := at_I hb (nmI kd) (k1, chkF (okK kd) e1)
  generalize rdI b (nmI kd) (k1, chkF (okK kd) e1) = ri at *
  obtain ⟨⟨k2, e2⟩, id⟩ := ri
  simp only at h hI ⊢
  have hX := at_X hb (nmX kd) (k2, e2)
  generalize rdX b (nmX kd) (k2, e2) = rx at *
  obtain ⟨⟨k3, e3⟩, X⟩ := rx
  simp only at h hX ⊢
  have hM := at_I hb (nmN kd) (k3, e3)
  generalize rdI b (nmN kd) (k3, e3) = rn at *
  obtain ⟨⟨k4, e4⟩, n⟩ := rn
  simp only at h hM ⊢
  have hL := at_I hb (nmM kd) (k4, e4)
  generalize rdI b (nmM kd) (k4, e4) = rm at *
  obtain ⟨⟨k5, e5⟩, m⟩ := rm
  simp only at h hL ⊢
  unfold finA at h ⊢
  simp only at h ⊢
  obtain ⟨hr, h5⟩ := chk_zero h
  rw [if_pos h]
  obtain ⟨h4, a4, b4, c4⟩ := hL h5
  obtain ⟨h3, a3, b3, c3⟩ := hM h4
  obtain ⟨h2, a2, b2, c2⟩ := hX h3
  obtain ⟨h1, a1, b1, c1⟩ := hI h2
  obtain ⟨-, h0⟩ := chk_zero h1
  obtain ⟨-, a0, b0, c0⟩ := hN h0
  refine ⟨by show 0 < k5; omega, b4 (b3 (b2 (b1 b0))), ?_⟩
  show aW kd id n m X = b.take k5
  unfold aW
  rw [if_pos hr]
  unfold aB
  simp only [Int.toNat_natCast]
  rw [c0, c1, c2, c3, c4, ← take_two b (Nat.le_of_lt a0) a1, ← take_two b (by omega) a2, ← take_two b (by omega) a3, ← take_two b (by omega) a4]
  simp
theorem rdL_le {b : List Int} : ∀ (j : Nat) (s : Nat × Int) (L : List Int), (rdL b j s L).2.length ≤ L.length + j
  | 0, s, L => by show L.length ≤ _; omega
  | j + 1, s, L => by
    unfold rdL
    by_cases h : s.2 ≠ 0
    · rw [if_pos h]; show L.length ≤ _; omega
    · rw [if_neg h]
      have := rdL_le (b := b) j (rU b s.1 s.2).1 (L ++ [unfoldI (rU b s.1 s.2).2])
      rw [List.length_append] at this
      simp only [List.length_cons, List.length_nil] at this
      omega
theorem gA_len (b : List Int) : (gA b 0 0).2.2.2.1.length ≤ 9223372036854775807 := by
  have hX : ∀ q s, (rdX b q s).2.length ≤ 8 := by
    intro q s
    unfold rdX
    split
    · unfold rL
      split
      · simp
      · by_cases h : (rN b s.1 s.2 8).1.2 = 0
        · have h1 := rdL_le (b := b) (rN b s.1 s.2 8).2 (rN b s.1 s.2 8).1 []
          have h2 := (rN_bd h).1
          simp only [List.length_nil] at h1
          omega
        · have h1 := rdL_le (b := b) (rN b s.1 s.2 8).2 (rN b s.1 s.2 8).1 []
          rw [(rN_err h).2] at h1 ⊢
          simp only [List.length_nil] at h1
          omega
    · simp
  unfold gA gA5 finA
  split
  · show (rdX b _ _).2.length ≤ _
    exact Nat.le_trans (hX _ _) (by omega)
  · simp
end Go.Proofs.YtpoemflclbhekaaGreat
