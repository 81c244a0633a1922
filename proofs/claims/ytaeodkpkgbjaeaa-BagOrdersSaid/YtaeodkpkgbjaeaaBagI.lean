/- Layer 18 (bag): rows of blocks: one score more, one less, two blocks as one, one as two. -/
import Derived.Test.YtaeodkpkgbjaeaaBagG
namespace Go.Proofs.Ytaeodkpkgbjaeaa
open Go.RowKit
set_option linter.unusedVariables false
set_option linter.unusedSimpArgs false

theorem cut_at {α : Type} (l : List α) (d : Nat) (h : d < l.length) : ∃ A b C, l = A ++ b :: C ∧ A.length = d :=
  ⟨l.take d, l[d], l.drop (d + 1), by rw [← List.drop_eq_getElem_cons h, List.take_append_drop], by rw [List.length_take]; omega⟩
theorem getD_mid {α : Type} (A : List α) (b z : α) (C : List α) : (A ++ b :: C).getD A.length z = b := by simp
theorem getD_mid1 {α : Type} (A : List α) (b c z : α) (C : List α) : (A ++ b :: c :: C).getD (A.length + 1) z = c := by
  rw [List.getD_eq_getElem?_getD, List.getElem?_append_right (by omega)]; simp
theorem sumA_app : ∀ (A C : List Blk), sumA (A ++ C) A.length = (flat A).length
  | [], C => by simp [flat, sumA_zero]
  | a :: A, C => by
    rw [List.cons_append, List.length_cons, sumA_cons, flat_cons, List.length_append, sumA_app A C]
theorem lnA_mid (A : List Blk) (b : Blk) (C : List Blk) : lnA (A ++ b :: C) A.length = b.2.length := by unfold lnA; rw [getD_mid]
/-- blocks as they stand behind each call -/
structure OkL (bs : List Blk) : Prop where
  ne : 0 < bs.length
  full : ∀ b ∈ bs.drop 1, 0 < b.2.length
  room : ∀ b ∈ bs, b.2.length ≤ 64
  nums : ∀ b ∈ bs, ∀ x ∈ b.2, okP x
theorem okP_I64 {x : PQ} (h : okP x) : I64 x.1 ∧ I64 x.2 := by
  obtain ⟨h1, h2, h3, h4, _⟩ := h
  unfold I64
  constructor <;> constructor <;> omega
theorem full_len : ∀ bs : List Blk, (∀ b ∈ bs, 0 < b.2.length) → bs.length ≤ (flat bs).length
  | [], _ => by simp
  | b :: bs, h => by
    have := full_len bs fun x hx => h x (List.mem_cons_of_mem _ hx)
    have := h b List.mem_cons_self
    rw [flat_cons, List.length_append, List.length_cons]; omega
theorem OkL.few {bs : List Blk} (h : OkL bs) : bs.length ≤ (flat bs).length + 1 := by
  cases bs with
  | nil => simp
  | cons b bs =>
    have := full_len bs h.full
    rw [flat_cons, List.length_append, List.length_cons]; omega
theorem OkL.okB {bs : List Blk} (h : OkL bs) (hn : (flat bs).length ≤ 900000) : OkB bs := by
  refine ⟨h.ne, by have := h.few; omega, fun i h0 hi => ?_, fun i hi => ?_, fun i j hi hj => ?_⟩
  · have e : bs.getD i bk0 = bs[i] := by simp [List.getElem?_eq_getElem hi]
    unfold lnA
    rw [e]
    refine h.full _ ?_
    rw [List.mem_iff_getElem]
    exact ⟨i - 1, by rw [List.length_drop]; omega, by rw [List.getElem_drop]; congr 1; omega⟩
  · have e : bs.getD i bk0 = bs[i] := by simp [List.getElem?_eq_getElem hi]
    unfold lnA; rw [e]; exact h.room _ (List.getElem_mem hi)
  · have e : bs.getD i bk0 = bs[i] := by simp [List.getElem?_eq_getElem hi]
    unfold lnA at hj; unfold scA; rw [e] at hj ⊢
    have e2 : bs[i].2.getD j pq0 = bs[i].2[j] := by simp [List.getElem?_eq_getElem hj]
    rw [e2]
    exact okP_I64 (h.nums _ (List.getElem_mem hi) _ (List.getElem_mem hj))
/-- what follows the first one -/
theorem drop1_mid (A : List Blk) (b : Blk) (C : List Blk) (x : Blk) : x ∈ (A ++ b :: C).drop 1 ↔ (x ∈ A.drop 1 ∨ (A ≠ [] ∧ x = b) ∨ x ∈ C) := by
  cases A with
  | nil => simp
  | cons a A => simp
theorem OkL.put {A C : List Blk} {b b' : Blk} (h : OkL (A ++ b :: C)) (h0 : 0 < b'.2.length) (h1 : b'.2.length ≤ 64) (h2 : ∀ x ∈ b'.2, okP x) : OkL (A ++ b' :: C) := by
  refine ⟨by simp only [List.length_append, List.length_cons]; omega, fun x hx => ?_, fun x hx => ?_, fun x hx => ?_⟩
  · rcases (drop1_mid A b' C x).1 hx with g | ⟨_, rfl⟩ | g
    · exact h.full x ((drop1_mid A b C x).2 (Or.inl g))
    · exact h0
    · exact h.full x ((drop1_mid A b C x).2 (Or.inr (Or.inr g)))
  · rcases List.mem_append.1 hx with g | g
    · exact h.room x (List.mem_append_left _ g)
    · rcases List.mem_cons.1 g with rfl | g
      · exact h1
      · exact h.room x (List.mem_append_right _ (List.mem_cons_of_mem _ g))
  · rcases List.mem_append.1 hx with g | g
    · exact h.nums x (List.mem_append_left _ g)
    · rcases List.mem_cons.1 g with rfl | g
      · exact h2
      · exact h.nums x (List.mem_append_right _ (List.mem_cons_of_mem _ g))
theorem OkL.split {A C : List Blk} {b b1 b2 : Blk} (h : OkL (A ++ b :: C)) (h0 : 0 < b1.2.length) (g0 : 0 < b2.2.length) (e : b1.2 ++ b2.2 = b.2) : OkL (A ++ b1 :: b2 :: C) := by
  have hb : b ∈ A ++ b :: C := by simp
  have hr := h.room b hb
  have hn := h.nums b hb
  rw [← e, List.length_append] at hr
  rw [← e] at hn
  have h3 := h.put (b' := b1) h0 (by omega) (fun x hx => hn x (List.mem_append_left _ hx))
  refine ⟨by simp only [List.length_append, List.length_cons]; omega, fun x hx => ?_, fun x hx => ?_, fun x hx => ?_⟩
  · rcases (drop1_mid A b1 (b2 :: C) x).1 hx with g | ⟨k, rfl⟩ | g
    · exact h3.full x ((drop1_mid A b1 C x).2 (Or.inl g))
    · exact h0
    · rcases List.mem_cons.1 g with rfl | g
      · exact g0
      · exact h3.full x ((drop1_mid A b1 C x).2 (Or.inr (Or.inr g)))
  · rcases List.mem_append.1 hx with g | g
    · exact h.room x (List.mem_append_left _ g)
    · rcases List.mem_cons.1 g with rfl | g
      · omega
      · rcases List.mem_cons.1 g with rfl | g
        · omega
        · exact h.room x (List.mem_append_right _ (List.mem_cons_of_mem _ g))
  · rcases List.mem_append.1 hx with g | g
    · exact h.nums x (List.mem_append_left _ g)
    · rcases List.mem_cons.1 g with rfl | g
      · exact fun y hy => hn y (List.mem_append_left _ hy)
      · rcases List.mem_cons.1 g with rfl | g
        · exact fun y hy => hn y (List.mem_append_right _ hy)
        · exact h.nums x (List.mem_append_right _ (List.mem_cons_of_mem _ g))
/-- what join makes of blocks -/
def JoinR (bs : List Blk) (k : Int) (bs' : List Blk) : Prop :=
  (bs' = bs ∧ ∀ A b c C, bs = A ++ b :: c :: C → k = (A.length : Int) → 64 < b.2.length + c.2.length) ∨
  (∃ A b c C, bs = A ++ b :: c :: C ∧ k = (A.length : Int) ∧ b.2.length + c.2.length ≤ 64 ∧ bs' = A ++ (b.1, b.2 ++ c.2) :: C)
theorem JoinR.flat {bs bs' : List Blk} {k : Int} (h : JoinR bs k bs') : flat bs' = flat bs := by
  rcases h with ⟨rfl, _⟩ | ⟨A, b, c, C, rfl, _, _, rfl⟩
  · rfl
  · simp [flat_app, flat_cons]
theorem OkL.join {A C : List Blk} {b c : Blk} (h : OkL (A ++ b :: c :: C)) (hl : b.2.length + c.2.length ≤ 64) : OkL (A ++ (b.1, b.2 ++ c.2) :: C) := by
  have hc : 0 < c.2.length := h.full c ((drop1_mid A b (c :: C) c).2 (Or.inr (Or.inr List.mem_cons_self)))
  have hb : b ∈ A ++ b :: c :: C := by simp
  have hcm : c ∈ A ++ b :: c :: C := by simp
  have g : OkL (A ++ b :: C) := by
    refine ⟨by simp only [List.length_append, List.length_cons]; omega, fun x hx => h.full x ?_, fun x hx => h.room x ?_, fun x hx => h.nums x ?_⟩
    · rcases (drop1_mid A b C x).1 hx with g | g | g
      · exact (drop1_mid A b (c :: C) x).2 (Or.inl g)
      · exact (drop1_mid A b (c :: C) x).2 (Or.inr (Or.inl g))
      · exact (drop1_mid A b (c :: C) x).2 (Or.inr (Or.inr (List.mem_cons_of_mem _ g)))
    all_goals
      rcases List.mem_append.1 hx with g | g
      · exact List.mem_append_left _ g
      · refine List.mem_append_right _ ?_
        rcases List.mem_cons.1 g with rfl | g
        · exact List.mem_cons_self
        · exact List.mem_cons_of_mem _ (List.mem_cons_of_mem _ g)
  refine g.put (by rw [List.length_append]; omega) (by rw [List.length_append]; exact hl) fun x hx => ?_
  rcases List.mem_append.1 hx with k | k
  · exact h.nums b hb x k
  · exact h.nums c hcm x k
/-- a block is shorter, may be empty: joined on both sides all is well again -/
theorem OkL.cut {A C : List Blk} {b b' : Blk} {X Y : List Blk} (h : OkL (A ++ b :: C)) (h1 : b'.2.length ≤ 64) (h2 : ∀ x ∈ b'.2, okP x)
    (hX : JoinR (A ++ b' :: C) (A.length : Int) X) (hY : JoinR X ((A.length : Int) - 1) Y) : OkL Y := by
  -- behind the first joining: a block that is not empty, or the last one
  have key : OkL X ∨ (C = [] ∧ X = A ++ [b']) := by
    cases C with
    | nil =>
      refine Or.inr ⟨rfl, ?_⟩
      rcases hX with ⟨e, _⟩ | ⟨A2, b2, c2, C2, e, k, _, _⟩
      · exact e
      · have := congrArg List.length e
        simp at this; omega
    | cons c C =>
      left
      have hc : 0 < c.2.length := h.full c ((drop1_mid A b (c :: C) c).2 (Or.inr (Or.inr List.mem_cons_self)))
      have hcr : c.2.length ≤ 64 := h.room c (by simp)
      rcases hX with ⟨rfl, e⟩ | ⟨A2, b2, c2, C2, e, k, hl, rfl⟩
      · have := e A b' c C rfl rfl
        exact h.put (by omega) h1 h2
      · have hA : A2.length = A.length := by omega
        obtain ⟨e1, e2⟩ := List.append_inj e hA.symm
        injection e2 with e2 e3
        injection e3 with e3 e4
        subst e1; subst e2; subst e3; subst e4
        have g : OkL (A ++ (b'.1, b'.2 ++ c.2) :: c :: C) := h.put (by rw [List.length_append]; omega) (by rw [List.length_append]; exact hl) (fun x hx => by
          rcases List.mem_append.1 hx with k | k
          · exact h2 x k
          · exact h.nums c (by simp) x k)
        refine ⟨by simp only [List.length_append, List.length_cons]; omega, fun x hx => g.full x ?_, fun x hx => g.room x ?_, fun x hx => g.nums x ?_⟩
        · rcases (drop1_mid _ _ C x).1 hx with k | k | k
          · exact (drop1_mid _ _ _ x).2 (Or.inl k)
          · exact (drop1_mid _ _ _ x).2 (Or.inr (Or.inl k))
          · exact (drop1_mid _ _ _ x).2 (Or.inr (Or.inr (List.mem_cons_of_mem _ k)))
        all_goals
          rcases List.mem_append.1 hx with k | k
          · exact List.mem_append_left _ k
          · refine List.mem_append_right _ ?_
            rcases List.mem_cons.1 k with rfl | k
            · exact List.mem_cons_self
            · exact List.mem_cons_of_mem _ (List.mem_cons_of_mem _ k)
  rcases key with hO | ⟨rfl, rfl⟩
  · rcases hY with ⟨rfl, _⟩ | ⟨A2, b2, c2, C2, rfl, _, hl, rfl⟩
    · exact hO
    · exact hO.join hl
  · -- the last block, may be empty
    rcases List.eq_nil_or_concat A with rfl | ⟨A', a, rfl⟩
    · have e : Y = [b'] := by
        rcases hY with ⟨e, _⟩ | ⟨A2, b2, c2, C2, e, k, _, _⟩
        · simpa using e
        · simp at k; first | done | omega
      subst e
      exact ⟨by simp, by simp, by simpa using h1, by simpa using h2⟩
    · have hm : a ∈ A'.concat a ++ b :: [] := by simp
      have ha := h.room a hm
      have hk : (((A'.concat a).length : Nat) : Int) - 1 = (A'.length : Int) := by simp
      rw [hk] at hY
      have e0 : A'.concat a ++ [b'] = A' ++ a :: b' :: [] := by simp
      rw [e0] at hY
      rcases hY with ⟨rfl, e⟩ | ⟨A2, b2, c2, C2, e, k, hl, rfl⟩
      · have := e A' a b' [] rfl rfl
        have g := h.put (b' := b') (by omega) h1 h2
        simpa using g
      · have hA : A2.length = A'.length := by omega
        obtain ⟨e1, e2⟩ := List.append_inj e hA.symm
        injection e2 with e2 e3
        injection e3 with e3 e4
        subst e1; subst e2; subst e3; subst e4
        have g : OkL (A' ++ [a]) := by
          refine ⟨by simp only [List.length_append, List.length_cons]; omega, fun x hx => h.full x ?_, fun x hx => h.room x ?_, fun x hx => h.nums x ?_⟩
          · have := (drop1_mid A' a [] x).1 hx
            rw [show A'.concat a ++ b :: [] = A' ++ a :: [b] by simp, drop1_mid]
            rcases this with k | k | k
            · exact Or.inl k
            · exact Or.inr (Or.inl k)
            · cases k
          all_goals
            rw [show A'.concat a ++ b :: [] = (A' ++ [a]) ++ [b] by simp]
            exact List.mem_append_left _ hx
        have gj : OkL (A' ++ (a.1, a.2 ++ b'.2) :: []) := by
          refine ⟨by simp only [List.length_append, List.length_cons]; omega, fun x hx => ?_, fun x hx => ?_, fun x hx => ?_⟩
          · rcases (drop1_mid A' _ [] x).1 hx with k | ⟨k, rfl⟩ | k
            · exact g.full x ((drop1_mid A' a [] x).2 (Or.inl k))
            · have := g.full a ((drop1_mid A' a [] a).2 (Or.inr (Or.inl ⟨k, rfl⟩)))
              rw [List.length_append]; omega
            · cases k
          · rcases List.mem_append.1 hx with k | k
            · exact g.room x (List.mem_append_left _ k)
            · rw [List.mem_singleton] at k; subst k
              rw [List.length_append]; exact hl
          · rcases List.mem_append.1 hx with k | k
            · exact g.nums x (List.mem_append_left _ k)
            · rw [List.mem_singleton] at k; subst k
              intro y hy
              rcases List.mem_append.1 hy with q | q
              · exact g.nums a (by simp) y q
              · exact h2 y q
        exact gj
/-- one more -/
theorem flat_put {A C : List Blk} {b : Blk} {r : Nat} {s : PQ} (hr : r ≤ b.2.length) : flat (A ++ (b.1, insS b.2 r s) :: C) = insS (flat (A ++ b :: C)) ((flat A).length + r) s := by
  unfold insS
  rw [flat_app, flat_cons, flat_app, flat_cons, List.take_length_add_append, List.drop_length_add_append, List.take_append_of_le_length hr, List.drop_append_of_le_length hr]
  simp
/-- one less -/
theorem flat_cut {A C : List Blk} {b : Blk} {r : Nat} (hr : r < b.2.length) : flat (A ++ (b.1, b.2.eraseIdx r) :: C) = (flat (A ++ b :: C)).eraseIdx ((flat A).length + r) := by
  rw [flat_app, flat_cons, flat_app, flat_cons, List.eraseIdx_append_of_length_le (by omega), List.eraseIdx_append_of_lt_length (by omega)]
  simp
end Go.Proofs.Ytaeodkpkgbjaeaa
