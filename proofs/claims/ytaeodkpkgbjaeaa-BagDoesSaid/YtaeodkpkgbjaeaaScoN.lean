/- Scores in their order: lists. -/
import Derived.Test.YtaeodkpkgbjaeaaScoB
namespace Go.Proofs.Ytaeodkpkgbjaeaa
open Go.RowKit
set_option linter.unusedVariables false

/-- x may stand ahead of y: it is not odder -/
def leS (x y : PQ) : Prop := oddC x.1 x.2 y.1 y.2 ≤ 0
instance (x y : PQ) : Decidable (leS x y) := by unfold leS; infer_instance
def leB (x y : PQ) : Bool := decide (leS x y)
def okP (x : PQ) : Prop := ScoOk x.1 x.2
theorem leS_total (x y : PQ) (h : ¬ leS x y) : leS y x := by
  unfold leS at *
  have := oddC_neg x.1 x.2 y.1 y.2
  omega
theorem leS_iff (x y : PQ) : leS x y ↔ x.1 * y.2 ≥ y.1 * x.2 := by
  unfold leS
  rcases oddC_cases x.1 x.2 y.1 y.2 with ⟨h, e⟩ | ⟨h, e⟩ | ⟨h, e⟩ <;> omega
theorem leS_trans {x y z : PQ} (hx : okP x) (hy : okP y) (hz : okP z) (h : leS x y) (g : leS y z) : leS x z := by
  rw [leS_iff] at *
  exact oddC_trans hx.1 hy.1 hz.1 h g
theorem leS_anti {x y : PQ} (hx : okP x) (hy : okP y) (h : leS x y) (g : leS y x) : x = y := by
  unfold leS at *
  have := oddC_neg x.1 x.2 y.1 y.2
  have e := (oddC_zero hx hy).1 (by omega)
  exact Prod.ext e.1 e.2
theorem merge_pw : ∀ (a b : List PQ), (∀ x ∈ a, okP x) → (∀ x ∈ b, okP x) → a.Pairwise leS → b.Pairwise leS → (List.merge a b leB).Pairwise leS := by
  intro a
  induction a with
  | nil => intro b _ _ _ h; rw [List.nil_merge]; exact h
  | cons x a iha =>
    intro b
    induction b with
    | nil => intro _ _ h _; rw [List.merge_right]; exact h
    | cons y b ihb =>
      intro oa ob pa pb
      rw [List.cons_merge_cons]
      have ox := oa x List.mem_cons_self
      have oy := ob y List.mem_cons_self
      rw [List.pairwise_cons] at pa pb
      split
      · rename_i hle
        have hle : leS x y := of_decide_eq_true hle
        rw [List.pairwise_cons]
        refine ⟨fun z hz => ?_, iha (y :: b) (fun z hz => oa z (List.mem_cons_of_mem _ hz)) ob pa.2 (List.pairwise_cons.2 pb)⟩
        rcases List.mem_merge.1 hz with h | h
        · exact pa.1 z h
        · rcases List.mem_cons.1 h with rfl | h
          · exact hle
          · exact leS_trans ox oy (ob z (List.mem_cons_of_mem _ h)) hle (pb.1 z h)
      · rename_i hle
        have hle : leS y x := leS_total _ _ (fun h => hle (decide_eq_true h))
        rw [List.pairwise_cons]
        refine ⟨fun z hz => ?_, ihb oa (fun z hz => ob z (List.mem_cons_of_mem _ hz)) (List.pairwise_cons.2 pa) pb.2⟩
        rcases List.mem_merge.1 hz with h | h
        · rcases List.mem_cons.1 h with rfl | h
          · exact hle
          · exact leS_trans oy ox (oa z (List.mem_cons_of_mem _ h)) hle (pa.1 z h)
        · exact pb.1 z h
/-- s is l in its order -/
def IsSort (l s : List PQ) : Prop := s.Perm l ∧ s.Pairwise leS
theorem IsSort.len {l s : List PQ} (h : IsSort l s) : s.length = l.length := h.1.length_eq
theorem IsSort.same {l s t : List PQ} (hl : ∀ x ∈ l, okP x) (h : IsSort l s) (g : IsSort l t) : s = t := by
  refine List.Perm.eq_of_pairwise (le := leS) ?_ h.2 g.2 (h.1.trans g.1.symm)
  intro x y hx hy h1 h2
  exact leS_anti (hl x (h.1.mem_iff.1 hx)) (hl y (g.1.mem_iff.1 hy)) h1 h2
theorem IsSort.small {l : List PQ} (h : l.length < 2) : IsSort l l := by
  refine ⟨List.Perm.refl _, ?_⟩
  match l, h with
  | [], _ => exact List.Pairwise.nil
  | [x], _ => exact List.pairwise_singleton _ _
theorem IsSort.merge {l s t : List PQ} (hl : ∀ x ∈ l, okP x) (k : Nat) (h : IsSort (l.take k) s) (g : IsSort (l.drop k) t) : IsSort l (List.merge s t leB) := by
  refine ⟨(List.merge_perm_append leB).trans ?_, merge_pw s t (fun x hx => hl x (List.mem_of_mem_take (h.1.mem_iff.1 hx))) (fun x hx => hl x (List.mem_of_mem_drop (g.1.mem_iff.1 hx))) h.2 g.2⟩
  have := h.1.append g.1
  rwa [List.take_append_drop] at this
/-- one more put where it belongs -/
def insS (s : List PQ) (k : Nat) (x : PQ) : List PQ := s.take k ++ [x] ++ s.drop k
theorem IsSort.insert {l s : List PQ} {x : PQ} {k : Nat} (hl : ∀ y ∈ l, okP y) (hx : okP x) (h : IsSort l s) (h1 : ∀ y ∈ s.take k, leS y x) (h2 : k < s.length → ¬ leS (s.getD k pq0) x) : IsSort (l ++ [x]) (insS s k x) := by
  have ok : ∀ y ∈ s, okP y := fun y hy => hl y (h.1.mem_iff.1 hy)
  unfold insS
  constructor
  · have e : (s.take k ++ [x] ++ s.drop k).Perm (s.take k ++ s.drop k ++ [x]) := by
      rw [List.append_assoc, List.append_assoc]
      exact List.Perm.append_left _ List.perm_append_comm
    rw [List.take_append_drop] at e
    exact e.trans (h.1.append_right _)
  · have hp := h.2
    rw [← List.take_append_drop k s, List.pairwise_append] at hp
    obtain ⟨p1, p2, p3⟩ := hp
    have h3 : ∀ y ∈ s.drop k, leS x y := by
      intro y hy
      have hk : k < s.length := by
        rcases Nat.lt_or_ge k s.length with h | h
        · exact h
        · rw [List.drop_eq_nil_of_le h] at hy; cases hy
      have e : s.drop k = s.getD k pq0 :: s.drop (k + 1) := by
        rw [List.getD_eq_getElem?_getD, List.getElem?_eq_getElem hk, Option.getD_some]
        exact List.drop_eq_getElem_cons hk
      rw [e] at hy p2
      have hx1 := leS_total _ _ (h2 hk)
      rcases List.mem_cons.1 hy with rfl | hy
      · exact hx1
      · have o1 : okP (s.getD k pq0) := ok _ (by rw [List.getD_eq_getElem?_getD, List.getElem?_eq_getElem hk]; exact List.getElem_mem hk)
        exact leS_trans hx o1 (ok y (List.mem_of_mem_drop hy)) hx1 ((List.pairwise_cons.1 p2).1 y hy)
    rw [List.append_assoc, List.pairwise_append]
    refine ⟨p1, ?_, ?_⟩
    · rw [List.singleton_append, List.pairwise_cons]
      exact ⟨h3, p2⟩
    · intro y hy z hz
      rcases List.mem_append.1 hz with hz | hz
      · rw [List.mem_singleton] at hz; subst hz; exact h1 y hy
      · exact p3 y hy z hz
theorem all_okP {l : List PQ} (h : allS l = true) : ∀ x ∈ l, okP x := by
  unfold allS at h
  rw [List.all_eq_true] at h
  intro x hx
  exact of_decide_eq_true (p := ScoOk x.1 x.2) (h x hx)
end Go.Proofs.Ytaeodkpkgbjaeaa
