/- Layer 18 (bag): one score more, one less: lists in their order. -/
import Derived.Test.YtaeodkpkgbjaeaaBagI
namespace Go.Proofs.Ytaeodkpkgbjaeaa
open Go.RowKit
set_option linter.unusedVariables false
set_option linter.unusedSimpArgs false

theorem insS_at (l : List PQ) (k : Nat) (s : PQ) (hk : k ≤ l.length) (m : Nat) : (insS l k s)[m]? = if m < k then l[m]? else if m = k then some s else l[m - 1]? := by
  unfold insS
  rw [List.append_assoc, List.getElem?_append, List.length_take, Nat.min_eq_left hk]
  by_cases h : m < k
  · rw [if_pos h, if_pos h, List.getElem?_take, if_pos h]
  · rw [if_neg h, if_neg h]
    by_cases h2 : m = k
    · subst h2; simp
    · rw [if_neg h2]
      obtain ⟨j, rfl⟩ : ∃ j, m = k + 1 + j := ⟨m - k - 1, by omega⟩
      rw [show k + 1 + j - k = j + 1 by omega, List.singleton_append, List.getElem?_cons_succ, List.getElem?_drop]
      congr 1; omega
theorem insS_len (l : List PQ) (k : Nat) (s : PQ) (hk : k ≤ l.length) : (insS l k s).length = l.length + 1 := by unfold insS; simp; omega
theorem insS_mem {l : List PQ} {k : Nat} {s x : PQ} (h : x ∈ insS l k s) : x = s ∨ x ∈ l := by
  unfold insS at h
  rcases List.mem_append.1 h with h | h
  · rcases List.mem_append.1 h with h | h
    · exact Or.inr (List.mem_of_mem_take h)
    · exact Or.inl (List.mem_singleton.1 h)
  · exact Or.inr (List.mem_of_mem_drop h)
theorem getD_some {l : List PQ} {i : Nat} (h : i < l.length) : l[i]? = some (l.getD i pq0) := by simp [List.getElem?_eq_getElem h]
theorem ins_same {l : List PQ} {s : PQ} {k p : Nat} (hk : k ≤ p) (hp : p ≤ l.length) (h : ∀ i, k ≤ i → i < p → l.getD i pq0 = s) : insS l k s = insS l p s := by
  apply List.ext_getElem?
  intro m
  rw [insS_at l k s (by omega), insS_at l p s hp]
  by_cases h1 : m < k
  · rw [if_pos h1, if_pos (by omega)]
  rw [if_neg h1]
  by_cases h2 : m < p
  · rw [if_pos h2, getD_some (show m < l.length by omega), h m (by omega) h2]
    split
    · rfl
    · rw [getD_some (by omega), h (m - 1) (by omega) (by omega)]
  rw [if_neg h2]
  by_cases h3 : m = p
  · rw [if_pos h3]
    split
    · rfl
    · rw [getD_some (by omega), h (m - 1) (by omega) (by omega)]
  · rw [if_neg h3, if_neg (by omega)]
theorem del_same {l : List PQ} {s : PQ} {i j : Nat} (hij : i ≤ j) (hj : j < l.length) (h : ∀ m, i ≤ m → m ≤ j → l.getD m pq0 = s) : l.eraseIdx i = l.eraseIdx j := by
  apply List.ext_getElem?
  intro m
  rw [List.getElem?_eraseIdx, List.getElem?_eraseIdx]
  by_cases h1 : m < i
  · rw [if_pos h1, if_pos (by omega)]
  rw [if_neg h1]
  by_cases h2 : m < j
  · rw [if_pos h2, getD_some (by omega), getD_some (by omega), h m (by omega) (by omega), h (m + 1) (by omega) (by omega)]
  · rw [if_neg h2]
theorem UpS.nil : UpS [] := ⟨by simp, List.Pairwise.nil⟩
theorem UpS.del {l : List PQ} (h : UpS l) (i : Nat) : UpS (l.eraseIdx i) :=
  ⟨fun x hx => h.ok x (List.mem_of_mem_eraseIdx hx), h.up.sublist (List.eraseIdx_sublist l i)⟩
theorem UpS.ins {l : List PQ} (h : UpS l) {s : PQ} (hs : okP s) {p : Nat} (hp : CutQ (fun x => byB x.1 x.2 s.1 s.2) l p) : UpS (insS l p s) := by
  have e : l.take p ++ l.drop p = l := List.take_append_drop p l
  have hup := h.up
  rw [← e, List.pairwise_append] at hup
  obtain ⟨u1, u2, u3⟩ := hup
  have hlt : ∀ x ∈ l.take p, leS x s := by
    intro x hx
    obtain ⟨i, hi, rfl⟩ := List.getElem_of_mem hx
    rw [List.length_take] at hi
    have n := hp.no i (by omega)
    have ed : l.getD i pq0 = l[i]'(by omega) := by simp [List.getElem?_eq_getElem (show i < l.length by omega)]
    rw [ed] at n
    rw [List.getElem_take]
    have ox := h.ok (l[i]'(by omega)) (List.getElem_mem _)
    by_cases g : leS (l[i]'(by omega)) s
    · exact g
    · rw [(byB_iff ox hs).2 g] at n; cases n
  have hge : ∀ x ∈ l.drop p, leS s x := by
    intro x hx
    obtain ⟨i, hi, rfl⟩ := List.getElem_of_mem hx
    rw [List.length_drop] at hi
    have n := hp.yes (p + i) (by omega) (by omega)
    have ed : l.getD (p + i) pq0 = l[p + i]'(by omega) := by simp [List.getElem?_eq_getElem (show p + i < l.length by omega)]
    rw [ed] at n
    rw [List.getElem_drop]
    have ox := h.ok (l[p + i]'(by omega)) (List.getElem_mem _)
    exact leS_total _ _ ((byB_iff ox hs).1 n)
  refine ⟨fun x hx => ?_, ?_⟩
  · rcases insS_mem hx with rfl | g
    · exact hs
    · exact h.ok x g
  · unfold insS
    rw [List.append_assoc, List.pairwise_append]
    refine ⟨u1, ?_, fun x hx y hy => ?_⟩
    · rw [List.singleton_append, List.pairwise_cons]
      exact ⟨hge, u2⟩
    · rw [List.singleton_append] at hy
      rcases List.mem_cons.1 hy with rfl | g
      · exact hlt x hx
      · exact u3 x hx y g
/-- the reference's place, in front of all that are not less odd, gives the same -/
theorem UpS.ins_ref {l : List PQ} (h : UpS l) {s : PQ} (hs : okP s) {p k : Nat} (hp : CutQ (fun x => byB x.1 x.2 s.1 s.2) l p) (hk : k ≤ l.length) (h1 : ∀ i, i < k → oddC (l.getD i pq0).1 (l.getD i pq0).2 s.1 s.2 < 0)
    (h2 : k < l.length → ¬ oddC (l.getD k pq0).1 (l.getD k pq0).2 s.1 s.2 < 0) : insS l k s = insS l p s := by
  have hkp : k ≤ p := by
    rcases Nat.lt_or_ge p k with g | g
    · have y := hp.yes p (Nat.le_refl _) (by omega)
      have := (byB_iff (h.okAt (show p < l.length by omega)) hs).1 y
      exact absurd (by have := h1 p g; unfold leS; omega) this
    · exact g
  refine ins_same hkp hp.le fun i hi hip => ?_
  have hil : i < l.length := by have := hp.le; omega
  have oi := h.okAt hil
  have n := hp.no i hip
  have l1 : leS (l.getD i pq0) s := by
    by_cases g : leS (l.getD i pq0) s
    · exact g
    · rw [(byB_iff oi hs).2 g] at n; cases n
  have ok := h.okAt (show k < l.length by omega)
  have l2 : leS s (l.getD k pq0) := by
    have := h2 (by omega)
    have e := oddC_neg (l.getD k pq0).1 (l.getD k pq0).2 s.1 s.2
    unfold leS; omega
  exact leS_anti oi hs l1 (leS_trans hs ok oi l2 (h.at hi hil))
/-- what stands last of those that are not odder is s, if s is there at all -/
theorem UpS.there {l : List PQ} (h : UpS l) {s : PQ} (hs : okP s) {p : Nat} (hp : CutQ (fun x => byB x.1 x.2 s.1 s.2) l p) {i : Nat} (hi : i < l.length) (hq : l.getD i pq0 = s) : i < p ∧ ∀ m, i ≤ m → m ≤ p - 1 → l.getD m pq0 = s := by
  have hip : i < p := by
    rcases Nat.lt_or_ge i p with g | g
    · exact g
    · have y := hp.yes i g hi
      have := (byB_iff (h.okAt hi) hs).1 y
      rw [hq] at this
      exact absurd (by rw [leS_iff]; omega) this
  refine ⟨hip, fun m hm hmp => ?_⟩
  have hml : m < l.length := by have := hp.le; omega
  have om := h.okAt hml
  have n := hp.no m (by omega)
  have l1 : leS (l.getD m pq0) s := by
    by_cases g : leS (l.getD m pq0) s
    · exact g
    · rw [(byB_iff om hs).2 g] at n; cases n
  have l2 := h.at hm hml
  rw [hq] at l2
  exact leS_anti om hs l1 l2
end Go.Proofs.Ytaeodkpkgbjaeaa
