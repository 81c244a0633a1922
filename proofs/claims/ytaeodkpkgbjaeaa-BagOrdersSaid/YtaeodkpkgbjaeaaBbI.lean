/- Layer 18 (bag): many scores put in; a score's places. -/
import Derived.Test.YtaeodkpkgbjaeaaBbH
namespace Go.Proofs.Ytaeodkpkgbjaeaa
open Go.RowKit
set_option linter.unusedVariables false
set_option linter.unusedSimpArgs false

/-- the first i of them put in -/
def adds (l : List PQ) (i : Nat) : List PQ := (l.take i).foldl addL []
theorem adds_zero (l : List PQ) : adds l 0 = [] := rfl
theorem adds_succ (l : List PQ) (i : Nat) (h : i < l.length) : adds l (i + 1) = addL (adds l i) (l.getD i pq0) := by
  unfold adds
  have e : l.getD i pq0 = l[i] := by simp [List.getElem?_eq_getElem h]
  have e2 : l.take (i + 1) = l.take i ++ [l[i]] := by rw [List.take_add_one, List.getElem?_eq_getElem h]; rfl
  rw [e2, List.foldl_append, e]
  rfl
theorem posK_le (l : List PQ) (s : PQ) : posK l s ≤ l.length := List.countP_le_length
theorem addL_len (l : List PQ) (s : PQ) : (addL l s).length ≤ l.length + 1 := by
  unfold addL
  split
  · rw [insS_len _ _ _ (posK_le _ _)]; omega
  · omega
theorem adds_len (l : List PQ) : ∀ i, i ≤ l.length → (adds l i).length ≤ i
  | 0, _ => by rw [adds_zero]; simp
  | i + 1, h => by
    rw [adds_succ l i (by omega)]
    have := adds_len l i (by omega)
    have := addL_len (adds l i) (l.getD i pq0)
    omega
theorem insS_has (l : List PQ) (k : Nat) (s : PQ) : s ∈ insS l k s := by unfold insS; simp
theorem insS_old {l : List PQ} {k : Nat} {s x : PQ} (h : x ∈ l) : x ∈ insS l k s := by
  unfold insS
  rw [← List.take_append_drop k l] at h
  rcases List.mem_append.1 h with g | g
  · exact List.mem_append_left _ (List.mem_append_left _ g)
  · exact List.mem_append_right _ g
theorem addL_old {l : List PQ} {s x : PQ} (h : x ∈ l) : x ∈ addL l s := by
  unfold addL; split
  · exact insS_old h
  · exact h
theorem adds_mem (l : List PQ) (hl : l.length ≤ 4000) : ∀ k, k ≤ l.length → ∀ i, i < k → okP (l.getD i pq0) → l.getD i pq0 ∈ adds l k
  | 0, _, i, hi, _ => absurd hi (by omega)
  | k + 1, hk, i, hi, ho => by
    rw [adds_succ l k (by omega)]
    rcases Nat.lt_or_ge i k with g | g
    · exact addL_old (adds_mem l hl k (by omega) i g ho)
    · obtain rfl : i = k := by omega
      have h1 := adds_len l i (by omega)
      unfold addL
      rw [if_pos ⟨ho, by omega⟩]
      exact insS_has _ _ _
theorem MonoQ.cut {Q : PQ → Bool} : ∀ {l : List PQ}, MonoQ Q l → ∃ p, CutQ Q l p
  | [], _ => ⟨0, ⟨by simp, fun i h => absurd h (by omega), fun i _ h => absurd h (by simp)⟩⟩
  | x :: t, h => by
    cases hq : Q x with
    | true => exact ⟨0, ⟨by simp, fun i h => absurd h (by omega), fun i _ hi => h 0 i (by omega) hi (by simpa using hq)⟩⟩
    | false =>
      have ht : MonoQ Q t := fun i j hij hj hqi => by
        have := h (i + 1) (j + 1) (by omega) (by simpa using hj) (by simpa using hqi)
        simpa using this
      obtain ⟨p, hp⟩ := MonoQ.cut ht
      refine ⟨p + 1, ⟨by have := hp.le; simp; omega, fun i hi => ?_, fun i h1 h2 => ?_⟩⟩
      · cases i with
        | zero => simpa using hq
        | succ i => have := hp.no i (by omega); simpa using this
      · cases i with
        | zero => omega
        | succ i => have := hp.yes i (by omega) (by simpa using h2); simpa using this
/-- where a score's places are -/
theorem UpS.places {l : List PQ} (h : UpS l) {s : PQ} (hs : okP s) (hm : s ∈ l) : 1 ≤ sameN l s ∧ lessN l s + sameN l s ≤ l.length ∧ l.getD (lessN l s) pq0 = s ∧ l.getD (lessN l s + sameN l s - 1) pq0 = s := by
  obtain ⟨p1, c1⟩ := (h.mono1 hs).cut
  obtain ⟨p2, c2⟩ := (h.mono2 hs).cut
  have e1 : p1 = lessN l s := by rw [← h.less hs]; exact c1.count.symm
  have e2 : p2 = lessN l s + sameN l s := by rw [← h.both hs]; exact c2.count.symm
  rw [e1] at c1
  rw [e2] at c2
  obtain ⟨j, hj, e⟩ := List.getElem_of_mem hm
  have ej : l.getD j pq0 = s := by simp [List.getElem?_eq_getElem hj, e]
  have key : ∀ m, lessN l s ≤ m → m < lessN l s + sameN l s → l.getD m pq0 = s := fun m h1 h2 => by
    have y := c1.yes m h1 (by have := c2.le; omega)
    have n := c2.no m h2
    unfold upB at y
    simp only [n, Bool.or_false] at y
    exact of_decide_eq_true y
  have j1 : lessN l s ≤ j := by
    rcases Nat.lt_or_ge j (lessN l s) with g | g
    · have := c1.no j g
      rw [ej] at this
      unfold upB at this
      simp at this
    · exact g
  have j2 : j < lessN l s + sameN l s := by
    rcases Nat.lt_or_ge j (lessN l s + sameN l s) with g | g
    · exact g
    · have y := c2.yes j g hj
      rw [ej] at y
      exact absurd (by rw [leS_iff]; omega) ((byB_iff hs hs).1 y)
  exact ⟨by omega, c2.le, key _ (Nat.le_refl _) (by omega), key _ (by omega) (by omega)⟩
theorem LvS.up {w0 W : World} {g : Nat} {bx : List (Nat × Array Value)} {l : List PQ} (h : LvS w0 g bx l W) : UpS l ∧ l.length ≤ 4096 ∧ Below w0.heap.size w0 W := by
  obtain ⟨O, h1, h2, h4, h5⟩ := h
  obtain ⟨_, _, _, _, _, _, _, _, _, hU, hl⟩ := h1
  exact ⟨hU, hl, h5⟩
theorem lvx_add (w0 : World) (g : Nat) (bx : List (Nat × Array Value)) (l : List PQ) (p q : Int) (hp : I64 p) (hq : I64 q) (W : World) (h : LvS w0 g bx l W) :
    Calls Try.prog 25 #[.pointer (some ⟨g, 0, none⟩), .agg #[.int .i64 p, .int .i64 q]] W fun e w' => e = .returned (.int .i64 (addE l (p, q))) ∧ Hid (LvS w0 g bx (addL l (p, q)) w') := by
  obtain ⟨O, h1, h2, h4, h5⟩ := h
  refine (bag_Add O g l p q hp hq W h1).mono ?_
  rintro e w' hR
  obtain ⟨he, hL⟩ := LvS.of h1 h2 h4 h5 hR
  exact ⟨he, hL⟩
theorem lvx_rank (w0 : World) (g : Nat) (bx : List (Nat × Array Value)) (l : List PQ) (p q : Int) (hp : I64 p) (hq : I64 q) (W : World) (h : LvS w0 g bx l W) :
    Calls Try.prog 22 #[.pointer (some ⟨g, 0, none⟩), .agg #[.int .i64 p, .int .i64 q]] W fun e w' => e = .returned (.tuple #[.int .i64 (rkL l (p, q) : Nat), .int .i64 (rkS l (p, q) : Nat), .int .i64 (rkE (p, q))]) ∧ Hid (LvS w0 g bx l w') ∧ Hid (Below W.heap.size W w') := by
  have hL := h
  obtain ⟨O, h1, h2, h4, h5⟩ := h
  refine (bag_Rank O g l p q hp hq W h1).mono ?_
  rintro e w' ⟨rfl, hb⟩
  exact ⟨rfl, hL.below hb, hb⟩
theorem lvx_kth (w0 : World) (g : Nat) (bx : List (Nat × Array Value)) (l : List PQ) (k : Nat) (x p q : Int) (hx : x = (k : Int) + 1) (hk : k < l.length) (he : l.getD k pq0 = (p, q)) (W : World) (h : LvS w0 g bx l W) :
    Calls Try.prog 24 #[.pointer (some ⟨g, 0, none⟩), .int .i64 x] W fun e w' => e = .returned (.tuple #[.agg #[.int .i64 p, .int .i64 q], .int .i64 0]) ∧ Hid (LvS w0 g bx l w') ∧ Hid (Below W.heap.size W w') := by
  have hL := h
  obtain ⟨O, h1, h2, h4, h5⟩ := h
  subst hx
  refine (bag_Kth O g l k hk W h1).mono ?_
  rintro e w' ⟨rfl, hb⟩
  rw [he]
  exact ⟨rfl, hL.below hb, hb⟩
theorem lvx_len (w0 : World) (g : Nat) (bx : List (Nat × Array Value)) (l : List PQ) (W : World) (h : LvS w0 g bx l W) :
    Calls Try.prog 19 #[.pointer (some ⟨g, 0, none⟩)] W fun e w' => e = .returned (.int .i64 (l.length : Nat)) ∧ W = w' := by
  obtain ⟨O, h1, h2, h4, h5⟩ := h
  exact bag_Len O g l W h1
end Go.Proofs.Ytaeodkpkgbjaeaa
