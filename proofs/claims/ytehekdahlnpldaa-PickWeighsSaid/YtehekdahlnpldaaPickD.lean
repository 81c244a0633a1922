import Derived.Test.YtehekdahlnpldaaPickA

/-! Layer 7: rows whose places are exchanged: numbers. -/
namespace Go.Proofs.Ytehekdahlnpldaa
open Go.RowKit
set_option linter.unusedVariables false
set_option linter.unusedSimpArgs false

/-- two places exchanged -/
def swp (f : Int → Int) (i j : Int) : Int → Int := fun x => if x = j then f i else if x = i then f j else f x
def upd (f : Int → Int) (i n : Int) : Int → Int := fun x => if x = i then n else f x
theorem upd_upd (f : Int → Int) (i j : Int) : upd (upd f i (f j)) j (f i) = swp f i j := by funext x; simp only [upd, swp]
/-- the row behind so many picks -/
def ply (p : List Int) : Nat → Int → Int
  | 0 => fun x => x
  | k + 1 => swp (ply p k) k (k + p.getD k 0)
def plyV (p : List Int) : List Int := (List.range p.length).map (fun (i : Nat) => ply p p.length i)
/-- the row, and where each number stands in it, behind so many numbers -/
def bck (s : List Int) : Nat → (Int → Int) × (Int → Int)
  | 0 => (fun x => x, fun x => x)
  | k + 1 => (swp (bck s k).1 k ((bck s k).2 (s.getD k 0)), swp (bck s k).2 (s.getD k 0) ((bck s k).1 k))
def bckP (s : List Int) (k : Nat) : Int := (bck s k).2 (s.getD k 0) - k
def bckV (s : List Int) : List Int := (List.range s.length).map (bckP s)
theorem plyV_len (p : List Int) : (plyV p).length = p.length := by simp [plyV]
theorem bckV_len (p : List Int) : (bckV p).length = p.length := by simp [bckV]
theorem plyV_get (p : List Int) {j : Nat} (h : j < p.length) : (plyV p).getD j 0 = ply p p.length j := by simp [plyV, List.getD, h]
theorem bckV_get (p : List Int) {j : Nat} (h : j < p.length) : (bckV p).getD j 0 = bckP p j := by simp [bckV, List.getD, h]

theorem inv_step {f g : Int → Int} (h1 : ∀ x, g (f x) = x) (h2 : ∀ x, f (g x) = x) (k n : Int) :
    (∀ x, swp g n (f k) (swp f k (g n) x) = x) ∧ (∀ x, swp f k (g n) (swp g n (f k) x) = x) := by
  have hinj : ∀ a b, f a = f b → a = b := fun a b e => by have := congrArg g e; rwa [h1, h1] at this
  have ginj : ∀ a b, g a = g b → a = b := fun a b e => by have := congrArg f e; rwa [h2, h2] at this
  constructor
  · intro x
    unfold swp
    by_cases hx : x = g n
    · subst hx
      simp
    · rw [if_neg hx]
      by_cases hk : x = k
      · subst hk
        rw [if_pos rfl, h2]
        have : ¬ n = f x := fun e => hx (by rw [e, h1])
        rw [if_neg this, if_pos rfl, h1]
      · rw [if_neg hk]
        have e1 : ¬ f x = f k := fun e => hk (hinj _ _ e)
        have e2 : ¬ f x = n := fun e => hx (by rw [← e, h1])
        rw [if_neg e1, if_neg e2, h1]
  · intro x
    unfold swp
    by_cases hx : x = f k
    · subst hx
      simp
    · rw [if_neg hx]
      by_cases hk : x = n
      · subst hk
        rw [if_pos rfl, h1]
        have : ¬ k = g x := fun e => hx (by rw [e, h2])
        rw [if_neg this, if_pos rfl, h2]
      · rw [if_neg hk]
        have e1 : ¬ g x = g n := fun e => hk (ginj _ _ e)
        have e2 : ¬ g x = k := fun e => hx (by rw [← e, h2])
        rw [if_neg e1, if_neg e2, h2]
theorem bck_inv (s : List Int) : ∀ k, (∀ x, (bck s k).2 ((bck s k).1 x) = x) ∧ (∀ x, (bck s k).1 ((bck s k).2 x) = x)
  | 0 => ⟨fun _ => rfl, fun _ => rfl⟩
  | k + 1 => inv_step (bck_inv s k).1 (bck_inv s k).2 k (s.getD k 0)
theorem swp_range {f : Int → Int} {N i j : Int} (h : ∀ x, 0 ≤ x → x < N → 0 ≤ f x ∧ f x < N) (hi : 0 ≤ i ∧ i < N) (hj : 0 ≤ j ∧ j < N) : ∀ x, 0 ≤ x → x < N → 0 ≤ swp f i j x ∧ swp f i j x < N := by
  intro x h0 h1
  unfold swp
  split
  · exact h _ hi.1 hi.2
  · split
    · exact h _ hj.1 hj.2
    · exact h _ h0 h1
/-- picks of so many numbers -/
def picksOk (n : Int) (p : List Int) : Prop := ∀ k : Nat, k < p.length → 0 ≤ p.getD k 0 ∧ p.getD k 0 ≤ n - k - 1
theorem ply_range {n : Int} {p : List Int} (hp : picksOk n p) : ∀ k, k ≤ p.length → ∀ x, 0 ≤ x → x < n → 0 ≤ ply p k x ∧ ply p k x < n
  | 0, _ => fun x h0 h1 => ⟨h0, h1⟩
  | k + 1, hk => by
    have := hp k (by omega)
    exact swp_range (ply_range hp k (by omega)) (by omega) (by omega)
theorem ply_stays {n : Int} {p : List Int} (hp : picksOk n p) {j : Nat} : ∀ m, m ≤ p.length → j < m → ply p m j = ply p (j + 1) j
  | 0, _, h => absurd h (by omega)
  | m + 1, hm, h => by
    by_cases e : j = m
    · rw [e]
    · rw [← ply_stays hp m (by omega) (by omega)]
      show swp _ _ _ _ = _
      have := hp m (by omega)
      unfold swp
      rw [if_neg (by omega), if_neg (by omega)]
theorem ply_at (p : List Int) (j : Nat) : ply p (j + 1) j = ply p j (j + p.getD j 0) := by
  show swp _ _ _ _ = _
  unfold swp
  by_cases h : ((j : Nat) : Int) = j + p.getD j 0
  · rw [if_pos h]; rw [← h]
  · rw [if_neg h, if_pos rfl]
/-- different numbers below n -/
def diffV (s : List Int) (n : Int) : Prop := s.Nodup ∧ ∀ x ∈ s, 0 ≤ x ∧ x < n
/-- each number stands at its turn or behind it -/
def bckOk (s : List Int) (n : Int) : Prop := ∀ k : Nat, k < s.length → (k : Int) ≤ (bck s k).2 (s.getD k 0) ∧ (bck s k).2 (s.getD k 0) < n
theorem bck_range {s : List Int} {n : Int} : ∀ m : Nat, (∀ k : Nat, k < m → (k : Int) ≤ (bck s k).2 (s.getD k 0) ∧ (bck s k).2 (s.getD k 0) < n) → ∀ x, 0 ≤ x → x < n → 0 ≤ (bck s m).1 x ∧ (bck s m).1 x < n
  | 0, _ => fun x h0 h1 => ⟨h0, h1⟩
  | k + 1, h => by
    have := h k (by omega)
    exact swp_range (bck_range k (fun j hj => h j (by omega))) (by omega) (by omega)
theorem bck_done {s : List Int} {n : Int} : ∀ m : Nat, (∀ k : Nat, k < m → (k : Int) ≤ (bck s k).2 (s.getD k 0) ∧ (bck s k).2 (s.getD k 0) < n) → ∀ j : Nat, j < m → (bck s m).1 j = s.getD j 0
  | 0, _ => fun j hj => absurd hj (by omega)
  | k + 1, h => fun j hj => by
    have hk := h k (by omega)
    show swp _ _ _ _ = _
    unfold swp
    by_cases e : j = k
    · subst e
      by_cases g : (j : Int) = (bck s j).2 (s.getD j 0)
      · rw [if_pos g, g, (bck_inv s j).2]
      · rw [if_neg g, if_pos rfl, (bck_inv s j).2]
    · rw [if_neg (by omega), if_neg (by omega)]
      exact bck_done k (fun i hi => h i (by omega)) j (by omega)
/-- the numbers below n stay below n, backwards too -/
theorem bck_rangeG {s : List Int} {n : Int} (m : Nat) (h : ∀ k : Nat, k < m → (k : Int) ≤ (bck s k).2 (s.getD k 0) ∧ (bck s k).2 (s.getD k 0) < n) (hs : ∀ x ∈ s, 0 ≤ x ∧ x < n) (hm : m ≤ s.length) : ∀ x, 0 ≤ x → x < n → 0 ≤ (bck s m).2 x ∧ (bck s m).2 x < n := by
  induction m with
  | zero => exact fun x h0 h1 => ⟨h0, h1⟩
  | succ k ih =>
    have hr := bck_range k (fun j hj => h j (by omega))
    have hk := h k (by omega)
    exact swp_range (ih (fun j hj => h j (by omega)) (by omega)) (hs _ (mem_getD (by omega))) (hr _ (by omega) (by omega))
theorem nodup_getD {s : List Int} (h : s.Nodup) {i j : Nat} (hi : i < s.length) (hj : j < s.length) (e : s.getD i 0 = s.getD j 0) : i = j := by
  rw [List.getD_eq_getElem?_getD, List.getD_eq_getElem?_getD, List.getElem?_eq_getElem hi, List.getElem?_eq_getElem hj] at e
  have h2 := List.pairwise_iff_getElem.1 h
  rcases Nat.lt_trichotomy i j with g | g | g
  · exact absurd e (h2 i j hi hj g)
  · exact g
  · exact absurd e.symm (h2 j i hj hi g)
theorem nodup_of_getD {s : List Int} (h : ∀ i j, i < s.length → j < s.length → i < j → s.getD i 0 ≠ s.getD j 0) : s.Nodup := by
  rw [List.Nodup, List.pairwise_iff_getElem]
  intro i j hi hj hij
  have := h i j hi hj hij
  rw [List.getD_eq_getElem?_getD, List.getD_eq_getElem?_getD, List.getElem?_eq_getElem hi, List.getElem?_eq_getElem hj] at this
  exact this
theorem diff_ok {s : List Int} {n : Int} (h : diffV s n) : ∀ m : Nat, m ≤ s.length → ∀ k : Nat, k < m → (k : Int) ≤ (bck s k).2 (s.getD k 0) ∧ (bck s k).2 (s.getD k 0) < n
  | 0, _ => fun k hk => absurd hk (by omega)
  | m + 1, hm => fun k hk => by
    have ih := diff_ok h m (by omega)
    by_cases e : k = m
    · subst e
      have hs := h.2 _ (mem_getD (l := s) (k := k) (by omega))
      have hg := bck_rangeG k ih h.2 (by omega) _ hs.1 hs.2
      refine ⟨?_, hg.2⟩
      apply Classical.byContradiction
      intro hlt
      obtain ⟨j, hj⟩ : ∃ j : Nat, (bck s k).2 (s.getD k 0) = j := ⟨((bck s k).2 (s.getD k 0)).toNat, by omega⟩
      have hjk : j < k := by omega
      have h1 := bck_done k ih j hjk
      rw [← hj, (bck_inv s k).2] at h1
      have := nodup_getD h.1 (by omega) (by omega) h1
      omega
    · exact ih k (by omega)
theorem bckOk_iff {s : List Int} {n : Int} : bckOk s n ↔ diffV s n := by
  constructor
  · intro h
    refine ⟨nodup_of_getD fun i j hi hj hij e => ?_, fun x hx => ?_⟩
    · have h1 := bck_done (s.length) h i hi
      have h2 := bck_done (s.length) h j hj
      rw [e] at h1
      have := congrArg (bck s s.length).2 (h1.trans h2.symm)
      rw [(bck_inv s _).1, (bck_inv s _).1] at this
      omega
    · obtain ⟨j, hj, rfl⟩ := List.mem_iff_getElem.1 hx
      have hk := h j hj
      have hr := bck_range j (fun i hi => h i (by omega)) ((bck s j).2 (s.getD j 0)) (by omega) hk.2
      rw [(bck_inv s j).2, List.getD_eq_getElem?_getD, List.getElem?_eq_getElem hj] at hr
      exact hr
  · exact fun h k hk => diff_ok h s.length (Nat.le_refl _) k hk
theorem bckOk_len {s : List Int} {n : Int} (h : bckOk s n) : (s.length : Int) ≤ n ∨ s.length = 0 := by
  rcases Nat.eq_zero_or_pos s.length with e | e
  · exact .inr e
  · left
    have := h (s.length - 1) (by omega)
    omega
theorem bckP_ok {s : List Int} {n : Int} (h : bckOk s n) : picksOk n (bckV s) := by
  intro k hk
  rw [bckV_len] at hk
  rw [bckV_get s hk]
  have := h k hk
  unfold bckP
  omega
theorem ply_bck (s : List Int) : ∀ k, k ≤ s.length → ply (bckV s) k = (bck s k).1
  | 0, _ => rfl
  | k + 1, hk => by
    show swp _ _ _ = swp _ _ _
    rw [ply_bck s k (by omega), bckV_get s (by omega)]
    unfold bckP
    congr 1
    omega
theorem list_ext_getD {a b : List Int} (hl : a.length = b.length) (h : ∀ j, j < a.length → a.getD j 0 = b.getD j 0) : a = b := by
  apply List.ext_getElem hl
  intro j h1 h2
  have := h j h1
  rw [List.getD_eq_getElem?_getD, List.getD_eq_getElem?_getD, List.getElem?_eq_getElem h1, List.getElem?_eq_getElem h2] at this
  exact this
/-- what was told back is played as it was -/
theorem ply_of_bck {s : List Int} {n : Int} (h : bckOk s n) : plyV (bckV s) = s := by
  apply list_ext_getD
  · rw [plyV_len, bckV_len]
  · intro j hj
    rw [plyV_len] at hj
    rw [plyV_get _ hj, bckV_len, ply_bck s _ (Nat.le_refl _)]
    rw [bckV_len] at hj
    exact bck_done s.length h j hj
theorem plyV_at {n : Int} {p : List Int} (hp : picksOk n p) {j : Nat} (hj : j < p.length) : (plyV p).getD j 0 = ply p j (j + p.getD j 0) := by
  rw [plyV_get p hj, ply_stays hp _ (Nat.le_refl _) hj, ply_at]
theorem bck_ply {n : Int} {p : List Int} (hp : picksOk n p) : ∀ k, k ≤ p.length → (bck (plyV p) k).1 = ply p k
  | 0, _ => rfl
  | k + 1, hk => by
    have ih := bck_ply hp k (by omega)
    have hv := (bck_inv (plyV p) k).1 (k + p.getD k 0)
    rw [ih, ← plyV_at hp (by omega)] at hv
    show swp _ _ _ = swp _ _ _
    rw [hv, ih]
theorem bckP_ply {n : Int} {p : List Int} (hp : picksOk n p) {k : Nat} (hk : k < p.length) : (bck (plyV p) k).2 ((plyV p).getD k 0) = k + p.getD k 0 := by
  have hv := (bck_inv (plyV p) k).1 (k + p.getD k 0)
  rwa [bck_ply hp k (by omega), ← plyV_at hp hk] at hv
theorem bck_of_ply {n : Int} {p : List Int} (hp : picksOk n p) : bckV (plyV p) = p ∧ bckOk (plyV p) n := by
  constructor
  · apply list_ext_getD
    · rw [bckV_len, plyV_len]
    · intro j hj
      rw [bckV_len] at hj
      rw [bckV_get _ hj]
      rw [plyV_len] at hj
      unfold bckP
      rw [bckP_ply hp hj]
      omega
  · intro k hk
    rw [plyV_len] at hk
    rw [bckP_ply hp hk]
    have := hp k hk
    omega

/-- picks that are drawn -/
def smp (l : List Int) (t n : Int) : Nat → Nat → Int → List Int → List Int × Int × Int
  | 0, _, a, acc => (acc, a, 0)
  | k + 1, i, a, acc => if (bnd l a (n - i) t).2.2 = 0 then smp l t n k (i + 1) (bnd l a (n - i) t).2.1 (acc ++ [(bnd l a (n - i) t).1]) else ([], 0, (bnd l a (n - i) t).2.2)
theorem smp_pos (l : List Int) (t n : Int) : ∀ (k i : Nat) (a : Int) (acc : List Int), (smp l t n k i a acc).2.2 = 0 → acc.length = i → (i + k : Int) ≤ n → picksOk n acc →
    a + k ≤ (smp l t n k i a acc).2.1 ∧ (smp l t n k i a acc).2.1 ≤ a + k * t ∧ (0 < k → (smp l t n k i a acc).2.1 ≤ l.length) ∧ (smp l t n k i a acc).1.length = i + k ∧ picksOk n (smp l t n k i a acc).1
  | 0, i, a, acc => fun _ h1 _ h3 => ⟨by simp [smp], by simp [smp], by omega, by simp [smp, h1], by simpa [smp] using h3⟩
  | k + 1, i, a, acc => fun h h1 h2 h3 => by
    unfold smp at h ⊢
    by_cases g : (bnd l a (n - i) t).2.2 = 0
    · rw [if_pos g] at h ⊢
      have hp := bnd_pos g
      have hlt := bnd_lt (l := l) (a := a) (n := n - i) (t := t) (by omega)
      have ih := smp_pos l t n k (i + 1) (bnd l a (n - i) t).2.1 (acc ++ [(bnd l a (n - i) t).1]) h (by simp [h1]) (by omega) ?_
      · obtain ⟨q1, q2, q3, q4, q5⟩ := ih
        have hm : ((k + 1 : Nat) : Int) * t = k * t + t := by rw [Int.natCast_add, Int.add_mul]; simp
        refine ⟨by omega, by omega, fun _ => ?_, by omega, q5⟩
        rcases Nat.eq_zero_or_pos k with e | e
        · subst e
          simp only [smp] at q3 ⊢
          exact hp.2.1
        · exact q3 e
      · intro j hj
        rw [List.length_append, List.length_singleton] at hj
        by_cases e : j < acc.length
        · rw [List.getD_eq_getElem?_getD, List.getElem?_append_left e, ← List.getD_eq_getElem?_getD]
          exact h3 j e
        · have hje : j = acc.length := by omega
          rw [List.getD_eq_getElem?_getD, List.getElem?_append_right (by omega), hje]
          simp only [Nat.sub_self, List.getElem?_cons_zero, Option.getD_some]
          omega
    · rw [if_neg g] at h; exact absurd h g
theorem smp_err (l : List Int) (t n : Int) : ∀ (k i : Nat) (a : Int) (acc : List Int), ¬ (smp l t n k i a acc).2.2 = 0 → (smp l t n k i a acc).1 = [] ∧ (smp l t n k i a acc).2.1 = 0
  | 0, i, a, acc => fun h => absurd rfl h
  | k + 1, i, a, acc => fun h => by
    unfold smp at h ⊢
    split
    · rename_i g; rw [if_pos g] at h; exact smp_err l t n k _ _ _ h
    · exact ⟨rfl, rfl⟩
/-- a sample, the place behind, an error -/
def sampV (l : List Int) (a n k t : Int) : List Int × Int × Int :=
  if 0 ≤ n ∧ n ≤ 256 ∧ 0 ≤ k ∧ k ≤ n ∧ 0 ≤ a ∧ 1 ≤ t ∧ t ≤ 64 then (if (smp l t n k.toNat 0 a []).2.2 = 0 then (plyV (smp l t n k.toNat 0 a []).1, (smp l t n k.toNat 0 a []).2.1, 0) else ([], 0, (smp l t n k.toNat 0 a []).2.2)) else ([], 0, 1)
def playOk (n : Int) (p : List Int) : Prop := 0 ≤ n ∧ n ≤ 256 ∧ (p.length : Int) ≤ n ∧ picksOk n p
def backOk (n : Int) (s : List Int) : Prop := 0 ≤ n ∧ n ≤ 256 ∧ diffV s n
end Go.Proofs.Ytehekdahlnpldaa
