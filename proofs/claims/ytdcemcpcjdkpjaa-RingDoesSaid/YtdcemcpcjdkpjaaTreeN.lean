import Derived.Test.YtdcemcpcjdkpjaaTreeM

/-! Layer 10: the row of spans that tree.Is fills from the end: numbers. -/
namespace Go.Proofs.Ytdcemcpcjdkpjaa
open Go.RowKit
set_option linter.unusedVariables false
set_option linter.unusedSimpArgs false

theorem Sub.szmax {N : List TN} {dim : Int} {i e d : Nat} (h : Sub N dim i e d) : (N.getD i tn0).sz ≤ 64 * ((e : Int) - i) := by
  induction h with
  | leaf hi hl => have := hl.2.2.2.2.2; omega
  | inner hi hl hr hc h1 h2 hs ih1 ih2 => omega
theorem Sub.deep {N : List TN} {dim : Int} {i e d : Nat} (h : Sub N dim i e d) : i + d < e := by
  induction h with
  | leaf hi hl => omega
  | inner hi hl hr hc h1 h2 hs ih1 ih2 => omega
/-- the spans from i on are those of subtrees; those before are zero -/
def SpOk (N : List TN) (dim : Int) (S : List (Int × Int)) (i : Nat) : Prop :=
  S.length = N.length ∧ (∀ j, i ≤ j → j < N.length → ∃ e d : Nat, S.getD j (0, 0) = ((e : Int), (d : Int)) ∧ Sub N dim j e d) ∧ ∀ j, j < i → S.getD j (0, 0) = (0, 0)
def innOk (N : List TN) (dim : Int) (S : List (Int × Int)) (i : Nat) : Prop :=
  ¬ (i : Int) = N.length - 1 ∧ (N.getD i tn0).lf = (i : Int) + 1 ∧ (N.getD i tn0).rt = (S.getD (i + 1) (0, 0)).1 ∧ (N.getD i tn0).rt ≤ (N.length : Int) - 1 ∧ isC (N.getD i tn0).co (N.getD i tn0).lv dim = true ∧ (N.getD i tn0).sz = (N.getD (i + 1) tn0).sz + (N.getD (N.getD i tn0).rt.toNat tn0).sz
def innV (N : List TN) (S : List (Int × Int)) (i : Nat) : Int × Int :=
  ((S.getD (N.getD i tn0).rt.toNat (0, 0)).1, 1 + max (S.getD (i + 1) (0, 0)).2 (S.getD (N.getD i tn0).rt.toNat (0, 0)).2)
theorem getD_set' {α : Type} (S : List α) (i j : Nat) (v z : α) (hi : i < S.length) : (S.set i v).getD j z = if j = i then v else S.getD j z := by
  rw [List.getD_eq_getElem?_getD, List.getD_eq_getElem?_getD, List.getElem?_set]
  by_cases h : j = i
  · subst h; simp [hi]
  · rw [if_neg (fun g => h g.symm), if_neg h]
theorem SpOk.start (N : List TN) (dim : Int) : SpOk N dim (List.replicate N.length (0, 0)) N.length := by
  refine ⟨by simp, fun j h1 h2 => by omega, fun j h => ?_⟩
  rw [List.getD_eq_getElem?_getD, List.getElem?_replicate]
  simp [h]
theorem SpOk.put {N : List TN} {dim : Int} {S : List (Int × Int)} {i e d : Nat} (h : SpOk N dim S (i + 1)) (hi : i < N.length) (hs : Sub N dim i e d) : SpOk N dim (S.set i ((e : Int), (d : Int))) i := by
  obtain ⟨h1, h2, h3⟩ := h
  refine ⟨by simpa using h1, fun j g1 g2 => ?_, fun j g => ?_⟩
  · rw [getD_set' _ _ _ _ _ (by omega)]
    by_cases hj : j = i
    · subst hj
      rw [if_pos rfl]
      exact ⟨e, d, rfl, hs⟩
    · rw [if_neg hj]
      exact h2 j (by omega) g2
  · rw [getD_set' _ _ _ _ _ (by omega), if_neg (by omega)]
    exact h3 j (by omega)
theorem SpOk.leaf {N : List TN} {dim : Int} {S : List (Int × Int)} {i : Nat} (h : SpOk N dim S (i + 1)) (hi : i < N.length) (hl : leafN (N.getD i tn0)) : SpOk N dim (S.set i ((i : Int) + 1, 0)) i := by
  have := h.put hi (Sub.leaf (dim := dim) hi hl)
  simpa using this
/-- what an inner node's neighbours are -/
theorem SpOk.near {N : List TN} {dim : Int} {S : List (Int × Int)} {i : Nat} (h : SpOk N dim S (i + 1)) (h1 : ¬ (i : Int) = N.length - 1) (hi : i < N.length) (h3 : (N.getD i tn0).rt = (S.getD (i + 1) (0, 0)).1) (h4 : (N.getD i tn0).rt ≤ (N.length : Int) - 1) :
    ∃ (r e d1 d2 : Nat), (N.getD i tn0).rt = r ∧ r < N.length ∧ i + 1 < r ∧ S.getD (i + 1) (0, 0) = ((r : Int), (d1 : Int)) ∧ S.getD r (0, 0) = ((e : Int), (d2 : Int)) ∧ Sub N dim (i + 1) r d1 ∧ Sub N dim r e d2 := by
  obtain ⟨r, d1, e1, s1⟩ := h.2.1 (i + 1) (by omega) (by omega)
  have hr := s1.lt
  rw [e1] at h3
  have h3' : (N.getD i tn0).rt = (r : Int) := h3
  obtain ⟨e, d2, e2, s2⟩ := h.2.1 r (by omega) (by omega)
  exact ⟨r, e, d1, d2, h3', by omega, hr.1, e1, e2, s1, s2⟩
theorem SpOk.inner {N : List TN} {dim : Int} {S : List (Int × Int)} {i : Nat} (h : SpOk N dim S (i + 1)) (hi : i < N.length) (ho : innOk N dim S i) : SpOk N dim (S.set i (innV N S i)) i := by
  obtain ⟨h1, h2, h3, h4, h5, h6⟩ := ho
  obtain ⟨r, e, d1, d2, er, hr, _, e1, e2, s1, s2⟩ := h.near h1 hi h3 h4
  have hv : innV N S i = ((e : Int), ((1 + max d1 d2 : Nat) : Int)) := by
    unfold innV
    rw [er, Int.toNat_natCast, e1, e2]
    refine congrArg (Prod.mk _) ?_
    show 1 + max (d1 : Int) (d2 : Int) = _
    omega
  rw [er, Int.toNat_natCast] at h6
  rw [hv]
  exact h.put hi (.inner hi h2 er h5 s1 s2 h6)
theorem SpOk.bad {N : List TN} {dim : Int} {S : List (Int × Int)} {i : Nat} (h : SpOk N dim S (i + 1)) (hi : i < N.length) (hl : ¬ leafN (N.getD i tn0)) (ho : ¬ innOk N dim S i) : isT N dim = false := by
  rw [Bool.eq_false_iff]
  intro g
  obtain ⟨_, _, _, d, s, _⟩ := isT_iff.1 g
  obtain ⟨e', d', s'⟩ := s.all i (by omega) hi
  cases s' with
  | leaf _ h' => exact hl h'
  | @inner _ m _ d1 d2 _ gl gr gc g1 g2 gs =>
    have b1 := g1.lt
    have b2 := g2.lt
    obtain ⟨e1, dd, q1, q2⟩ := h.2.1 (i + 1) (by omega) (by omega)
    obtain ⟨rfl, rfl⟩ := q2.unique g1
    refine ho ⟨by omega, gl, ?_, by omega, gc, ?_⟩
    · rw [q1]; exact gr
    · rw [gr, Int.toNat_natCast]; exact gs
theorem SpOk.done {N : List TN} {dim : Int} {S : List (Int × Int)} (h : SpOk N dim S 0) (hn : 0 < N.length) (hd : 1 ≤ dim ∧ dim ≤ 8) :
    1 ≤ (N.getD 0 tn0).sz ∧ isT N dim = decide ((S.getD 0 (0, 0)).1 = N.length ∧ (N.getD 0 tn0).sz ≤ 64 ∧ (S.getD 0 (0, 0)).2 ≤ lgT (N.getD 0 tn0).sz) := by
  obtain ⟨e, d, e1, s⟩ := h.2.1 0 (by omega) hn
  refine ⟨s.count.1, ?_⟩
  rw [Bool.eq_iff_iff, isT_iff, decide_eq_true_iff, e1]
  simp only
  constructor
  · rintro ⟨_, _, h3, d', s', h4⟩
    obtain ⟨rfl, rfl⟩ := s'.unique s
    exact ⟨rfl, h3, by omega⟩
  · rintro ⟨h1, h2, h3⟩
    obtain rfl : e = N.length := by omega
    exact ⟨hd.1, hd.2, h2, d, s, by omega⟩
theorem isT_dim {N : List TN} {dim : Int} (h : ¬ (1 ≤ dim ∧ dim ≤ 8 ∧ 0 < N.length ∧ N.length ≤ 127)) : isT N dim = false := by
  rw [Bool.eq_false_iff]
  intro g
  have h1 := isT_iff.1 g
  have h2 := isT_len g
  exact h ⟨h1.1, h1.2.1, h2.1, h2.2⟩
end Go.Proofs.Ytdcemcpcjdkpjaa
