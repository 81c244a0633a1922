import Derived.Test.YteenemdiokajbaaTreeF
import Derived.Test.YteenemdiokajbaaTreeN

/-! Layer 10: an inner node, by the row of spans. -/
namespace Go.Proofs.Yteenemdiokajbaa
open Go.RowKit
set_option linter.unusedVariables false
set_option linter.unusedSimpArgs false

/-- a call of tree.inner -/
abbrev InnC (N : List TN) (dim : Int) (A : Option Addr) (c g i : Nat) (w : World) (P : Ending → World → Prop) : Prop :=
  Calls Try.prog 78 #[.agg #[.int .i64 dim, .slice A N.length c], .int .i64 i, .slice (some ⟨g, 0, none⟩) N.length N.length] w P
theorem inner_near (N : List TN) (S : List (Int × Int)) (dim : Int) (A : Option Addr) (c B g i : Nat) (w : World) (hl : N.length ≤ 1000) (hA : LiesT w B A N) (hB : B ≤ w.heap.size) (hi : i < N.length) (hS : OwnS w g S) (ho : okT N) (hs : SpOk N dim S (i + 1))
    (h1 : ¬ (i : Int) = N.length - 1) (h2 : (N.getD i tn0).lf = (i : Int) + 1) (h3 : (N.getD i tn0).rt = (S.getD (i + 1) (0, 0)).1) (h4 : (N.getD i tn0).rt ≤ (N.length : Int) - 1) :
    InnC N dim A c g i w fun e w' => e = .returned (.tuple #[.agg #[.int .i64 (innV N S i).1, .int .i64 (innV N S i).2], .bool (isC (N.getD i tn0).co (N.getD i tn0).lv dim && decide ((N.getD i tn0).sz = (N.getD (i + 1) tn0).sz + (N.getD (N.getD i tn0).rt.toNat tn0).sz))]) ∧ Below w.heap.size w w' := by
  obtain ⟨r, e, d1, d2, er, hr, hir, e1, e2, s1, s2⟩ := hs.near h1 hi h3 h4
  obtain ⟨o1, o2, -⟩ := ho _ (mem_tn hi)
  have c1 := s1.count
  have c2 := s2.count
  have m1 := s1.szmax
  have m2 := s2.szmax
  have p1 := s1.deep
  have p2 := s2.deep
  have l1 := s1.lt
  have l2 := s2.lt
  have K := inner_good N S dim A c B g i w hl hA hB hi hS hs.1 h1 h2 r er (by rw [e1]) hr o1 (by omega) (by rw [e1]; simp only; omega) (by rw [e2]; simp only; omega) (by omega) (by omega)
  refine K.mono ?_
  rintro x w' ⟨rfl, b⟩
  refine ⟨?_, b⟩
  unfold innV
  rw [er, Int.toNat_natCast]
theorem inner_yes (N : List TN) (S : List (Int × Int)) (dim : Int) (A : Option Addr) (c B g i : Nat) (w : World) (hl : N.length ≤ 1000) (hA : LiesT w B A N) (hB : B ≤ w.heap.size) (hi : i < N.length) (hS : OwnS w g S) (ho : okT N) (hs : SpOk N dim S (i + 1)) (hy : innOk N dim S i) :
    InnC N dim A c g i w fun e w' => e = .returned (.tuple #[.agg #[.int .i64 (innV N S i).1, .int .i64 (innV N S i).2], .bool true]) ∧ Below w.heap.size w w' := by
  obtain ⟨h1, h2, h3, h4, h5, h6⟩ := hy
  refine (inner_near N S dim A c B g i w hl hA hB hi hS ho hs h1 h2 h3 h4).mono ?_
  rintro x w' ⟨rfl, b⟩
  refine ⟨?_, b⟩
  rw [h5, decide_eq_true h6]
  rfl
theorem inner_no (N : List TN) (S : List (Int × Int)) (dim : Int) (A : Option Addr) (c B g i : Nat) (w : World) (hl : N.length ≤ 1000) (hA : LiesT w B A N) (hB : B ≤ w.heap.size) (hi : i < N.length) (hS : OwnS w g S) (ho : okT N) (hs : SpOk N dim S (i + 1)) (hy : ¬ innOk N dim S i) :
    InnC N dim A c g i w fun e w' => (∃ p q : Int, e = .returned (.tuple #[.agg #[.int .i64 p, .int .i64 q], .bool false])) ∧ Below w.heap.size w w' := by
  by_cases h1 : (i : Int) = N.length - 1
  · exact (inner_last N S dim A c B g i w hl hA hB hi hS hs.1 h1).mono fun e w' h => ⟨⟨0, 0, h.1⟩, h.2⟩
  · by_cases h2 : (N.getD i tn0).lf = (i : Int) + 1
    · by_cases h3 : (N.getD i tn0).rt = (S.getD (i + 1) (0, 0)).1
      · by_cases h4 : (N.getD i tn0).rt ≤ (N.length : Int) - 1
        · refine (inner_near N S dim A c B g i w hl hA hB hi hS ho hs h1 h2 h3 h4).mono ?_
          rintro x w' ⟨rfl, b⟩
          refine ⟨⟨(innV N S i).1, (innV N S i).2, ?_⟩, b⟩
          have : (isC (N.getD i tn0).co (N.getD i tn0).lv dim && decide ((N.getD i tn0).sz = (N.getD (i + 1) tn0).sz + (N.getD (N.getD i tn0).rt.toNat tn0).sz)) = false := by
            rw [Bool.eq_false_iff]
            intro hb
            rw [Bool.and_eq_true, decide_eq_true_iff] at hb
            exact hy ⟨h1, h2, h3, h4, hb.1, hb.2⟩
          rw [this]
        · exact (inner_over N S dim A c B g i w hl hA hB hi hS hs.1 h1 h2 h3 (by omega)).mono fun e w' h => ⟨⟨0, 0, h.1⟩, h.2⟩
      · exact (inner_right N S dim A c B g i w hl hA hB hi hS hs.1 h1 h2 h3).mono fun e w' h => ⟨⟨0, 0, h.1⟩, h.2⟩
    · exact (inner_left N S dim A c B g i w hl hA hB hi hS hs.1 h1 h2).mono fun e w' h => ⟨⟨0, 0, h.1⟩, h.2⟩
/-! ### the row of spans in the memory -/
theorem spC_set2 : ∀ (S : List (Int × Int)) (k : Nat) (p q : Int), k < S.length → ((spC S).set (k * 2) (.int .i64 p)).set (k * 2 + 1) (.int .i64 q) = spC (S.set k (p, q))
  | [], k, p, q, h => by simp at h
  | x :: S, 0, p, q, h => rfl
  | x :: S, k + 1, p, q, h => by
    have ih := spC_set2 S k p q (by simpa using h)
    have e1 : (k + 1) * 2 = k * 2 + 1 + 1 := by omega
    rw [e1]
    show ((Value.int .i64 x.1) :: (Value.int .i64 x.2) :: ((spC S).set (k * 2) (.int .i64 p)).set (k * 2 + 1) (.int .i64 q)) = (Value.int .i64 x.1) :: (Value.int .i64 x.2) :: spC (S.set k (p, q))
    rw [ih]
theorem spC_set1 : ∀ (S : List (Int × Int)) (k : Nat) (p : Int), k < S.length → (spC S).set (k * 2) (.int .i64 p) = spC (S.set k (p, (S.getD k (0, 0)).2))
  | [], k, p, h => by simp at h
  | x :: S, 0, p, h => rfl
  | x :: S, k + 1, p, h => by
    have ih := spC_set1 S k p (by simpa using h)
    have e1 : (k + 1) * 2 = k * 2 + 1 + 1 := by omega
    rw [e1]
    show ((Value.int .i64 x.1) :: (Value.int .i64 x.2) :: (spC S).set (k * 2) (.int .i64 p)) = (Value.int .i64 x.1) :: (Value.int .i64 x.2) :: spC (S.set k (p, (S.getD k (0, 0)).2))
    rw [ih]
theorem OwnS.set2 {w : World} {g : Nat} {S : List (Int × Int)} (h : OwnS w g S) {k : Nat} (hk : k < S.length) (p q : Int) : OwnS ((w.setCell ⟨g, k * 2, none⟩ (.int .i64 p)).setCell ⟨g, k * 2 + 1, none⟩ (.int .i64 q)) g (S.set k (p, q)) := by
  have := (Box.set h (k * 2) (.int .i64 p)).set (k * 2 + 1) (.int .i64 q)
  simp only [List.setIfInBounds_toArray] at this
  rw [spC_set2 S k p q hk] at this
  exact this
theorem OwnS.set1 {w : World} {g : Nat} {S : List (Int × Int)} (h : OwnS w g S) {k : Nat} (hk : k < S.length) (p : Int) : OwnS (w.setCell ⟨g, k * 2, none⟩ (.int .i64 p)) g (S.set k (p, (S.getD k (0, 0)).2)) := by
  have := Box.set h (k * 2) (.int .i64 p)
  simp only [List.setIfInBounds_toArray] at this
  rw [spC_set1 S k p hk] at this
  exact this
theorem OwnS.below {w w' : World} {g : Nat} {S : List (Int × Int)} (h : OwnS w g S) (hb : Below w.heap.size w w') : OwnS w' g S := Box.below h hb h.lt
theorem OwnS.free {w : World} {g : Nat} {S : List (Int × Int)} (h : OwnS w g S) (i : Nat) : w.frozen? ⟨g, i, none⟩ = false := Box.free h i
theorem spC_zeros (n : Nat) : spC (List.replicate n (0, 0)) = List.replicate (n * 2) (.int .i64 0) := by
  induction n with
  | zero => rfl
  | succ n ih =>
    rw [List.replicate_succ, show (n + 1) * 2 = n * 2 + 1 + 1 from by omega, List.replicate_succ, List.replicate_succ, ← ih]
    rfl
theorem made_spans (n : Nat) : (madeCells (Value.agg #[.int .i64 0, .int .i64 0]).cells (n * 2)).toList = spC (List.replicate n (0, 0)) := by
  rw [spC_zeros]
  show (madeCells #[.int .i64 0, .int .i64 0] (n * 2)).toList = _
  apply List.ext_getElem?
  intro j
  by_cases hj : j < n * 2
  · have h2 : j % 2 = 0 ∨ j % 2 = 1 := by omega
    rcases h2 with h2 | h2 <;> simp [madeCells, hj, h2]
  · simp [madeCells, hj]
theorem info_span : (Try.prog.info? 121).map (fun i => (i.zero, i.size, i.bytes)) = some (some (.agg #[.int .i64 0, .int .i64 0]), 2, 16) := by kernel_rfl
theorem info_parts5 {E : TypeId} {z : Value} {s b : Nat} (h : (Try.prog.info? E).map (fun i => (i.zero, i.size, i.bytes)) = some (some z, s, b)) : ∃ i0, Try.prog.info? E = some i0 ∧ i0.zero = some z ∧ i0.size = s ∧ i0.bytes = b := by
  rcases hi : Try.prog.info? E with _ | i0
  · rw [hi] at h; cases h
  · rw [hi] at h
    simp only [Option.map_some, Option.some.injEq, Prod.mk.injEq] at h
    exact ⟨i0, rfl, h.1, h.2.1, h.2.2⟩
/-- a new row of zero spans -/
theorem make_spans {wr : World} {ops : Array Oper} {rest : List Oper} {o : Oper} {a : Act} {Q : Exit → Act → World → Prop} (hgd : o.guard = none) (l c : Operand)
    (ho : o.op = Op.makeSlice 118 l c) (n : Nat) (hl : a.eval l = .int .i64 n) (hc : a.eval c = .int .i64 n) (hn : n ≤ 1000000)
    (h : ∀ w', OwnS w' wr.heap.size (List.replicate n (0, 0)) → Below wr.heap.size wr w' → wpList Try.prog ops Q rest (a.put o.dst (.slice (some ⟨wr.heap.size, 0, none⟩) n n)) w') :
    wpList Try.prog ops Q (o :: rest) a wr := by
  obtain ⟨i0, hi, hz0, hz1, hz2⟩ := info_parts5 info_span
  refine wpList_make_full wr hgd l c 118 ho wr.heap.size 121 i0 (.agg #[.int .i64 0, .int .i64 0]) 2 Try.underlying118 hi hz0 hz1 .i64 .i64 n n n hl hc rfl rfl (by rw [hz2]; omega) (by unfold maxLen; omega) (Nat.le_refl _) ?_
  intro w' h1 h2
  refine h w' ?_ ((Below.refl _ _).grown h2 (Nat.le_refl _) (fun k hk => by cases hk))
  rw [made_spans] at h1
  rcases h1.2 with ⟨e, _⟩ | ⟨g, cap, cur, e, hb, hh, hnc, hm, hsz, hx⟩
  · cases e
  · cases e
    have : cur = (spC (List.replicate n (0, 0))).toArray := by
      rw [← hx]
      apply Array.ext'
      simp only [List.toList_toArray]
      rw [List.take_of_length_le (by simp [hsz])]
    subst this
    exact hh
end Go.Proofs.Yteenemdiokajbaa
