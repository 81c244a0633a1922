/- What acts make: the state between two of them. -/
import Derived.Test.YtndofhcnjmbfeaaDoorPlyA
namespace Go.Proofs.YtndofhcnjmbfeaaDoor
open Go.RowKit Go.Extern.Stop Go.Stop Go.Extern
set_option linter.unusedVariables false
set_option linter.unusedSimpArgs false

theorem getD_app {α : Type} (l : List α) (x d : α) {i : Nat} (h : i < l.length) : (l ++ [x]).getD i d = l.getD i d := by simp [List.getD, List.getElem?_append_left h]
theorem getD_end {α : Type} (l : List α) (x d : α) {i : Nat} (h : i = l.length) : (l ++ [x]).getD i d = x := by subst h; simp [List.getD]
/-- the document's node -/
structure Nd where
  doo : Int
  op : ByteArray
  at_ : Int
  code : Int
  a : Int
  b : Int
abbrev nd0 : Nd := ⟨0, ⟨#[]⟩, 0, 0, 0, 0⟩
def ndV (n : Nd) : List Value := [.int .i64 n.doo, .string n.op, .int .i64 n.at_, .int .i64 n.code, .int .i64 n.a, .int .i64 n.b]
def litN (l : List Nd) : List Value := l.flatMap ndV
def litB (l : List Nat) : List Value := l.map fun b => ptr b 0
def litJ (l : List Int) : List Value := l.map (Value.int .i64)
theorem litN_snoc (l : List Nd) (n : Nd) : litN l ++ ndV n = litN (l ++ [n]) := by simp [litN]
theorem litB_snoc (l : List Nat) (b : Nat) : litB l ++ [ptr b 0] = litB (l ++ [b]) := by simp [litB]
theorem litJ_snoc (l : List Int) (x : Int) : litJ l ++ [Value.int .i64 x] = litJ (l ++ [x]) := by simp [litJ]
theorem litJ_get (l : List Int) (j : Nat) (h : j < l.length) : (litJ l)[j]? = some (.int .i64 (l.getD j 0)) := by simp [litJ, List.getD, h]
theorem litB_get (l : List Nat) (j : Nat) (h : j < l.length) : (litB l)[j]? = some (ptr (l.getD j 0) 0) := by simp [litB, List.getD, h]
theorem litN_get (l : List Nd) (j i : Nat) (h : j < l.length) (hi : i < 6) : (litN l)[j * 6 + i]? = (ndV (l.getD j nd0))[i]? := by
  induction l generalizing j with
  | nil => simp at h
  | cons x l ih =>
    have hc : litN (x :: l) = ndV x ++ litN l := by simp [litN]
    rw [hc]
    cases j with
    | zero => rw [List.getElem?_append_left (by simp [ndV]; omega)]; simp
    | succ j =>
      rw [List.getElem?_append_right (by simp [ndV]; omega)]
      have : (j + 1) * 6 + i - (ndV x).length = j * 6 + i := by simp [ndV]; omega
      rw [this, ih j (by simpa using h)]
      simp
theorem info_pb : (Tryd.prog.info? 31).map (fun i => (i.zero, i.size, i.bytes)) = some (some (.pointer none), 1, 8) := by kernel_rfl
theorem info_nd : (Tryd.prog.info? 52).map (fun i => (i.zero, i.size, i.bytes)) = some (some (.agg #[.int .i64 0, .string ⟨#[]⟩, .int .i64 0, .int .i64 0, .int .i64 0, .int .i64 0]), 6, 56) := by kernel_rfl
theorem info_jt : (Tryd.prog.info? 3).map (fun i => (i.zero, i.size, i.bytes)) = some (some (.int .i64 0), 1, 8) := by kernel_rfl
abbrev tD : FT := .code ⟨#[]⟩ 0 0
/-- the memory: three rows of the call's own, the faults -/
def PL (B : Nat) (W : World) (vm vn vp : Value) (T : List FT) (bs : List Nat) (N : List Nd) (P : List Int) (w : World) : Prop :=
  w.ownsRow B 31 1 vm bs.length (litB bs) ∧ w.ownsRow B 52 6 vn N.length (litN N) ∧ w.ownsRow B 3 1 vp P.length (litJ P) ∧ (∀ i, i < T.length → IsFault w (T.getD i tD) (bs.getD i 0)) ∧ Below B W w ∧ B ≤ w.heap.size
theorem PL.below {B : Nat} {W w w' : World} {vm vn vp : Value} {T : List FT} {bs : List Nat} {N : List Nd} {P : List Int} (h : PL B W vm vn vp T bs N P w) (hb : Below w.heap.size w w') : PL B W vm vn vp T bs N P w' := by
  obtain ⟨h1, h2, h3, h4, h5, h6⟩ := h
  exact ⟨own_below2 h1 hb, own_below2 h2 hb, own_below2 h3 hb, fun i hi => (h4 i hi).below hb, h5.trans (hb.mono h6), Nat.le_trans h6 hb.size⟩
theorem PL.alloc {B : Nat} {W w : World} {vm vn vp : Value} {T : List FT} {bs : List Nat} {N : List Nd} {P : List Int} (h : PL B W vm vn vp T bs N P w) (o : Obj) : PL B W vm vn vp T bs N P (w.alloc o) := h.below ((Below.refl _ _).alloc (Nat.le_refl _) o)
theorem PL.placed {B : Nat} {W w w' : World} {vm vn vp vp' : Value} {T : List FT} {bs : List Nat} {N : List Nd} {P : List Int} (h : PL B W vm vn vp T bs N P w) {x : Int} (ho : w'.ownsRow B 3 1 vp' (P.length + 1) (litJ P ++ [.int .i64 x])) (hb : Below B w w') (hk : Lib.OthersKept 3 none w w') :
    PL B W vm vn vp' T bs N (P ++ [x]) w' := by
  obtain ⟨h1, h2, h3, h4, h5, h6⟩ := h
  exact ⟨own_kept2 h1 hk (by decide), own_kept2 h2 hk (by decide), by rw [List.length_append, ← litJ_snoc]; exact ho, fun i hi => (h4 i hi).same (same_kept hk (by decide)), h5.trans hb, Nat.le_trans h6 hb.size⟩
theorem PL.made {B : Nat} {W w w' : World} {vm vm' vn vp : Value} {T : List FT} {bs : List Nat} {N : List Nd} {P : List Int} (h : PL B W vm vn vp T bs N P w) {b : Nat} {t : FT} (hf : IsFault w t b) (hl : bs.length = T.length) (ho : w'.ownsRow B 31 1 vm' (bs.length + 1) (litB bs ++ [ptr b 0])) (hb : Below B w w') (hk : Lib.OthersKept 31 none w w') :
    PL B W vm' vn vp (T ++ [t]) (bs ++ [b]) N P w' := by
  obtain ⟨h1, h2, h3, h4, h5, h6⟩ := h
  have hs := same_kept hk (by decide)
  refine ⟨by rw [List.length_append, ← litB_snoc]; exact ho, own_kept2 h2 hk (by decide), own_kept2 h3 hk (by decide), fun i hi => ?_, h5.trans hb, Nat.le_trans h6 hb.size⟩
  rcases Nat.lt_or_ge i T.length with g | g
  · have e1 : (T ++ [t]).getD i tD = T.getD i tD := by rw [getD_app _ _ _ g]
    have e2 : (bs ++ [b]).getD i 0 = bs.getD i 0 := by rw [getD_app _ _ _ (by omega)]
    rw [e1, e2]
    exact (h4 i g).same hs
  · have : i = T.length := by simp at hi; omega
    subst this
    have e1 : (T ++ [t]).getD T.length tD = t := by simp [List.getD]
    have e2 : (bs ++ [b]).getD T.length 0 = b := by rw [← hl]; simp [List.getD]
    rw [e1, e2]
    exact hf.same hs
theorem PL.noded {B : Nat} {W w w' : World} {vm vn vn' vp : Value} {T : List FT} {bs : List Nat} {N : List Nd} {P : List Int} (h : PL B W vm vn vp T bs N P w) {n : Nd} (ho : w'.ownsRow B 52 6 vn' (N.length + 1) (litN N ++ ndV n)) (hb : Below B w w') (hk : Lib.OthersKept 52 none w w') :
    PL B W vm vn' vp T bs (N ++ [n]) P w' := by
  obtain ⟨h1, h2, h3, h4, h5, h6⟩ := h
  exact ⟨own_kept2 h1 hk (by decide), by rw [List.length_append, ← litN_snoc]; exact ho, own_kept2 h3 hk (by decide), fun i hi => (h4 i hi).same (same_kept hk (by decide)), h5.trans hb, Nat.le_trans h6 hb.size⟩
/-- what a node says of the trees made ahead of it -/
def NdIs (T : List FT) (i : Nat) (n : Nd) : Prop :=
  (n.doo = 0 ∧ n.code ≠ 0 ∧ T.getD i tD = .code n.op n.at_ n.code) ∨ (n.doo = 1 ∧ ∃ j : Nat, j < i ∧ n.a = j ∧ T.getD i tD = .wrap n.op n.at_ (T.getD j tD)) ∨
  (n.doo ≠ 0 ∧ n.doo ≠ 1 ∧ ∃ j k : Nat, j < i ∧ k < i ∧ n.a = j ∧ n.b = k ∧ T.getD i tD = .both (T.getD j tD) (T.getD k tD))
def okN4 (n : Nd) : Prop := I64 n.at_ ∧ I64 n.code ∧ n.op.size ≤ 100
/-- trees, nodes and places fit each other -/
def Fit (T : List FT) (N : List Nd) (P : List Int) : Prop :=
  N.length = T.length ∧ T.length ≤ P.length ∧ (∀ i, i < T.length → NdIs T i (N.getD i nd0) ∧ okN4 (N.getD i nd0)) ∧ (∀ i, i < T.length → size (T.getD i tD) + 1 ≤ 2 ^ i ∧ (textF (T.getD i tD)).size + 150 ≤ 300 * 2 ^ i ∧ okT (T.getD i tD)) ∧ ∀ j, j < P.length → P.getD j 0 = -1 ∨ ∃ k : Nat, k < T.length ∧ P.getD j 0 = k
theorem Fit.start : Fit [] [] [] := ⟨rfl, by simp, fun i hi => absurd hi (by simp), fun i hi => absurd hi (by simp), fun j hj => absurd hj (by simp)⟩
theorem Fit.place {T : List FT} {N : List Nd} {P : List Int} (h : Fit T N P) {x : Int} (hx : x = -1 ∨ ∃ k : Nat, k < T.length ∧ x = k) : Fit T N (P ++ [x]) := by
  obtain ⟨h1, h2, h3, h4, h5⟩ := h
  refine ⟨h1, by simp; omega, h3, h4, fun j hj => ?_⟩
  rcases Nat.lt_or_ge j P.length with g | g
  · rw [getD_app _ _ _ g]; exact h5 j g
  · have : j = P.length := by simp at hj; omega
    subst this
    have e : (P ++ [x]).getD P.length 0 = x := by simp [List.getD]
    rw [e]; exact hx
theorem NdIs.more {T : List FT} {i : Nat} {n : Nd} (h : NdIs T i n) (hi : i < T.length) (t : FT) : NdIs (T ++ [t]) i n := by
  unfold NdIs at h ⊢
  rw [getD_app _ _ _ hi]
  rcases h with h | ⟨h1, j, h2, h3, h4⟩ | ⟨h1, h1', j, k, h2, h2', h3, h3', h4⟩
  · exact .inl h
  · exact .inr (.inl ⟨h1, j, h2, h3, by rw [getD_app _ _ _ (by omega)]; exact h4⟩)
  · exact .inr (.inr ⟨h1, h1', j, k, h2, h2', h3, h3', by rw [getD_app _ _ _ (by omega), getD_app _ _ _ (by omega)]; exact h4⟩)
theorem stepT_size (op : ByteArray) (n : Int) (hn : I64 n) (hop : op.size ≤ 100) : (stepT op n).size ≤ 122 := by
  have sq : (⟨(Lib.itoa n).toArray⟩ : ByteArray).size ≤ 21 := by show (Lib.itoa n).toArray.size ≤ 21; simpa using Lib.itoa_length_le n hn.1 hn.2
  unfold stepT
  split
  · omega
  · rw [ByteArray.size_append, ByteArray.size_append]
    have : (⟨#[32]⟩ : ByteArray).size = 1 := rfl
    omega
theorem one_size (c : UInt8) : (one c).size = 1 := rfl
/-- a tree more, with its node -/
theorem Fit.grow {T : List FT} {N : List Nd} {P : List Int} (h : Fit T N (P)) (hP : T.length < P.length) {t : FT} {n : Nd} (hn : okN4 n) (hi : NdIs (T ++ [t]) T.length n) : Fit (T ++ [t]) (N ++ [n]) P := by
  obtain ⟨h1, h2, h3, h4, h5⟩ := h
  refine ⟨by simp [h1], by simp; omega, fun i hh => ?_, fun i hh => ?_, fun j hj => ?_⟩
  · rcases Nat.lt_or_ge i T.length with g | g
    · rw [getD_app _ _ _ (by omega)]
      exact ⟨(h3 i g).1.more g t, (h3 i g).2⟩
    · have e : i = T.length := by simp at hh; omega
      rw [getD_end _ _ _ (by omega), e]
      exact ⟨hi, hn⟩
  · rcases Nat.lt_or_ge i T.length with g | g
    · rw [getD_app _ _ _ g]; exact h4 i g
    · have e : i = T.length := by simp at hh; omega
      subst e
      rw [getD_end _ _ _ rfl]
      unfold NdIs at hi
      rw [getD_end _ _ _ rfl] at hi
      obtain ⟨o1, o2, o3⟩ := hn
      have hst := stepT_size n.op n.at_ o1 o3
      have p1 : 1 ≤ 2 ^ T.length := Nat.one_le_two_pow
      have hmono : ∀ j, j < T.length → 2 * 2 ^ j ≤ 2 ^ T.length := fun j hj => by
        have : 2 ^ (j + 1) ≤ 2 ^ T.length := Nat.pow_le_pow_right (by decide) hj
        rw [Nat.pow_succ] at this; omega
      rcases hi with ⟨_, _, e⟩ | ⟨_, j, hj, _, e⟩ | ⟨_, _, j, k, hj, hk, _, _, e⟩
      · subst e
        have sq : (⟨(Lib.itoa n.code).toArray⟩ : ByteArray).size ≤ 21 := by show (Lib.itoa n.code).toArray.size ≤ 21; simpa using Lib.itoa_length_le n.code o2.1 o2.2
        refine ⟨by simp only [size]; omega, ?_, o1, o2, by omega⟩
        simp only [textF, ByteArray.size_append, one_size]
        omega
      · rw [getD_app _ _ _ hj] at e
        obtain ⟨q1, q2, q3⟩ := h4 j hj
        have := hmono j hj
        subst e
        refine ⟨by simp only [size]; omega, ?_, o1, by omega, q3⟩
        simp only [textF, ByteArray.size_append, one_size]
        omega
      · rw [getD_app _ _ _ hj, getD_app _ _ _ hk] at e
        obtain ⟨q1, q2, q3⟩ := h4 j hj
        obtain ⟨r1, r2, r3⟩ := h4 k hk
        have := hmono j hj
        have := hmono k hk
        subst e
        refine ⟨by simp only [size]; omega, ?_, q3, r3⟩
        simp only [textF, ByteArray.size_append, one_size]
        omega
  · rcases h5 j hj with e | ⟨k, hk, e⟩
    · exact .inl e
    · exact .inr ⟨k, by simp; omega, e⟩
def lowV (P : List Int) (i : Int) : Int := if 0 ≤ i ∧ i < P.length then P.getD i.toNat 0 else -1
theorem lowV_fit {T : List FT} {N : List Nd} {P : List Int} (h : Fit T N P) (i : Int) : lowV P i = -1 ∨ ∃ k : Nat, k < T.length ∧ lowV P i = k := by
  unfold lowV
  split
  · exact h.2.2.2.2 _ (by omega)
  · exact .inl rfl
theorem law_low {B : Nat} {v : Value} {P : List Int} (i : Int) (w : World) (h : w.ownsRow B 3 1 v P.length (litJ P)) : Calls Tryd.prog 20 #[v, .int .i64 i] w fun e w' => e = .returned (.int .i64 (lowV P i)) ∧ w = w' := by
  by_cases hi : 0 ≤ i ∧ i < P.length
  · obtain ⟨g, c, rfl, hc, hcell⟩ := own_cells h (by omega)
    obtain ⟨k, rfl⟩ : ∃ k : Nat, i = k := ⟨i.toNat, by omega⟩
    have e : lowV P k = P.getD k 0 := by unfold lowV; rw [if_pos hi]; rfl
    rw [e]
    exact low_yes _ _ _ k _ w (by omega) (hcell k _ (litJ_get P k (by omega)))
  · have e : lowV P i = -1 := by unfold lowV; rw [if_neg hi]
    rw [e]
    obtain ⟨A, c, rfl⟩ := pc_shape h
    exact low_no .nilIface _ _ _ i w (by omega)
theorem law_at {B : Nat} {v : Value} {bs : List Nat} (i : Int) (w : World) (h : w.ownsRow B 31 1 v bs.length (litB bs)) (hi : i = -1 ∨ ∃ k : Nat, k < bs.length ∧ i = k) :
    Calls Tryd.prog 21 #[v, .int .i64 i] w fun e w' => e = .returned (if i < 0 then .pointer none else ptr (bs.getD i.toNat 0) 0) ∧ w = w' := by
  rcases hi with rfl | ⟨k, hk, rfl⟩
  · obtain ⟨A, c, rfl⟩ := pc_shape h
    rw [if_pos (by decide)]
    exact at_no _ _ _ _ w (by decide)
  · obtain ⟨g, c, rfl, hc, hcell⟩ := own_cells h (by omega)
    rw [if_neg (by omega)]
    exact at_yes _ _ _ k _ w hk ⟨_, rfl⟩ (hcell k _ (litB_get bs k hk))
end Go.Proofs.YtndofhcnjmbfeaaDoor
