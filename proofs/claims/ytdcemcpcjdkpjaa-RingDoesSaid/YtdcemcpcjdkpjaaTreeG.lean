import Derived.Test.YtdcemcpcjdkpjaaTreeQ

/-! Layer 10: growing a tree: numbers. -/
namespace Go.Proofs.Ytdcemcpcjdkpjaa
open Go.RowKit
set_option linter.unusedVariables false
set_option linter.unusedSimpArgs false

/-- a node's contents alone -/
def cnt (n : TN) : TN := ⟨none, 0, n.co, n.lv, n.lf, n.rt, n.sz⟩
/-- a new leaf of so many points -/
def lfN (n : Nat) : TN := ⟨none, 0, [], 0, 0, 0, n⟩
/-- a node that stands behind so many others -/
def shN (by_ : Nat) (n : TN) : TN := if 0 < n.lf then { n with lf := n.lf + by_, rt := n.rt + by_ } else n
def shL (by_ : Nat) (l : List TN) : List TN := l.map (shN by_)
/-- the answer of a draw -/
abbrev DZ := List Int × Int × Int × Bool × Int
def dE (Z : DZ) : Int := Z.2.2.2.2
def dO (Z : DZ) : Bool := Z.2.2.2.1
def dA (Z : DZ) : Int := Z.2.2.1
def lfR (Z : DZ) (R : List Row) : List Row := selR R (lft Z.1 Z.2.1 R)
def rgR (Z : DZ) (R : List Row) : List Row := selR R (rgt Z.1 Z.2.1 R)
/-- nodes, the place of the next draw, an error -/
abbrev GT := List TN × Int × Int
def rootN (Z : DZ) (n m : Nat) : TN := ⟨none, 0, Z.1, Z.2.1, 1, 1 + (m : Int), n⟩
/-- what the reference's 'grow' tells -/
def grN (k : Int) (l : List Int) (t : Int) : Nat → List Row → Int → GT
  | 0, R, a => ([lfN R.length], a, 0)
  | s + 1, R, a =>
    if R.length = 1 then ([lfN R.length], a, 0)
    else if dE (drw k R l a t) = 0 then
      (if dO (drw k R l a t) = true then
        (if (grN k l t s (lfR (drw k R l a t) R) (dA (drw k R l a t))).2.2 = 0 then
          (if (grN k l t s (rgR (drw k R l a t) R) (grN k l t s (lfR (drw k R l a t) R) (dA (drw k R l a t))).2.1).2.2 = 0 then
            (rootN (drw k R l a t) R.length (grN k l t s (lfR (drw k R l a t) R) (dA (drw k R l a t))).1.length :: (shL 1 (grN k l t s (lfR (drw k R l a t) R) (dA (drw k R l a t))).1 ++ shL (1 + (grN k l t s (lfR (drw k R l a t) R) (dA (drw k R l a t))).1.length) (grN k l t s (rgR (drw k R l a t) R) (grN k l t s (lfR (drw k R l a t) R) (dA (drw k R l a t))).2.1).1),
              (grN k l t s (rgR (drw k R l a t) R) (grN k l t s (lfR (drw k R l a t) R) (dA (drw k R l a t))).2.1).2.1, 0)
          else ([], 0, (grN k l t s (rgR (drw k R l a t) R) (grN k l t s (lfR (drw k R l a t) R) (dA (drw k R l a t))).2.1).2.2))
        else ([], 0, (grN k l t s (lfR (drw k R l a t) R) (dA (drw k R l a t))).2.2))
      else ([lfN R.length], a, 0))
    else ([], 0, dE (drw k R l a t))
section
variable {k t : Int} {l : List Int}
theorem grN_leaf {s : Nat} {R : List Row} {a : Int} (h : s = 0 ∨ R.length = 1) : grN k l t s R a = ([lfN R.length], a, 0) := by
  rcases h with rfl | h
  · rfl
  · cases s with
    | zero => rfl
    | succ s => rw [grN, if_pos h]
theorem grN_err {s : Nat} {R : List Row} {a : Int} (h1 : ¬ R.length = 1) (h2 : ¬ dE (drw k R l a t) = 0) : grN k l t (s + 1) R a = ([], 0, dE (drw k R l a t)) := by rw [grN, if_neg h1, if_neg h2]
theorem grN_same {s : Nat} {R : List Row} {a : Int} (h2 : dE (drw k R l a t) = 0) (h3 : dO (drw k R l a t) = false) : grN k l t s R a = ([lfN R.length], a, 0) := by
  cases s with
  | zero => rfl
  | succ s =>
    by_cases h1 : R.length = 1
    · rw [grN, if_pos h1]
    · rw [grN, if_neg h1, if_pos h2, if_neg (by rw [h3]; simp)]
theorem grN_left {s : Nat} {R : List Row} {a : Int} {Z : DZ} {X : GT} (h1 : ¬ R.length = 1) (hZ : drw k R l a t = Z) (h2 : dE Z = 0) (h3 : dO Z = true) (hX : grN k l t s (lfR Z R) (dA Z) = X) (h4 : ¬ X.2.2 = 0) : grN k l t (s + 1) R a = ([], 0, X.2.2) := by
  rw [grN, if_neg h1, hZ, if_pos h2, if_pos h3, hX, if_neg h4]
theorem grN_right {s : Nat} {R : List Row} {a : Int} {Z : DZ} {X Y : GT} (h1 : ¬ R.length = 1) (hZ : drw k R l a t = Z) (h2 : dE Z = 0) (h3 : dO Z = true) (hX : grN k l t s (lfR Z R) (dA Z) = X) (h4 : X.2.2 = 0) (hY : grN k l t s (rgR Z R) X.2.1 = Y) (h5 : ¬ Y.2.2 = 0) : grN k l t (s + 1) R a = ([], 0, Y.2.2) := by
  rw [grN, if_neg h1, hZ, if_pos h2, if_pos h3, hX, if_pos h4, hY, if_neg h5]
theorem grN_both {s : Nat} {R : List Row} {a : Int} {Z : DZ} {X Y : GT} (h1 : ¬ R.length = 1) (hZ : drw k R l a t = Z) (h2 : dE Z = 0) (h3 : dO Z = true) (hX : grN k l t s (lfR Z R) (dA Z) = X) (h4 : X.2.2 = 0) (hY : grN k l t s (rgR Z R) X.2.1 = Y) (h5 : Y.2.2 = 0) :
    grN k l t (s + 1) R a = (rootN Z R.length X.1.length :: (shL 1 X.1 ++ shL (1 + X.1.length) Y.1), Y.2.1, 0) := by
  rw [grN, if_neg h1, hZ, if_pos h2, if_pos h3, hX, if_pos h4, hY, if_pos h5]
end
/-- the rows that may be cut: vectors of one dimension -/
def Fit (d : Nat) (R : List Row) : Prop := 0 < R.length ∧ ∀ j, j < R.length → isV (R.getD j row0).l d = true
theorem Fit.dim {d : Nat} {R : List Row} (h : Fit d R) : dimR R = d := by
  have := (isV_iff.1 (h.2 0 h.1)).2.2.1
  unfold dimR
  omega
theorem Fit.box {d : Nat} {R : List Row} (h : Fit d R) : boxE R (dimR R) = true := by
  rw [h.dim]
  exact boxE_iff.2 h
theorem fit_of {R : List Row} (h : boxE R (dimR R) = true) : Fit (dimR R) R := boxE_iff.1 h
theorem Fit.sel {d : Nat} {R : List Row} (h : Fit d R) {I : List Int} (h0 : 0 < I.length) (hin : ∀ j, j < I.length → 0 ≤ I.getD j 0 ∧ I.getD j 0 < R.length) : Fit d (selR R I) := by
  refine ⟨by rw [selR_len]; exact h0, fun j hj => ?_⟩
  rw [selR_len] at hj
  rw [selR_at R I hj]
  have := hin j hj
  exact h.2 _ (by omega)
theorem lftrgt {c : List Int} {p : Int} {R : List Row} (h : splC c p R = 0) : (lft c p R).length + (rgt c p R).length = R.length := by
  unfold lft rgt
  rw [if_pos h, if_pos h]
  exact pcK_both _ _
/-- what a draw tells of rows that fit -/
theorem draw_fit {k t a : Int} {l : List Int} {R : List Row} {d : Nat} (hf : Fit d R) (ha : AskD k a t) (h2 : dE (drw k R l a t) = 0) :
    (dO (drw k R l a t) = false ∧ dA (drw k R l a t) = a) ∨ (dO (drw k R l a t) = true ∧ Parts9 R l a (a + mostC k d t) (drw k R l a t) ∧ Fit d (lfR (drw k R l a t) R) ∧ Fit d (rgR (drw k R l a t) R) ∧ (lfR (drw k R l a t) R).length + (rgR (drw k R l a t) R).length = R.length ∧ AskD k (dA (drw k R l a t)) t ∧ a < dA (drw k R l a t) ∧ dA (drw k R l a t) ≤ a + mostC k d t) := by
  obtain ⟨_, _, h⟩ := drw_ok h2
  rcases h with ⟨_, h⟩ | ⟨_, hp⟩
  · left; rw [h]; exact ⟨rfl, rfl⟩
  · right
    rw [hf.dim] at hp
    have hp' := hp
    obtain ⟨p1, p2, p3, p4, p5, p6, p7, p8⟩ := hp
    refine ⟨p1, hp', hf.sel p4 (lft_at p3), hf.sel p5 (rgt_at p3), ?_, ⟨ha.1, ?_, ha.2.2.1, ha.2.2.2⟩, p6, p8⟩
    · unfold lfR rgR
      rw [selR_len, selR_len]
      exact lftrgt p3
    · have := ha.2.1
      unfold dA
      omega
theorem draw_one {k t a : Int} {l : List Int} {R : List Row} {d : Nat} (hf : Fit d R) (ha : AskD k a t) (h1 : R.length = 1) : drw k R l a t = ([], 0, a, false, 0) := by
  have ho : opn R = [] := (opn_nil hf.box).2 fun i hi => by
    obtain rfl : i = 0 := by omega
    rfl
  unfold drw
  rw [if_pos ha, if_pos hf.box, if_pos ho]
/-! ### the stack of what waits -/
def setRt (N : List TN) (j : Nat) (x : Int) : List TN := N.set j { N.getD j tn0 with rt := x }
/-- Right of the node of which what is grown next is to be Right -/
def setR (ro : Int) (x : Int) (N : List TN) : List TN := if ro = -1 then N else setRt N ro.toNat x
/-- rows that wait, their depth, the node of which they are to be Right -/
abbrev WT := List Row × Nat × Int
def headN (Z : DZ) (n i : Nat) : TN := ⟨none, 0, Z.1, Z.2.1, (i : Int) + 1, 0, n⟩
/-- the loop of Grow, in at most so many rounds (an error and a node: they were not enough) -/
def rnN (k : Int) (l : List Int) (t : Int) (dp : Nat) : Nat → List TN → List WT → Int → GT
  | 0, _, _, _ => ([tn0], 0, 1)
  | f + 1, N, [], a => (N, a, 0)
  | f + 1, N, (R, d, ro) :: S, a =>
    if d = dp then rnN k l t dp f (setR ro N.length N ++ [lfN R.length]) S a
    else if dE (drw k R l a t) = 0 then
      (if dO (drw k R l a t) = true then rnN k l t dp f (setR ro N.length N ++ [headN (drw k R l a t) R.length N.length]) ((lfR (drw k R l a t) R, d + 1, -1) :: (rgR (drw k R l a t) R, d + 1, (N.length : Int)) :: S) (dA (drw k R l a t))
      else rnN k l t dp f (setR ro N.length N ++ [lfN R.length]) S a)
    else ([], 0, dE (drw k R l a t))
theorem setRt_len (N : List TN) (j : Nat) (x : Int) : (setRt N j x).length = N.length := by simp [setRt]
theorem setR_len (ro x : Int) (N : List TN) : (setR ro x N).length = N.length := by unfold setR; split; rfl; exact setRt_len _ _ _
section
variable {k t : Int} {l : List Int} {dp : Nat}
theorem rnN_end (f : Nat) (N : List TN) (a : Int) : rnN k l t dp (f + 1) N [] a = (N, a, 0) := rfl
theorem rnN_deep (f : Nat) (N : List TN) (R : List Row) (d : Nat) (ro : Int) (S : List WT) (a : Int) (h : d = dp) : rnN k l t dp (f + 1) N ((R, d, ro) :: S) a = rnN k l t dp f (setR ro N.length N ++ [lfN R.length]) S a := by rw [rnN, if_pos h]
theorem rnN_same (f : Nat) (N : List TN) (R : List Row) (d : Nat) (ro : Int) (S : List WT) (a : Int) (h : ¬ d = dp) (h2 : dE (drw k R l a t) = 0) (h3 : dO (drw k R l a t) = false) : rnN k l t dp (f + 1) N ((R, d, ro) :: S) a = rnN k l t dp f (setR ro N.length N ++ [lfN R.length]) S a := by
  rw [rnN, if_neg h, if_pos h2, if_neg (by rw [h3]; simp)]
theorem rnN_cut (f : Nat) (N : List TN) (R : List Row) (d : Nat) (ro : Int) (S : List WT) (a : Int) (h : ¬ d = dp) (h2 : dE (drw k R l a t) = 0) (h3 : dO (drw k R l a t) = true) : rnN k l t dp (f + 1) N ((R, d, ro) :: S) a = rnN k l t dp f (setR ro N.length N ++ [headN (drw k R l a t) R.length N.length]) ((lfR (drw k R l a t) R, d + 1, -1) :: (rgR (drw k R l a t) R, d + 1, (N.length : Int)) :: S) (dA (drw k R l a t)) := by
  rw [rnN, if_neg h, if_pos h2, if_pos h3]
theorem rnN_err (f : Nat) (N : List TN) (R : List Row) (d : Nat) (ro : Int) (S : List WT) (a : Int) (h : ¬ d = dp) (h2 : ¬ dE (drw k R l a t) = 0) : rnN k l t dp (f + 1) N ((R, d, ro) :: S) a = ([], 0, dE (drw k R l a t)) := by
  rw [rnN, if_neg h, if_neg h2]
theorem shN_add (a b : Nat) (n : TN) : shN a (shN b n) = shN (a + b) n := by
  unfold shN
  by_cases h : 0 < n.lf
  · rw [if_pos h, if_pos (show 0 < n.lf + (b : Int) from by omega), if_pos h]
    simp only [TN.mk.injEq, true_and, and_true]
    constructor <;> omega
  · rw [if_neg h, if_neg h, if_neg h]
theorem shL_add (a b : Nat) (G : List TN) : shL a (shL b G) = shL (a + b) G := by
  unfold shL
  rw [List.map_map]
  exact List.map_congr_left fun n _ => shN_add a b n
theorem shL_append (a : Nat) (G H : List TN) : shL a (G ++ H) = shL a G ++ shL a H := by simp [shL]
theorem shL_len (a : Nat) (G : List TN) : (shL a G).length = G.length := by simp [shL]
theorem shL_lf (i n : Nat) : shL i [lfN n] = [lfN n] := rfl
theorem shL_root (i : Nat) (Z : DZ) (n m : Nat) : shN i (rootN Z n m) = { headN Z n i with rt := (i : Int) + 1 + m } := by
  unfold shN rootN headN
  rw [if_pos (show (0 : Int) < 1 from by omega)]
  simp only [TN.mk.injEq, true_and, and_true]
  constructor <;> omega
theorem setR_none (x : Int) (N : List TN) : setR (-1) x N = N := by unfold setR; rw [if_pos rfl]
theorem setR_at (N M : List TN) (n : TN) (x : Int) : setR (N.length : Int) x (N ++ [n] ++ M) = N ++ [{ n with rt := x }] ++ M := by
  unfold setR setRt
  rw [if_neg (by omega), Int.toNat_natCast]
  have : (N ++ [n] ++ M).getD N.length tn0 = n := by simp [List.getD]
  rw [this, List.append_assoc, List.set_append_right _ _ (Nat.le_refl _)]
  simp
/-- one element of the stack, from beginning to end -/
theorem grow_run {dm : Nat} : ∀ (s : Nat) (R : List Row) (d : Nat) (ro : Int) (N : List TN) (S : List WT) (a : Int) (f : Nat), Fit dm R → AskD k a t → d + s = dp → 2 * R.length - 1 ≤ f →
    ((grN k l t s R a).2.2 = 0 → (grN k l t s R a).1.length ≤ 2 * R.length - 1 ∧ AskD k (grN k l t s R a).2.1 t ∧ rnN k l t dp f N ((R, d, ro) :: S) a = rnN k l t dp (f - (grN k l t s R a).1.length) (setR ro N.length N ++ shL N.length (grN k l t s R a).1) S (grN k l t s R a).2.1) ∧
    (¬ (grN k l t s R a).2.2 = 0 → rnN k l t dp f N ((R, d, ro) :: S) a = ([], 0, (grN k l t s R a).2.2))
  | s, R, d, ro, N, S, a, f => fun hf hk hd hfu => by
    have h0 := hf.1
    obtain ⟨f, rfl⟩ : ∃ g, f = g + 1 := ⟨f - 1, by omega⟩
    have leaf : grN k l t s R a = ([lfN R.length], a, 0) → rnN k l t dp (f + 1) N ((R, d, ro) :: S) a = rnN k l t dp f (setR ro N.length N ++ [lfN R.length]) S a → ((grN k l t s R a).2.2 = 0 → (grN k l t s R a).1.length ≤ 2 * R.length - 1 ∧ AskD k (grN k l t s R a).2.1 t ∧ rnN k l t dp (f + 1) N ((R, d, ro) :: S) a = rnN k l t dp (f + 1 - (grN k l t s R a).1.length) (setR ro N.length N ++ shL N.length (grN k l t s R a).1) S (grN k l t s R a).2.1) ∧
        (¬ (grN k l t s R a).2.2 = 0 → rnN k l t dp (f + 1) N ((R, d, ro) :: S) a = ([], 0, (grN k l t s R a).2.2)) := fun e1 e2 => by
      rw [e1]
      refine ⟨fun _ => ⟨by simp; omega, hk, e2⟩, fun h => absurd rfl h⟩
    cases s with
    | zero => exact leaf rfl (rnN_deep f N R d ro S a (by omega))
    | succ s =>
      have hnd : ¬ d = dp := by omega
      by_cases h1 : R.length = 1
      · have hz := draw_one (l := l) hf hk h1
        exact leaf (grN_leaf (.inr h1)) (rnN_same f N R d ro S a hnd (by rw [hz]; rfl) (by rw [hz]; rfl))
      · by_cases h2 : dE (drw k R l a t) = 0
        · rcases draw_fit hf hk h2 with ⟨h3, _⟩ | ⟨h3, _, fl, fr, hsum, hk2, _, _⟩
          · exact leaf (grN_same h2 h3) (rnN_same f N R d ro S a hnd h2 h3)
          · have hrn := rnN_cut (k := k) (l := l) (t := t) f N R d ro S a hnd h2 h3
            obtain ⟨Z, hZ⟩ : ∃ Z, Z = drw k R l a t := ⟨_, rfl⟩
            rw [← hZ] at h2 h3 fl fr hsum hk2 hrn
            obtain ⟨X, hX⟩ : ∃ X, X = grN k l t s (lfR Z R) (dA Z) := ⟨_, rfl⟩
            have hl0 := fl.1
            have hr0 := fr.1
            obtain ⟨i1, i2⟩ := grow_run s (lfR Z R) (d + 1) (-1) (setR ro N.length N ++ [headN Z R.length N.length]) ((rgR Z R, d + 1, (N.length : Int)) :: S) (dA Z) f fl hk2 (by omega) (by omega)
            rw [← hX] at i1 i2
            by_cases hx : X.2.2 = 0
            · obtain ⟨j1, j2, j3⟩ := i1 hx
              obtain ⟨Y, hY⟩ : ∃ Y, Y = grN k l t s (rgR Z R) X.2.1 := ⟨_, rfl⟩
              obtain ⟨r1, r2⟩ := grow_run s (rgR Z R) (d + 1) (N.length : Int) (setR (-1) ((setR ro N.length N ++ [headN Z R.length N.length]).length : Int) (setR ro N.length N ++ [headN Z R.length N.length]) ++ shL (setR ro N.length N ++ [headN Z R.length N.length]).length X.1) S X.2.1 (f - X.1.length) fr j2 (by omega) (by omega)
              rw [← hY] at r1 r2
              by_cases hy : Y.2.2 = 0
              · obtain ⟨q1, q2, q3⟩ := r1 hy
                have hg := grN_both h1 hZ.symm h2 h3 hX.symm hx hY.symm hy
                rw [hg]
                refine ⟨fun _ => ⟨?_, q2, ?_⟩, fun h => absurd rfl h⟩
                · simp only [List.length_cons, List.length_append, shL_len]
                  omega
                · rw [hrn, j3, q3]
                  have e1 : (setR ro N.length N ++ [headN Z R.length N.length]).length = N.length + 1 := by rw [List.length_append, setR_len]; rfl
                  rw [setR_none, e1, List.length_append, e1, shL_len]
                  have e2 := setR_at (setR ro N.length N) (shL (N.length + 1) X.1) (headN Z R.length N.length) ((N.length + 1 + X.1.length : Nat) : Int)
                  rw [setR_len] at e2
                  rw [e2]
                  have e3 : shL N.length (rootN Z R.length X.1.length :: (shL 1 X.1 ++ shL (1 + X.1.length) Y.1)) = [({ headN Z R.length N.length with rt := ((N.length + 1 + X.1.length : Nat) : Int) } : TN)] ++ (shL (N.length + 1) X.1 ++ shL (N.length + 1 + X.1.length) Y.1) := by
                    show shN N.length (rootN Z R.length X.1.length) :: shL N.length (shL 1 X.1 ++ shL (1 + X.1.length) Y.1) = _
                    rw [shL_root, shL_append, shL_add, shL_add, show N.length + (1 + X.1.length) = N.length + 1 + X.1.length from by omega]
                    rfl
                  rw [e3]
                  simp only [List.append_assoc, List.length_cons, List.length_append, shL_len]
                  congr 1
                  omega
              · rw [grN_right h1 hZ.symm h2 h3 hX.symm hx hY.symm hy]
                exact ⟨fun h => absurd h hy, fun _ => by rw [hrn, j3]; exact r2 hy⟩
            · rw [grN_left h1 hZ.symm h2 h3 hX.symm hx]
              exact ⟨fun h => absurd h hx, fun _ => by rw [hrn]; exact i2 hx⟩
        · rw [grN_err h1 h2]
          exact ⟨fun h => absurd h h2, fun _ => rnN_err f N R d ro S a hnd h2⟩
end
/-- the answer of Grow: the dimension, the nodes, the place of the next draw, an error -/
def groG (k : Int) (R : List Row) (l : List Int) (a t : Int) : Int × GT :=
  if 64 < R.length then (0, [], 0, 3)
  else if AskD k a t then (if boxE R (dimR R) then (if (grN k l t (lgT R.length) R a).2.2 = 0 then ((dimR R : Int), grN k l t (lgT R.length) R a) else (0, [], 0, (grN k l t (lgT R.length) R a).2.2)) else (0, [], 0, 80)) else (0, [], 0, 1)
/-- the loop of Grow tells just that -/
theorem groG_run {k t a : Int} {l : List Int} {R : List Row} (h : R.length ≤ 64) : ((rnN k l t (max 1 (lgT R.length)) 128 [] [(R, 0, -1)] a).2.2 = 0 ∨ (rnN k l t (max 1 (lgT R.length)) 128 [] [(R, 0, -1)] a).1 = []) ∧ ((rnN k l t (max 1 (lgT R.length)) 128 [] [(R, 0, -1)] a).2.2 = 0 → boxE R (dimR R) = true) ∧
    groG k R l a t = (if (rnN k l t (max 1 (lgT R.length)) 128 [] [(R, 0, -1)] a).2.2 = 0 then ((dimR R : Int), rnN k l t (max 1 (lgT R.length)) 128 [] [(R, 0, -1)] a) else (0, rnN k l t (max 1 (lgT R.length)) 128 [] [(R, 0, -1)] a)) := by
  have hdp : ¬ (0 = max 1 (lgT R.length)) := by omega
  unfold groG
  rw [if_neg (by omega)]
  by_cases h1 : AskD k a t
  · rw [if_pos h1]
    by_cases h2 : boxE R (dimR R) = true
    · rw [if_pos h2]
      have hf := fit_of h2
      have hs : grN k l t (max 1 (lgT R.length)) R a = grN k l t (lgT R.length) R a := by
        by_cases h3 : R.length = 1
        · rw [grN_leaf (.inr h3), grN_leaf (.inr h3)]
        · have : 1 ≤ lgT R.length := by
            have := hf.1
            unfold lgT
            split
            · omega
            · split
              · omega
              · split
                · omega
                · split
                  · omega
                  · split
                    · omega
                    · split <;> omega
          rw [Nat.max_eq_right this]
      obtain ⟨g1, g2⟩ := grow_run (k := k) (l := l) (t := t) (dp := max 1 (lgT R.length)) (max 1 (lgT R.length)) R 0 (-1) [] [] a 128 hf h1 (by omega) (by omega)
      rw [hs] at g1 g2
      generalize grN k l t (lgT R.length) R a = G at *
      by_cases h4 : G.2.2 = 0
      · obtain ⟨j1, j2, j3⟩ := g1 h4
        obtain ⟨m, hm⟩ : ∃ m, 128 - G.1.length = m + 1 := ⟨128 - G.1.length - 1, by omega⟩
        rw [hm, setR_none, rnN_end] at j3
        have hG : ([] ++ shL ([] : List TN).length G.1, G.2.1, (0 : Int)) = G := by
          have : shL 0 G.1 = G.1 := by
            have : (shN 0 : TN → TN) = id := by
              funext n
              unfold shN
              split
              · simp
              · rfl
            unfold shL
            rw [this, List.map_id]
          show (shL 0 G.1, G.2.1, (0 : Int)) = G
          rw [this, ← h4]
        rw [j3, hG]
        exact ⟨.inl h4, fun _ => h2, by rw [if_pos h4, if_pos h4]⟩
      · have e := g2 h4
        rw [e]
        rw [if_neg h4]
        exact ⟨.inr rfl, fun _ => h2, by rw [if_neg h4]⟩
    · have hz : drw k R l a t = noD 80 := by unfold drw; rw [if_pos h1, if_neg h2]
      rw [if_neg h2, show (128 : Nat) = 127 + 1 from rfl, rnN_err _ _ _ _ _ _ _ hdp (by rw [hz]; show ¬ (80 : Int) = 0; omega), hz]
      exact ⟨.inr rfl, fun h => absurd h (show ¬ (80 : Int) = 0 by omega), rfl⟩
  · have hz : drw k R l a t = noD 1 := by unfold drw; rw [if_neg h1]
    rw [if_neg h1, show (128 : Nat) = 127 + 1 from rfl, rnN_err _ _ _ _ _ _ _ hdp (by rw [hz]; show ¬ (1 : Int) = 0; omega), hz]
    exact ⟨.inr rfl, fun h => absurd h (show ¬ (1 : Int) = 0 by omega), rfl⟩
end Go.Proofs.Ytdcemcpcjdkpjaa
