/- ExpM ExpA ExpB ExpC ExpD ExpE ExpF ExpG ExpH -/
import Derived.Test.YteenemdiokajbaaPatU
import Derived.StillTailTactics
import Derived.Test.YteenemdiokajbaaTrA
/-! Layer 16: which columns are tested on the way, and the room of each: numbers. -/
namespace Go.Proofs.Yteenemdiokajbaa
open Go.RowKit
set_option linter.unusedVariables false
set_option linter.unusedSimpArgs false

/-- what is told of a column: how many steps test it, the least and the greatest value -/
structure CT where
  st : Int
  lo : Int
  hi : Int
def ct0 : CT := ⟨0, -2147483648, 2147483647⟩
/-- a step of a way: the cut's parts, its level, to the left? -/
structure TS where
  co : List Int
  lv : Int
  l : Bool
/-- the room behind a step -/
def nrw (lo hi v c rest : Int) : Int × Int := if 0 < c then (lo, min hi (v + rest / c)) else (max lo (v - rest / (-c)), hi)
def rstE (e : TS) (x : List Int) : Int := if e.l = true then e.lv - 1 - dotN e.co x else dotN e.co x - e.lv
def dirE (e : TS) (i : Nat) : Int := if e.l = true then e.co.getD i 0 else -e.co.getD i 0
/-- a column behind a step -/
def pasC (e : TS) (x : List Int) (i : Nat) (t : CT) : CT :=
  if e.co.getD i 0 = 0 then t else ⟨t.st + 1, (nrw t.lo t.hi (x.getD i 0) (dirE e i) (rstE e x)).1, (nrw t.lo t.hi (x.getD i 0) (dirE e i) (rstE e x)).2⟩
/-- a step is right: the cut is one of that dimension, and it tells that direction -/
def okE (e : TS) (d : Int) (x : List Int) : Prop := isC e.co e.lv d = true ∧ lefB e.co e.lv x = e.l
/-- the steps of the way from node i -/
def tstT (N : List TN) (x : List Int) : Nat → Nat → List TS
  | 0, i => []
  | f + 1, i => if (N.getD i tn0).lf = 0 then [] else ⟨(N.getD i tn0).co, (N.getD i tn0).lv, lefB (N.getD i tn0).co (N.getD i tn0).lv x⟩ :: tstT N x f (toT (N.getD i tn0) x).toNat
theorem tstT_leaf {N : List TN} {x : List Int} {i : Nat} (h : (N.getD i tn0).lf = 0) : ∀ f, tstT N x f i = []
  | 0 => rfl
  | f + 1 => by rw [tstT, if_pos h]
theorem tstT_step {N : List TN} {x : List Int} {i f : Nat} (h : ¬ (N.getD i tn0).lf = 0) : tstT N x (f + 1) i = ⟨(N.getD i tn0).co, (N.getD i tn0).lv, lefB (N.getD i tn0).co (N.getD i tn0).lv x⟩ :: tstT N x f (toT (N.getD i tn0) x).toNat := by rw [tstT, if_neg h]
theorem tstT_ok {N : List TN} {dm : Int} {x : List Int} (hx : isV x dm = true) : ∀ (f i e d : Nat), Sub N dm i e d → ∀ t ∈ tstT N x f i, okE t dm x
  | 0, i, e, d, h, t, ht => by cases ht
  | f + 1, i, e, d, h, t, ht => by
    by_cases hl : (N.getD i tn0).lf = 0
    · rw [tstT_leaf hl] at ht; cases ht
    · obtain ⟨t', e', d', hT, hS', _⟩ := h.go x hx hl
      rw [tstT_step hl, hT, Int.toNat_natCast] at ht
      rcases List.mem_cons.1 ht with rfl | ht
      · refine ⟨?_, rfl⟩
        cases h with
        | leaf _ h1 => exact absurd h1.1 hl
        | inner _ _ _ hc _ _ _ => exact hc
      · exact tstT_ok hx f t' e' d' hS' t ht
theorem set_isV {x : List Int} {dm : Int} (hx : isV x dm = true) (i : Nat) {v : Int} (hv : -2147483648 ≤ v ∧ v ≤ 2147483647) : isV (x.set i v) dm = true := by
  obtain ⟨h1, h2, h3, h4⟩ := isV_iff.1 hx
  refine isV_iff.2 ⟨h1, h2, by rw [List.length_set]; exact h3, fun y hy => ?_⟩
  rcases List.mem_or_eq_of_mem_set hy with h | rfl
  · exact h4 y h
  · exact hv
theorem dotI_set (a x : List Int) (i : Nat) (v : Int) (hi : i < x.length) : ∀ k, dotI a (x.set i v) k = dotI a x k + if i < k then a.getD i 0 * (v - x.getD i 0) else 0
  | 0 => by simp [dotI]
  | k + 1 => by
    have ih := dotI_set a x i v hi k
    have e : (x.set i v).getD k 0 = if k = i then v else x.getD k 0 := by
      by_cases h : k = i
      · subst h
        rw [if_pos rfl, List.getD_eq_getElem?_getD, List.getElem?_set_self hi]
        rfl
      · rw [if_neg h, List.getD_eq_getElem?_getD, List.getElem?_set_ne (fun g => h g.symm), ← List.getD_eq_getElem?_getD]
    rw [dotI, dotI, ih, e]
    by_cases h : k = i
    · subst h
      rw [if_pos rfl, if_neg (by omega), if_pos (by omega), Int.mul_sub]
      omega
    · rw [if_neg h]
      by_cases g : i < k
      · rw [if_pos g, if_pos (by omega)]; omega
      · rw [if_neg g, if_neg (by omega)]; omega
theorem dotN_set {co x : List Int} {lv dm : Int} {i : Nat} {v : Int} (hc : isC co lv dm = true) (hx : isV x dm = true) (hi : i < x.length) (hv : -2147483648 ≤ v ∧ v ≤ 2147483647) : dotN co (x.set i v) = dotN co x + co.getD i 0 * (v - x.getD i 0) := by
  have hp : partsV co dm = true := by
    unfold isC at hc
    rw [Bool.and_eq_true] at hc
    exact hc.1
  obtain ⟨p1, p2, p3, _⟩ := partsV_iff.1 hp
  have hxl := (isV_iff.1 hx).2.2.1
  have e1 : dotE co x = true := by unfold dotE; rw [p3, hp, hx]; rfl
  have e2 : dotE co (x.set i v) = true := by unfold dotE; rw [p3, hp, set_isV hx i hv]; rfl
  unfold dotN
  rw [if_pos e1, if_pos e2, dotI_set co x i v hi, if_pos (by omega)]
theorem lefB_iff {co x : List Int} {lv dm : Int} (hc : isC co lv dm = true) (hx : isV x dm = true) : lefB co lv x = decide (dotN co x < lv) := by
  have hp : partsV co dm = true := by
    unfold isC at hc
    rw [Bool.and_eq_true] at hc
    exact hc.1
  obtain ⟨p1, p2, p3, _⟩ := partsV_iff.1 hp
  have hE : lefC co lv x = 0 := by
    unfold lefC
    rw [p3, if_pos hc]
    unfold dotC dotE
    rw [p3, hp, hx]
    rfl
  unfold lefB
  rw [hE]
  simp
/-- with that value in that column the step goes the same way -/
def samE (e : TS) (x : List Int) (i : Nat) (v : Int) : Prop := lefB e.co e.lv (x.set i v) = e.l
theorem rest_pos {e : TS} {dm : Int} {x : List Int} (h : okE e dm x) (hx : isV x dm = true) : 0 ≤ rstE e x := by
  obtain ⟨hc, hl⟩ := h
  rw [lefB_iff hc hx] at hl
  unfold rstE
  cases he : e.l with
  | true =>
    rw [he, decide_eq_true_iff] at hl
    rw [if_pos rfl]; omega
  | false =>
    rw [he, decide_eq_false_iff_not] at hl
    rw [if_neg (by simp)]; omega
/-- c times y is at most r, where r is not below 0 -/
theorem le_div {c y r : Int} (hc : 0 < c) (hr : 0 ≤ r) : c * y ≤ r ↔ y ≤ r / c := by
  rw [Int.le_ediv_iff_mul_le hc, Int.mul_comm]
theorem sam_iff {e : TS} {dm : Int} {x : List Int} {i : Nat} {v : Int} (h : okE e dm x) (hx : isV x dm = true) (hi : i < x.length) (hv : -2147483648 ≤ v ∧ v ≤ 2147483647) : samE e x i v ↔ dirE e i * (v - x.getD i 0) ≤ rstE e x := by
  obtain ⟨hc, hl⟩ := h
  unfold samE
  rw [lefB_iff hc (set_isV hx i hv), dotN_set hc hx hi hv]
  unfold dirE rstE
  cases he : e.l with
  | true => rw [decide_eq_true_iff, if_pos rfl, if_pos rfl]; omega
  | false => rw [decide_eq_false_iff_not, if_neg (by simp), if_neg (by simp), Int.neg_mul]; omega
/-- is a value in the room? -/
def inR (t : CT) (v : Int) : Prop := t.lo ≤ v ∧ v ≤ t.hi
theorem pas_iff {e : TS} {dm : Int} {x : List Int} {i : Nat} {v : Int} (h : okE e dm x) (hx : isV x dm = true) (hi : i < x.length) (hv : -2147483648 ≤ v ∧ v ≤ 2147483647) (t : CT) : inR (pasC e x i t) v ↔ inR t v ∧ samE e x i v := by
  rw [sam_iff h hx hi hv]
  have hr := rest_pos h hx
  unfold pasC
  by_cases h0 : e.co.getD i 0 = 0
  · rw [if_pos h0]
    have hd : dirE e i = 0 := by unfold dirE; rw [h0]; split <;> simp
    rw [hd, Int.zero_mul]
    exact ⟨fun g => ⟨g, hr⟩, fun g => g.1⟩
  · rw [if_neg h0]
    have hd : ¬ dirE e i = 0 := by unfold dirE; split <;> omega
    generalize dirE e i = c at *
    generalize rstE e x = r at *
    generalize x.getD i 0 = y at *
    unfold inR nrw
    by_cases hc : 0 < c
    · rw [if_pos hc, le_div hc hr]
      simp only
      omega
    · rw [if_neg hc]
      have hn : 0 < -c := by omega
      have e1 : c * (v - y) ≤ r ↔ (-c) * (y - v) ≤ r := by
        rw [show (-c) * (y - v) = c * (v - y) from by rw [Int.neg_mul, ← Int.mul_neg]; congr 1; omega]
      rw [e1, le_div hn hr]
      simp only
      omega
/-- a column behind steps -/
def colC (x : List Int) (i : Nat) (E : List TS) : CT := E.foldl (fun t e => pasC e x i t) ct0
theorem col_fold {dm : Int} {x : List Int} {i : Nat} {v : Int} (hx : isV x dm = true) (hi : i < x.length) (hv : -2147483648 ≤ v ∧ v ≤ 2147483647) : ∀ (E : List TS) (t : CT), (∀ e ∈ E, okE e dm x) → (inR (E.foldl (fun t e => pasC e x i t) t) v ↔ inR t v ∧ ∀ e ∈ E, samE e x i v)
  | [], t, _ => ⟨fun h => ⟨h, fun e he => by cases he⟩, fun h => h.1⟩
  | e :: E, t, h => by
    rw [List.foldl_cons, col_fold hx hi hv E _ (fun e he => h e (List.mem_cons_of_mem _ he)), pas_iff (h e (List.mem_cons_self ..)) hx hi hv]
    constructor
    · rintro ⟨⟨h1, h2⟩, h3⟩
      refine ⟨h1, fun e' he => ?_⟩
      rcases List.mem_cons.1 he with rfl | he
      · exact h2
      · exact h3 e' he
    · rintro ⟨h1, h2⟩
      exact ⟨⟨h1, h2 e (List.mem_cons_self ..)⟩, fun e' he => h2 e' (List.mem_cons_of_mem _ he)⟩
/-- a value is in the room just where it may be at all and each step goes the same way -/
theorem col_iff {dm : Int} {x : List Int} {i : Nat} {v : Int} (hx : isV x dm = true) (hi : i < x.length) (hv : -2147483648 ≤ v ∧ v ≤ 2147483647) {E : List TS} (hE : ∀ e ∈ E, okE e dm x) : inR (colC x i E) v ↔ ∀ e ∈ E, samE e x i v := by
  unfold colC
  rw [col_fold hx hi hv E ct0 hE]
  exact ⟨fun h => h.2, fun h => ⟨hv, h⟩⟩
theorem pas_bd {e : TS} {x : List Int} {i : Nat} {t : CT} (h : -2147483648 ≤ t.lo ∧ t.hi ≤ 2147483647) : -2147483648 ≤ (pasC e x i t).lo ∧ (pasC e x i t).hi ≤ 2147483647 := by
  unfold pasC nrw
  split
  · exact h
  · split
    · simp only; omega
    · simp only; omega
theorem col_bd (x : List Int) (i : Nat) : ∀ (E : List TS) (t : CT), -2147483648 ≤ t.lo ∧ t.hi ≤ 2147483647 → -2147483648 ≤ (E.foldl (fun t e => pasC e x i t) t).lo ∧ (E.foldl (fun t e => pasC e x i t) t).hi ≤ 2147483647
  | [], t, h => h
  | e :: E, t, h => by
    rw [List.foldl_cons]
    exact col_bd x i E _ (pas_bd h)
theorem set_own (x : List Int) (i : Nat) : x.set i (x.getD i 0) = x := by
  refine List.ext_getElem (by simp) (fun j h1 h2 => ?_)
  rw [List.getElem_set]
  split
  · rename_i h; subst h; simp [List.getD, h2]
  · rfl
theorem get_isV {x : List Int} {dm : Int} (hx : isV x dm = true) {i : Nat} (hi : i < x.length) : -2147483648 ≤ x.getD i 0 ∧ x.getD i 0 ≤ 2147483647 := by
  refine (isV_iff.1 hx).2.2.2 _ ?_
  rw [List.getD_eq_getElem?_getD, List.getElem?_eq_getElem hi]
  exact List.getElem_mem hi
/-- the vector's own value is in the room -/
theorem col_own {dm : Int} {x : List Int} {i : Nat} (hx : isV x dm = true) (hi : i < x.length) {E : List TS} (hE : ∀ e ∈ E, okE e dm x) : inR (colC x i E) (x.getD i 0) := by
  rw [col_iff hx hi (get_isV hx hi) hE]
  intro e he
  unfold samE
  rw [set_own]
  exact (hE e he).2
/-- where each step goes the same way, so does the way -/
theorem dn_same {N : List TN} {x x' : List Int} : ∀ f i, (∀ e ∈ tstT N x f i, lefB e.co e.lv x' = e.l) → dnT N x' f i = dnT N x f i ∧ wayT N x' f i = wayT N x f i
  | 0, i, _ => ⟨rfl, rfl⟩
  | f + 1, i, h => by
    by_cases hl : (N.getD i tn0).lf = 0
    · rw [dnT_leaf hl, dnT_leaf hl, wayT_leaf hl, wayT_leaf hl]
      exact ⟨rfl, rfl⟩
    · rw [tstT_step hl] at h
      have h1 := h _ (List.mem_cons_self ..)
      simp only at h1
      have ht : toT (N.getD i tn0) x' = toT (N.getD i tn0) x := by unfold toT; rw [h1]
      obtain ⟨g1, g2⟩ := dn_same (N := N) (x := x) (x' := x') f (toT (N.getD i tn0) x).toNat (fun e he => h e (List.mem_cons_of_mem _ he))
      rw [dnT_step hl, dnT_step hl, wayT_step hl, wayT_step hl, ht, g1, g2]
      exact ⟨rfl, rfl⟩
theorem wayT_head {N : List TN} {x : List Int} (f i : Nat) : ∃ r, wayT N x f i = (i : Int) :: r := by
  cases f with
  | zero => exact ⟨[], rfl⟩
  | succ f =>
    rw [wayT]
    split
    · exact ⟨_, rfl⟩
    · exact ⟨_, rfl⟩
/-- where the way is the same, each step goes the same way -/
theorem way_same {N : List TN} {dm : Int} {x x' : List Int} (hx : isV x dm = true) (hx' : isV x' dm = true) : ∀ (f i e d : Nat), Sub N dm i e d → wayT N x' f i = wayT N x f i → ∀ e ∈ tstT N x f i, lefB e.co e.lv x' = e.l
  | 0, i, e, d, h, _, t, ht => by cases ht
  | f + 1, i, e, d, h, hw, t, ht => by
    by_cases hl : (N.getD i tn0).lf = 0
    · rw [tstT_leaf hl] at ht; cases ht
    · obtain ⟨t1, e1, d1, hT1, hS1, _⟩ := h.go x hx hl
      obtain ⟨t2, e2, d2, hT2, hS2, _⟩ := h.go x' hx' hl
      rw [wayT_step hl, wayT_step hl, hT1, hT2, Int.toNat_natCast, Int.toNat_natCast] at hw
      have hw2 := (List.cons.inj hw).2
      obtain ⟨r1, q1⟩ := wayT_head (N := N) (x := x) f t1
      obtain ⟨r2, q2⟩ := wayT_head (N := N) (x := x') f t2
      have ht12 : t2 = t1 := by
        rw [q1, q2] at hw2
        have := (List.cons.inj hw2).1
        omega
      subst ht12
      have hdir : lefB (N.getD i tn0).co (N.getD i tn0).lv x' = lefB (N.getD i tn0).co (N.getD i tn0).lv x := by
        cases h with
        | leaf _ h1 => exact absurd h1.1 hl
        | @inner _ m _ _ _ hi hlf hr hc s1 s2 _ =>
          have hm := s1.lt
          unfold toT at hT1 hT2
          cases g1 : lefB (N.getD i tn0).co (N.getD i tn0).lv x <;> cases g2 : lefB (N.getD i tn0).co (N.getD i tn0).lv x' <;> rw [g1] at hT1 <;> rw [g2] at hT2
          · rw [if_neg (by simp)] at hT1
            rw [if_pos rfl] at hT2
            omega
          · rw [if_pos rfl] at hT1
            rw [if_neg (by simp)] at hT2
            omega
      rw [tstT_step hl, hT1, Int.toNat_natCast] at ht
      rcases List.mem_cons.1 ht with rfl | ht
      · exact hdir
      · exact way_same hx hx' f t2 e1 d1 hS1 hw2 t ht
def ts0 : TS := ⟨[], 0, false⟩
theorem way_len {N : List TN} {x : List Int} : ∀ f i, (wayT N x f i).length = (tstT N x f i).length + 1
  | 0, i => rfl
  | f + 1, i => by
    by_cases hl : (N.getD i tn0).lf = 0
    · rw [wayT_leaf hl, tstT_leaf hl]; rfl
    · rw [wayT_step hl, tstT_step hl, List.length_cons, List.length_cons, way_len f]
theorem tst_len {N : List TN} {x : List Int} : ∀ f i, (tstT N x f i).length ≤ f
  | 0, i => Nat.le_refl _
  | f + 1, i => by
    by_cases hl : (N.getD i tn0).lf = 0
    · rw [tstT_leaf hl]; exact Nat.zero_le _
    · rw [tstT_step hl, List.length_cons]
      have := tst_len (N := N) (x := x) f (toT (N.getD i tn0) x).toNat
      omega
/-- a node of the way, its step, and the next node -/
theorem way_tst {N : List TN} {dm : Int} {x : List Int} (hx : isV x dm = true) : ∀ (f i e d : Nat), Sub N dm i e d → ∀ j, j < (tstT N x f i).length →
    ∃ k e' d' : Nat, Sub N dm k e' d' ∧ (wayT N x f i).getD j 0 = (k : Int) ∧ (tstT N x f i).getD j ts0 = ⟨(N.getD k tn0).co, (N.getD k tn0).lv, lefB (N.getD k tn0).co (N.getD k tn0).lv x⟩ ∧ ((wayT N x f i).getD (j + 1) 0 = (N.getD k tn0).lf ↔ lefB (N.getD k tn0).co (N.getD k tn0).lv x = true)
  | 0, i, e, d, h, j, hj => absurd hj (by simp [tstT])
  | f + 1, i, e, d, h, j, hj => by
    by_cases hl : (N.getD i tn0).lf = 0
    · rw [tstT_leaf hl] at hj; exact absurd hj (by simp)
    · obtain ⟨t1, e1, d1, hT1, hS1, _⟩ := h.go x hx hl
      rw [tstT_step hl, hT1, Int.toNat_natCast] at hj ⊢
      rw [wayT_step hl, hT1, Int.toNat_natCast]
      cases j with
      | zero =>
        refine ⟨i, e, d, h, rfl, rfl, ?_⟩
        obtain ⟨r, hr⟩ := wayT_head (N := N) (x := x) f t1
        rw [hr]
        show (t1 : Int) = _ ↔ _
        unfold toT at hT1
        cases h with
        | leaf _ h1 => exact absurd h1.1 hl
        | @inner _ m _ _ _ hi hlf hr' hc s1 s2 _ =>
          have hm := s1.lt
          cases g : lefB (N.getD i tn0).co (N.getD i tn0).lv x
          · rw [g, if_neg (by simp)] at hT1
            constructor
            · intro h; omega
            · intro h; cases h
          · rw [g, if_pos rfl] at hT1
            exact ⟨fun _ => rfl, fun _ => hT1.symm⟩
      | succ j =>
        obtain ⟨k, e', d', q1, q2, q3, q4⟩ := way_tst hx f t1 e1 d1 hS1 j (by simpa using hj)
        exact ⟨k, e', d', q1, by simpa using q2, by simpa using q3, by simpa using q4⟩
/-- all columns behind steps -/
def colsC (x : List Int) (E : List TS) : List CT := (List.range x.length).map (fun i => colC x i E)
theorem colsC_len (x : List Int) (E : List TS) : (colsC x E).length = x.length := by simp [colsC]
theorem colsC_at (x : List Int) (E : List TS) {i : Nat} (hi : i < x.length) : (colsC x E).getD i ct0 = colC x i E := by
  unfold colsC
  rw [List.getD_eq_getElem?_getD, List.getElem?_map, List.getElem?_range hi]
  rfl
/-- the columns behind one step more -/
def pasL (e : TS) (x : List Int) (L : List CT) : List CT := (List.range L.length).map (fun i => pasC e x i (L.getD i ct0))
theorem colsC_step (x : List Int) (E : List TS) (e : TS) : pasL e x (colsC x E) = colsC x (E ++ [e]) := by
  unfold pasL
  rw [colsC_len]
  unfold colsC
  refine List.map_congr_left (fun i hi => ?_)
  have hi' := List.mem_range.1 hi
  have := colsC_at x E hi'
  unfold colsC at this
  rw [this]
  unfold colC
  rw [List.foldl_append]
  rfl
theorem colC_st (x : List Int) (i : Nat) : ∀ (E : List TS) (t : CT), t.st ≤ (E.foldl (fun t e => pasC e x i t) t).st ∧ (E.foldl (fun t e => pasC e x i t) t).st ≤ t.st + E.length
  | [], t => ⟨Int.le_refl _, by simp⟩
  | e :: E, t => by
    rw [List.foldl_cons]
    have ih := colC_st x i E (pasC e x i t)
    have h : t.st ≤ (pasC e x i t).st ∧ (pasC e x i t).st ≤ t.st + 1 := by
      unfold pasC
      split
      · omega
      · simp only; omega
    rw [List.length_cons]
    omega
end Go.Proofs.Yteenemdiokajbaa
/-! Layer 16: columns in the memory. -/
namespace Go.Proofs.Yteenemdiokajbaa
open Go.RowKit
set_option linter.unusedVariables false
set_option linter.unusedSimpArgs false

def ctC (t : CT) : List Value := [.int .i64 t.st, .int .i64 t.lo, .int .i64 t.hi]
theorem ctC_len (t : CT) : (ctC t).length = 3 := rfl
def ctL (L : List CT) : List Value := L.flatMap ctC
theorem ctL_len (L : List CT) : (ctL L).length = L.length * 3 := flat_len _ 3 ctC_len L
/-- block g holds these columns -/
def OwnC (w : World) (g : Nat) (L : List CT) : Prop := Box w g (ctL L).toArray 113
theorem ct_get {L : List CT} {k : Nat} (hk : k < L.length) : L[k]? = some (L.getD k ct0) := by simp [List.getD, hk]
theorem OwnC.at {w : World} {g : Nat} {L : List CT} (h : OwnC w g L) {k : Nat} (hk : k < L.length) :
    w.cell? ⟨g, k * 3, none⟩ = some (.int .i64 (L.getD k ct0).st) ∧ w.cell? ⟨g, k * 3 + 1, none⟩ = some (.int .i64 (L.getD k ct0).lo) ∧ w.cell? ⟨g, k * 3 + 2, none⟩ = some (.int .i64 (L.getD k ct0).hi) := by
  have key : ∀ j, j < 3 → w.cell? ⟨g, k * 3 + j, none⟩ = (ctC (L.getD k ct0))[j]? := fun j hj => by
    rw [h.cell (k * 3 + j), ← flat_get _ 3 ctC_len j hj L k _ (ct_get hk)]
    simp [ctL]
  exact ⟨key 0 (by omega), key 1 (by omega), key 2 (by omega)⟩
theorem OwnC.free {w : World} {g : Nat} {L : List CT} (h : OwnC w g L) (k : Nat) : w.frozen? ⟨g, k, none⟩ = false := Box.free h k
theorem OwnC.lt {w : World} {g : Nat} {L : List CT} (h : OwnC w g L) : g < w.heap.size := Box.lt h
theorem OwnC.below {w w' : World} {g B : Nat} {L : List CT} (h : OwnC w g L) (hb : Below B w w') (hg : g < B) : OwnC w' g L := Box.below h hb hg
theorem OwnC.drewN {w : World} {g : Nat} {L : List CT} (h : OwnC w g L) (n : Nat) : OwnC (w.drewN n) g L := h
theorem OwnC.set {w : World} {g : Nat} {L : List CT} (h : OwnC w g L) {k j : Nat} (hk : k < L.length) (hj : j < 3) (u : Value) (y : CT) (hy : (ctC (L.getD k ct0)).set j u = ctC y) : OwnC (w.setCell ⟨g, k * 3 + j, none⟩ u) g (L.set k y) := by
  have h2 := Box.set (t := 113) h (k * 3 + j) u
  unfold OwnC
  rw [show (ctL (L.set k y)).toArray = (ctL L).toArray.setIfInBounds (k * 3 + j) u from ?_]
  · exact h2
  · apply Array.ext'
    rw [Array.toList_setIfInBounds]
    exact (flat_set ctC 3 ctC_len j hj u L k _ y (ct_get hk) hy).symm
theorem OwnC.set0 {w : World} {g : Nat} {L : List CT} (h : OwnC w g L) {k : Nat} (hk : k < L.length) (v : Int) : OwnC (w.setCell ⟨g, k * 3, none⟩ (.int .i64 v)) g (L.set k ⟨v, (L.getD k ct0).lo, (L.getD k ct0).hi⟩) := h.set (j := 0) hk (by omega) _ _ rfl
theorem OwnC.set1 {w : World} {g : Nat} {L : List CT} (h : OwnC w g L) {k : Nat} (hk : k < L.length) (v : Int) : OwnC (w.setCell ⟨g, k * 3 + 1, none⟩ (.int .i64 v)) g (L.set k ⟨(L.getD k ct0).st, v, (L.getD k ct0).hi⟩) := h.set (j := 1) hk (by omega) _ _ rfl
theorem OwnC.set2 {w : World} {g : Nat} {L : List CT} (h : OwnC w g L) {k : Nat} (hk : k < L.length) (v : Int) : OwnC (w.setCell ⟨g, k * 3 + 2, none⟩ (.int .i64 v)) g (L.set k ⟨(L.getD k ct0).st, (L.getD k ct0).lo, v⟩) := h.set (j := 2) hk (by omega) _ _ rfl
def ctz : CT := ⟨0, 0, 0⟩
theorem ctL_zeros (n : Nat) : ctL (List.replicate n ctz) = List.replicate (n * 3) (.int .i64 0) := by
  induction n with
  | zero => rfl
  | succ n ih =>
    rw [List.replicate_succ]
    show ctC ctz ++ ctL (List.replicate n ctz) = _
    rw [ih, show (n + 1) * 3 = n * 3 + 1 + 1 + 1 from by omega]
    rfl
theorem made_cols (n : Nat) : (madeCells (Value.agg #[.int .i64 0, .int .i64 0, .int .i64 0]).cells (n * 3)).toList = ctL (List.replicate n ctz) := by
  rw [ctL_zeros]
  show (madeCells #[.int .i64 0, .int .i64 0, .int .i64 0] (n * 3)).toList = _
  apply List.ext_getElem?
  intro j
  by_cases hj : j < n * 3
  · have h2 : j % 3 = 0 ∨ j % 3 = 1 ∨ j % 3 = 2 := by omega
    rcases h2 with h2 | h2 | h2 <;> simp [madeCells, hj, h2]
  · simp [madeCells, hj]
theorem info_col : (Try.prog.info? 113).map (fun i => (i.zero, i.size, i.bytes)) = some (some (.agg #[.int .i64 0, .int .i64 0, .int .i64 0]), 3, 24) := by kernel_rfl
theorem info_why : (Try.prog.info? 47).map (fun i => (i.zero, i.size, i.bytes)) = some (some (.agg #[.int .i64 0, .int .i64 0, .int .i64 0]), 3, 24) := by kernel_rfl
/-- a new row of zero columns -/
theorem make_cols {wr : World} {ops : Array Oper} {rest : List Oper} {o : Oper} {a : Act} {Q : Exit → Act → World → Prop} (hgd : o.guard = none) (l c : Operand) (t : TypeId) (ht : Try.prog.underlying t = some (.slice 113))
    (ho : o.op = Op.makeSlice t l c) (n : Nat) (hl : a.eval l = .int .i64 n) (hc : a.eval c = .int .i64 n) (hn : n ≤ 1000000)
    (h : ∀ w', OwnC w' wr.heap.size (List.replicate n ctz) → Below wr.heap.size wr w' → wpList Try.prog ops Q rest (a.put o.dst (.slice (some ⟨wr.heap.size, 0, none⟩) n n)) w') :
    wpList Try.prog ops Q (o :: rest) a wr := by
  obtain ⟨i0, hi, hz0, hz1, hz2⟩ := info_parts5 info_col
  refine wpList_make_full wr hgd l c t ho wr.heap.size 113 i0 (.agg #[.int .i64 0, .int .i64 0, .int .i64 0]) 3 ht hi hz0 hz1 .i64 .i64 n n n hl hc rfl rfl (by rw [hz2]; omega) (by unfold maxLen; omega) (Nat.le_refl _) ?_
  intro w' h1 h2
  refine h w' ?_ ((Below.refl _ _).grown h2 (Nat.le_refl _) (fun k hk => by cases hk))
  rw [made_cols] at h1
  rcases h1.2 with ⟨e, _⟩ | ⟨g, cap, cur, e, hb, hh, hnc, hm, hsz, hx⟩
  · cases e
  · cases e
    have : cur = (ctL (List.replicate n ctz)).toArray := by
      rw [← hx]
      apply Array.ext'
      simp only [List.toList_toArray]
      rw [List.take_of_length_le (by simp [hsz])]
    subst this
    exact hh
/-- block g holds what is told of columns -/
def OwnY (w : World) (g : Nat) (L : List CT) : Prop := Box w g (ctL L).toArray 47
theorem OwnY.at {w : World} {g : Nat} {L : List CT} (h : OwnY w g L) {k : Nat} (hk : k < L.length) :
    w.cell? ⟨g, k * 3, none⟩ = some (.int .i64 (L.getD k ct0).st) ∧ w.cell? ⟨g, k * 3 + 1, none⟩ = some (.int .i64 (L.getD k ct0).lo) ∧ w.cell? ⟨g, k * 3 + 2, none⟩ = some (.int .i64 (L.getD k ct0).hi) := by
  have key : ∀ j, j < 3 → w.cell? ⟨g, k * 3 + j, none⟩ = (ctC (L.getD k ct0))[j]? := fun j hj => by
    rw [h.cell (k * 3 + j), ← flat_get _ 3 ctC_len j hj L k _ (ct_get hk)]
    simp [ctL]
  exact ⟨key 0 (by omega), key 1 (by omega), key 2 (by omega)⟩
theorem OwnY.free {w : World} {g : Nat} {L : List CT} (h : OwnY w g L) (k : Nat) : w.frozen? ⟨g, k, none⟩ = false := Box.free h k
theorem OwnY.lt {w : World} {g : Nat} {L : List CT} (h : OwnY w g L) : g < w.heap.size := Box.lt h
theorem OwnY.below {w w' : World} {g B : Nat} {L : List CT} (h : OwnY w g L) (hb : Below B w w') (hg : g < B) : OwnY w' g L := Box.below h hb hg
theorem OwnY.set {w : World} {g : Nat} {L : List CT} (h : OwnY w g L) {k j : Nat} (hk : k < L.length) (hj : j < 3) (u : Value) (y : CT) (hy : (ctC (L.getD k ct0)).set j u = ctC y) : OwnY (w.setCell ⟨g, k * 3 + j, none⟩ u) g (L.set k y) := by
  have h2 := Box.set (t := 47) h (k * 3 + j) u
  unfold OwnY
  rw [show (ctL (L.set k y)).toArray = (ctL L).toArray.setIfInBounds (k * 3 + j) u from ?_]
  · exact h2
  · apply Array.ext'
    rw [Array.toList_setIfInBounds]
    exact (flat_set ctC 3 ctC_len j hj u L k _ y (ct_get hk) hy).symm
theorem ct_setD {L : List CT} {k : Nat} (hk : k < L.length) (y : CT) : (L.set k y).getD k ct0 = y := by
  rw [List.getD_eq_getElem?_getD, List.getElem?_set_self hk]; rfl
/-- three cells at once -/
theorem OwnY.put {w : World} {g : Nat} {L : List CT} (h : OwnY w g L) {k : Nat} (hk : k < L.length) (y : CT) :
    OwnY (((w.setCell ⟨g, k * 3, none⟩ (.int .i64 y.st)).setCell ⟨g, k * 3 + 1, none⟩ (.int .i64 y.lo)).setCell ⟨g, k * 3 + 2, none⟩ (.int .i64 y.hi)) g (L.set k y) := by
  have h1 := h.set (j := 0) hk (by omega) (.int .i64 y.st) ⟨y.st, (L.getD k ct0).lo, (L.getD k ct0).hi⟩ rfl
  have h2 := h1.set (k := k) (j := 1) (by rw [List.length_set]; exact hk) (by omega) (.int .i64 y.lo) ⟨y.st, y.lo, (L.getD k ct0).hi⟩ (by rw [ct_setD hk]; rfl)
  rw [List.set_set] at h2
  have h3 := h2.set (k := k) (j := 2) (by rw [List.length_set]; exact hk) (by omega) (.int .i64 y.hi) y (by rw [ct_setD hk]; rfl)
  rw [List.set_set] at h3
  exact h3
/-- a new row of zeros for what is told -/
theorem make_whys {wr : World} {ops : Array Oper} {rest : List Oper} {o : Oper} {a : Act} {Q : Exit → Act → World → Prop} (hgd : o.guard = none) (l c : Operand)
    (ho : o.op = Op.makeSlice 41 l c) (n : Nat) (hl : a.eval l = .int .i64 n) (hc : a.eval c = .int .i64 n) (hn : n ≤ 1000000)
    (h : ∀ w', OwnY w' wr.heap.size (List.replicate n ctz) → Below wr.heap.size wr w' → wpList Try.prog ops Q rest (a.put o.dst (.slice (some ⟨wr.heap.size, 0, none⟩) n n)) w') :
    wpList Try.prog ops Q (o :: rest) a wr := by
  obtain ⟨i0, hi, hz0, hz1, hz2⟩ := info_parts5 info_why
  refine wpList_make_full wr hgd l c 41 ho wr.heap.size 47 i0 (.agg #[.int .i64 0, .int .i64 0, .int .i64 0]) 3 Try.underlying41 hi hz0 hz1 .i64 .i64 n n n hl hc rfl rfl (by rw [hz2]; omega) (by unfold maxLen; omega) (Nat.le_refl _) ?_
  intro w' h1 h2
  refine h w' ?_ ((Below.refl _ _).grown h2 (Nat.le_refl _) (fun k hk => by cases hk))
  rw [made_cols] at h1
  rcases h1.2 with ⟨e, _⟩ | ⟨g, cap, cur, e, hb, hh, hnc, hm, hsz, hx⟩
  · cases e
  · cases e
    have : cur = (ctL (List.replicate n ctz)).toArray := by
      rw [← hx]
      apply Array.ext'
      simp only [List.toList_toArray]
      rw [List.take_of_length_le (by simp [hsz])]
    subst this
    exact hh
end Go.Proofs.Yteenemdiokajbaa
/-! Layer 16: narrow, begin, whys. -/
namespace Go.Proofs.Yteenemdiokajbaa
open Go.RowKit
set_option linter.unusedVariables false
set_option linter.unusedSimpArgs false

theorem rep_set {α : Type} (a z : α) {k n : Nat} (h : k < n) : (List.replicate k a ++ List.replicate (n - k) z).set k a = List.replicate (k + 1) a ++ List.replicate (n - (k + 1)) z := by
  obtain ⟨r, hr⟩ : ∃ r, n - k = r + 1 := ⟨n - k - 1, by omega⟩
  rw [hr, show n - (k + 1) = r from by omega, List.set_append_right _ _ (by simp), List.replicate_succ, List.length_replicate, Nat.sub_self, List.set_cons_zero, List.replicate_succ' (n := k)]
  simp
theorem take_set {L : List CT} (z : CT) {k n : Nat} (hn : n = L.length) (h : k < n) : (L.take k ++ List.replicate (n - k) z).set k (L.getD k ct0) = L.take (k + 1) ++ List.replicate (n - (k + 1)) z := by
  obtain ⟨r, hr⟩ : ∃ r, n - k = r + 1 := ⟨n - k - 1, by omega⟩
  have hl : (L.take k).length = k := by rw [List.length_take]; omega
  have e : L.take (k + 1) = L.take k ++ [L.getD k ct0] := by
    rw [List.take_succ_eq_append_getElem (by omega : k < L.length), List.getD_eq_getElem?_getD, List.getElem?_eq_getElem (by omega : k < L.length)]
    rfl
  rw [hr, show n - (k + 1) = r from by omega, List.set_append_right _ _ (by omega), List.replicate_succ, hl, Nat.sub_self, List.set_cons_zero, e, List.append_assoc]
  rfl
set_option maxRecDepth 100000 in
set_option maxHeartbeats 4000000 in
theorem narrow_hi (g o : Nat) (hi v c r : Int) (w : World) (c1 : w.cell? ⟨g, o + 1, none⟩ = some (.int .i64 hi)) (f1 : w.frozen? ⟨g, o + 1, none⟩ = false) (hc : 0 < c ∧ c ≤ 4) (hr : 0 ≤ r ∧ r ≤ 1000000000000) (hv : -2147483648 ≤ v ∧ v ≤ 2147483647) :
    Calls Try.prog 70 #[.pointer (some ⟨g, o, none⟩), .int .i64 v, .int .i64 c, .int .i64 r] w fun e w' => (∃ x, e = .returned x) ∧ w' = (w.setCell ⟨g, o + 1, none⟩ (.int .i64 (min hi (v + r / c)))).drew := by
  have ht : Int.tdiv r c = r / c := Int.tdiv_eq_ediv_of_nonneg hr.1
  have h1 : 0 ≤ r / c := Int.ediv_nonneg hr.1 (by omega)
  have h2 : r / c ≤ r := Int.ediv_le_self _ hr.1
  have e1 : (if v + r / c < hi then v + r / c else hi) = min hi (v + r / c) := by omega
  have hc0 : ¬ c = 0 := by omega
  rw [← e1]
  clear e1
  obtain ⟨hc1, hc2⟩ := hc
  obtain ⟨hr1, hr2⟩ := hr
  obtain ⟨hv1, hv2⟩ := hv
  generalize r / c = q at *
  go_enter Try.func70, Try.ntmps70
  go_wp2
  go_region
  go_end0
  exact ⟨⟨_, rfl⟩, rfl⟩
set_option maxRecDepth 100000 in
set_option maxHeartbeats 4000000 in
theorem narrow_lo (g o : Nat) (lo v c r : Int) (w : World) (c1 : w.cell? ⟨g, o, none⟩ = some (.int .i64 lo)) (f1 : w.frozen? ⟨g, o, none⟩ = false) (hc : c < 0 ∧ -4 ≤ c) (hr : 0 ≤ r ∧ r ≤ 1000000000000) (hv : -2147483648 ≤ v ∧ v ≤ 2147483647) :
    Calls Try.prog 70 #[.pointer (some ⟨g, o, none⟩), .int .i64 v, .int .i64 c, .int .i64 r] w fun e w' => (∃ x, e = .returned x) ∧ w' = (w.setCell ⟨g, o, none⟩ (.int .i64 (max lo (v - r / (-c))))).drew := by
  have ht : Int.tdiv r (-c) = r / (-c) := Int.tdiv_eq_ediv_of_nonneg hr.1
  have h1 : 0 ≤ r / (-c) := Int.ediv_nonneg hr.1 (by omega)
  have h2 : r / (-c) ≤ r := Int.ediv_le_self _ hr.1
  have e1 : (if lo < v - r / (-c) then v - r / (-c) else lo) = max lo (v - r / (-c)) := by omega
  have hc0 : ¬ -c = 0 := by omega
  rw [← e1]
  clear e1
  obtain ⟨hc1, hc2⟩ := hc
  obtain ⟨hr1, hr2⟩ := hr
  obtain ⟨hv1, hv2⟩ := hv
  generalize r / (-c) = q at *
  go_enter Try.func70, Try.ntmps70
  go_wp2
  go_region
  go_end0
  exact ⟨⟨_, rfl⟩, rfl⟩
set_option maxRecDepth 100000 in
set_option maxHeartbeats 4000000 in
theorem exp_begin (n : Nat) (hn : n ≤ 1000) (w : World) : Calls Try.prog 48 #[.int .i64 n] w fun e w' => e = .returned (.slice (some ⟨w.heap.size, 0, none⟩) n n) ∧ OwnC w' w.heap.size (List.replicate n ct0) ∧ Below w.heap.size w w' := by
  have hn2 : (n : Int) ≤ 1000 := by omega
  go_enter Try.func48, Try.ntmps48
  go_wp2_with (at_make; refine make_cols rfl (.tmp 5) (.tmp 5) _ Try.underlying90 rfl n rfl rfl (by omega) ?_; intro w2 ho2 hb2; have HO2 := Lib.hid ho2; have HB2 := Lib.hid hb2; clear ho2 hb2)
  go_loopw [9] (fun iv wr => ∃ k : Nat, k ≤ n ∧ iv = .int .i64 k ∧ Hid (OwnC wr w.heap.size (List.replicate k ct0 ++ List.replicate (n - k) ctz)) ∧ Hid (Below w.heap.size w wr)) (fun iv _ => n - (intOf iv).toNat)
  case atStart => exact ⟨0, by omega, rfl, HO2.out, HB2.out⟩
  case round =>
    obtain ⟨k, hk, rfl, HO, HB⟩ := hrel
    by_cases hlt : k < n
    · have hlg : (k : Int) < (n : Int) := by omega
      have hL : k < (List.replicate k ct0 ++ List.replicate (n - k) ctz).length := by simp; omega
      have ha := HO.out.at hL
      obtain ⟨u0, u1, u2⟩ := ha
      have f1 := HO.out.free (k * 3 + 1)
      have f2 := HO.out.free (k * 3 + 2)
      have h1 := HO.out.set1 hL (-2147483648)
      have h2 := h1.set2 (k := k) (by rw [List.length_set]; exact hL) 2147483647
      rw [ct_setD hL, List.set_set] at h2
      have hz : (List.replicate k ct0 ++ List.replicate (n - k) ctz).getD k ct0 = ctz := by
        rw [List.getD_eq_getElem?_getD, List.getElem?_append_right (by simp), List.length_replicate, Nat.sub_self, List.getElem?_replicate, if_pos (by omega)]
        rfl
      rw [hz] at h2
      have HF := Lib.hid h2
      have HR : Hid ((List.replicate k ct0 ++ List.replicate (n - k) ctz).set k ct0 = List.replicate (k + 1) ct0 ++ List.replicate (n - (k + 1)) ctz) := rep_set ct0 ctz hlt
      clear h1 h2 hz
      go_wp2
      refine ⟨⟨k + 1, by omega, by go_num, ?_, (HB.out.setCell (p := ⟨w.heap.size, k * 3 + 1, none⟩) (Nat.le_refl _) _).setCell (p := ⟨w.heap.size, k * 3 + 1 + 1, none⟩) (Nat.le_refl _) _⟩, by first | (simp [intOf]; done) | (simp [intOf]; omega)⟩
      show OwnC _ _ _
      rw [← HR.out]
      exact HF.out
    · obtain rfl : k = n := by omega
      have HO3 : Hid (OwnC wr w.heap.size (List.replicate k ct0)) := by
        have := HO.out
        rw [Nat.sub_self] at this
        show OwnC _ _ _
        simpa using this
      go_wp2
      go_ret
      exact ⟨by simp, HO3.out, HB.out⟩
set_option maxRecDepth 100000 in
set_option maxHeartbeats 4000000 in
theorem exp_whys (g : Nat) (L : List CT) (cc : Nat) (hn : L.length ≤ 1000) (w : World) (hO : OwnC w g L) : Calls Try.prog 51 #[.slice (some ⟨g, 0, none⟩) L.length cc] w fun e w' => e = .returned (.slice (some ⟨w.heap.size, 0, none⟩) L.length L.length) ∧ OwnY w' w.heap.size L ∧ Below w.heap.size w w' := by
  have HO := Lib.hid hO
  have hg := hO.lt
  obtain ⟨n, hnn⟩ : ∃ n, n = L.length := ⟨_, rfl⟩
  have HN := Lib.hid hnn
  rw [← hnn] at hn ⊢
  have hn2 : (n : Int) ≤ 1000 := by omega
  clear hnn hO
  go_enter Try.func51, Try.ntmps51
  go_wp2_with (at_make; refine make_whys rfl (.tmp 7) (.tmp 7) rfl n rfl rfl (by omega) ?_; intro w2 ho2 hb2; have HO2 := Lib.hid ho2; have HB2 := Lib.hid hb2; clear ho2 hb2)
  go_loopw [11] (fun iv wr => ∃ k : Nat, k ≤ n ∧ iv = .int .i64 k ∧ Hid (OwnY wr w.heap.size (L.take k ++ List.replicate (n - k) ctz)) ∧ Hid (Below w.heap.size w wr)) (fun iv _ => n - (intOf iv).toNat)
  case atStart => exact ⟨0, by omega, rfl, HO2.out, HB2.out⟩
  case round =>
    obtain ⟨k, hk, rfl, HY, HB⟩ := hrel
    by_cases hlt : k < n
    · have hlg : (k : Int) < (n : Int) := by omega
      have hL : k < (L.take k ++ List.replicate (n - k) ctz).length := by have := HN.out; rw [List.length_append, List.length_take, List.length_replicate]; omega
      have HC := Lib.hid (HO.out.below HB.out hg)
      obtain ⟨u0, u1, u2⟩ := HC.out.at (k := k) (by have := HN.out; omega)
      obtain ⟨t, ht⟩ : ∃ t, t = L.getD k ct0 := ⟨_, rfl⟩
      rw [← ht] at u0 u1 u2
      have HT := Lib.hid ht.symm
      clear ht
      obtain ⟨ts, tl, th⟩ := t
      simp only at u0 u1 u2
      have hbx := Lib.hid (Box.new wr #[.int .i64 ts, .int .i64 tl, .int .i64 th] 113)
      have HB4 := Lib.hid (HB.out.alloc HB.out.size (.cells #[.int .i64 ts, .int .i64 tl, .int .i64 th] 113))
      have HY4 := Lib.hid (HY.out.below ((Below.refl _ _).alloc (Nat.le_refl _) (.cells #[.int .i64 ts, .int .i64 tl, .int .i64 th] 113)) HY.out.lt)
      have b0 := hbx.out.cell 0
      have b1 := hbx.out.cell 1
      have b2 := hbx.out.cell 2
      have f0 := HY4.out.free (k * 3)
      have f1 := HY4.out.free (k * 3 + 1)
      have f2 := HY4.out.free (k * 3 + 2)
      obtain ⟨v0, v1, v2⟩ := HY4.out.at hL
      have HF := Lib.hid (HY4.out.put hL ⟨ts, tl, th⟩)
      have HR : Hid ((L.take k ++ List.replicate (n - k) ctz).set k ⟨ts, tl, th⟩ = L.take (k + 1) ++ List.replicate (n - (k + 1)) ctz) := by
        have := take_set (L := L) ctz HN.out hlt
        rw [HT.out] at this
        exact this
      go_wp2
      refine ⟨⟨k + 1, by omega, by go_num, ?_, ((HB4.out.setCell (p := ⟨w.heap.size, k * 3, none⟩) (Nat.le_refl _) _).setCell (p := ⟨w.heap.size, k * 3 + 1, none⟩) (Nat.le_refl _) _).setCell (p := ⟨w.heap.size, k * 3 + 2, none⟩) (Nat.le_refl _) _⟩, by first | (simp [intOf]; done) | (simp [intOf]; omega)⟩
      show OwnY _ _ _
      rw [← HR.out]
      exact HF.out
    · obtain rfl : k = n := by omega
      have HO3 : Hid (OwnY wr w.heap.size L) := by
        have := HY.out
        rw [Nat.sub_self, HN.out, List.take_length] at this
        show OwnY _ _ _
        simpa using this
      go_wp2
      go_ret
      exact ⟨by simp, HO3.out, HB.out⟩
end Go.Proofs.Yteenemdiokajbaa
/-! Layer 16: pass. -/
namespace Go.Proofs.Yteenemdiokajbaa
open Go.RowKit
set_option linter.unusedVariables false
set_option linter.unusedSimpArgs false

theorem getD_memZ2 {l : List Int} {k : Nat} (h : k < l.length) : l.getD k 0 ∈ l := by
  rw [List.getD_eq_getElem?_getD, List.getElem?_eq_getElem h]
  exact List.getElem_mem h
theorem grown_set (W : World) (p : Addr) (v : Value) : W.grownBy (W.setCell p v) (some p.block) :=
  ⟨rfl, rfl, rfl, by simp [World.setCell], fun k _ hne => Go.Deep.blk_setCell_other W p v k (fun e => hne (by rw [e]))⟩
theorem grown_from {a b : World} {r : Option Nat} (h : a.drew.grownBy b r) : a.grownBy b r := ⟨h.os, h.tape, h.output, h.size, h.block⟩
theorem grown_trans {a b c : World} {r : Option Nat} (h1 : a.grownBy b r) (h2 : b.grownBy c r) : a.grownBy c r :=
  ⟨h2.os.trans h1.os, h2.tape.trans h1.tape, h2.output.trans h1.output, Nat.le_trans h1.size h2.size, fun k hk hne => (h2.block k (Nat.lt_of_lt_of_le hk h1.size) hne).trans (h1.block k hk hne)⟩
theorem grown_below {a b : World} {r : Option Nat} (h : Below a.heap.size a b) : a.grownBy b r := ⟨h.os, h.tape, h.output, h.size, fun k hk _ => h.block k hk⟩
theorem grown_drew {a b : World} {r : Option Nat} (h : a.grownBy b r) : a.grownBy b.drew r := ⟨h.os, h.tape, h.output, h.size, h.block⟩
/-- the first i columns behind a step, the others ahead of it -/
def mixL (e : TS) (x : List Int) (L : List CT) (i : Nat) : List CT := (List.range L.length).map (fun j => if j < i then pasC e x j (L.getD j ct0) else L.getD j ct0)
theorem mixL_len (e : TS) (x : List Int) (L : List CT) (i : Nat) : (mixL e x L i).length = L.length := by simp [mixL]
theorem mixL_at (e : TS) (x : List Int) (L : List CT) (i : Nat) {j : Nat} (hj : j < L.length) : (mixL e x L i).getD j ct0 = if j < i then pasC e x j (L.getD j ct0) else L.getD j ct0 := by
  unfold mixL
  rw [List.getD_eq_getElem?_getD, List.getElem?_map, List.getElem?_range hj]
  rfl
theorem mixL_zero (e : TS) (x : List Int) (L : List CT) : mixL e x L 0 = L := by
  refine List.ext_getElem (by simp [mixL]) (fun j h1 h2 => ?_)
  simp [mixL, List.getD, h2]
theorem mixL_all (e : TS) (x : List Int) (L : List CT) : mixL e x L L.length = pasL e x L := by
  unfold mixL pasL
  exact List.map_congr_left (fun j hj => by rw [if_pos (List.mem_range.1 hj)])
theorem mixL_step (e : TS) (x : List Int) (L : List CT) {i : Nat} (hi : i < L.length) : mixL e x L (i + 1) = (mixL e x L i).set i (pasC e x i (L.getD i ct0)) := by
  refine List.ext_getElem (by simp [mixL]) (fun j h1 h2 => ?_)
  rw [List.getElem_set]
  by_cases h : i = j
  · subst h
    simp [mixL]
  · rw [if_neg h]
    simp only [mixL, List.getElem_map, List.getElem_range]
    by_cases g : j < i
    · rw [if_pos g, if_pos (by omega)]
    · rw [if_neg g, if_neg (by omega)]
theorem mixL_same (e : TS) (x : List Int) (L : List CT) {i : Nat} (hi : i < L.length) (h0 : e.co.getD i 0 = 0) : mixL e x L (i + 1) = mixL e x L i := by
  rw [mixL_step e x L hi]
  refine List.ext_getElem (by simp [mixL]) (fun j h1 h2 => ?_)
  rw [List.getElem_set]
  by_cases h : i = j
  · subst h
    rw [if_pos rfl]
    simp only [mixL, List.getElem_map, List.getElem_range]
    rw [if_neg (by omega)]
    exact if_pos h0
  · rw [if_neg h]
set_option maxRecDepth 100000 in
set_option maxHeartbeats 8000000 in
theorem exp_pass (e : TS) (x : List Int) (A A2 : Option Addr) (c c2 g B cc : Nat) (L : List CT) (w : World) (dm : Int) (ok : okE e dm x) (hx : isV x dm = true) (hL : L.length = x.length) (hst : ∀ i, i < L.length → 0 ≤ (L.getD i ct0).st ∧ (L.getD i ct0).st ≤ 1000000)
    (hA : Lies w B A e.co) (hX : Lies w B A2 x) (hg : B ≤ g) (hO : OwnC w g L) (hcap : e.co.length ≤ c) (hcap2 : x.length ≤ c2) :
    Calls Try.prog 50 #[.slice (some ⟨g, 0, none⟩) x.length cc, .agg #[.slice A e.co.length c, .int .i64 e.lv], .slice A2 x.length c2, .bool e.l] w fun r w' => (∃ v, r = .returned v) ∧ OwnC w' g (pasL e x L) ∧ w.grownBy w' (some g) := by
  have hc := ok.1
  have hp : partsV e.co dm = true := by
    unfold isC at hc
    rw [Bool.and_eq_true] at hc
    exact hc.1
  have hlv : -137438953472 ≤ e.lv ∧ e.lv ≤ 137438953472 := by
    unfold isC at hc
    rw [Bool.and_eq_true, decide_eq_true_iff] at hc
    exact hc.2
  obtain ⟨p1, p2, p3, p4, _⟩ := partsV_iff.1 hp
  obtain ⟨v1, v2, v3, v4⟩ := isV_iff.1 hx
  have hdE : dotE e.co x = true := by unfold dotE; rw [p3, hp, hx]; rfl
  have hdC : dotC e.co x = 0 := by unfold dotC; rw [if_pos hdE]
  have hdb := dotN_bd hdE
  have hrp := rest_pos ok hx
  have hgw := hO.lt
  have HX0 := Lib.hid ((Kpc.start w).alloc #[.slice A e.co.length c, .int .i64 e.lv] 79)
  obtain ⟨y0, y1⟩ := box_cut HX0.out.head
  have HB0 := Lib.hid ((Below.refl w.heap.size w).alloc (Nat.le_refl _) (.cells #[.slice A e.co.length c, .int .i64 e.lv] 79))
  have KD := Lib.hid (vec_Dot A A2 e.co x c c2 B _ (hA.below (HB0.out.mono (by omega))) (hX.below (HB0.out.mono (by omega))) (by omega) (by omega) hcap hcap2)
  rw [hdC] at KD
  have hlen : e.co.length = x.length := by omega
  have HCO : Hid (∀ W, Below B w W → ∀ i, i < x.length → ∃ ad : Addr, A = some ad ∧ W.cell? (ad.add i) = some (.int .i64 (e.co.getD i 0))) := fun W h i hi => by
    obtain ⟨ad, e1, _, hc⟩ := (hA.below h) (by omega)
    exact ⟨ad, e1, hc i (by omega)⟩
  have HXO : Hid (∀ W, Below B w W → ∀ i, i < x.length → ∃ ad : Addr, A2 = some ad ∧ W.cell? (ad.add i) = some (.int .i64 (x.getD i 0))) := fun W h i hi => by
    obtain ⟨ad, e1, _, hc⟩ := (hX.below h) (by omega)
    exact ⟨ad, e1, hc i (by omega)⟩
  have HCB : Hid (∀ i, i < x.length → -4 ≤ e.co.getD i 0 ∧ e.co.getD i 0 ≤ 4) := fun i hi => p4 _ (getD_memZ2 (by omega))
  have HXB : Hid (∀ i, i < x.length → -2147483648 ≤ x.getD i 0 ∧ x.getD i 0 ≤ 2147483647) := fun i hi => get_isV hx hi
  have HST := Lib.hid hst
  have HLL := Lib.hid hL
  have HMZ := Lib.hid (mixL_zero e x L)
  have HMA := Lib.hid (mixL_all e x L)
  have HML := Lib.hid (mixL_len e x L)
  have HMT := Lib.hid (fun i j hj => mixL_at e x L i (j := j) hj)
  have HMS := Lib.hid (fun i hi => mixL_step e x L (i := i) hi)
  have HMN := Lib.hid (fun i hi h0 => mixL_same e x L (i := i) hi h0)
  have HO := Lib.hid hO
  have HPC : Hid (∀ i t, ¬ e.co.getD i 0 = 0 → pasC e x i t = ⟨t.st + 1, (nrw t.lo t.hi (x.getD i 0) (if e.l = true then e.co.getD i 0 else -e.co.getD i 0) (if e.l = true then e.lv - 1 - dotN e.co x else dotN e.co x - e.lv)).1, (nrw t.lo t.hi (x.getD i 0) (if e.l = true then e.co.getD i 0 else -e.co.getD i 0) (if e.l = true then e.lv - 1 - dotN e.co x else dotN e.co x - e.lv)).2⟩) := fun i t h => if_neg h
  have HRP : Hid (0 ≤ if e.l = true then e.lv - 1 - dotN e.co x else dotN e.co x - e.lv) := hrp
  clear hA hX hO hst hp p1 p2 p3 p4 v1 v2 v3 v4 hdE hdC hrp hc hL
  obtain ⟨co, lv, l⟩ := e
  simp only at *
  generalize dotN co x = pr at *
  generalize mixL ⟨co, lv, l⟩ x L = mx at *
  generalize pasL ⟨co, lv, l⟩ x L = pl at *
  generalize pasC ⟨co, lv, l⟩ x = pc at *
  rw [hlen] at KD HX0 HB0 y0 ⊢
  obtain ⟨n, hn⟩ : ∃ n, n = x.length := ⟨_, rfl⟩
  have HN := Lib.hid hn
  rw [← hn] at KD HX0 HB0 y0 hcap2 HCO HXO HCB HXB HLL ⊢
  clear hn hlen hcap hcap2
  have hn8 : (n : Int) ≤ 8 := by have := HN.out; have := (isV_iff.1 hx).2; omega
  clear ok hx
  go_enter Try.func50, Try.ntmps50
  go_wp2_with fail
  refine KD.out.mono ?_
  rintro r w1 ⟨rfl, m1, rfl⟩
  obtain ⟨W1, hW1⟩ : ∃ W1, W1 = ((w.alloc (.cells #[.slice A n c, .int .i64 lv] 79)).drewN m1) := ⟨_, rfl⟩
  have HB1 : Hid (Below w.heap.size w W1) := by
    show Below _ _ _
    rw [hW1]
    exact below_drewN2 HB0.out m1
  have HCU : Hid (Box W1 w.heap.size #[.slice A n c, .int .i64 lv] 79) := by
    show Box _ _ _ _
    rw [hW1]
    exact HX0.out.head
  have HO1 : Hid (OwnC W1 g L) := HO.out.below HB1.out hgw
  rw [← hW1]
  clear hW1 y0 y1 HX0 HB0 KD HO
  have hsz1 := HB1.out.size
  obtain ⟨y0, y1⟩ := box_cut HCU.out
  go_wp2
  go_loopw [22] (fun iv wr => ∃ i : Nat, i ≤ n ∧ iv = .int .i64 i ∧ Hid (OwnC wr g (mx i)) ∧ Hid (W1.grownBy wr (some g))) (fun iv _ => n - (intOf iv).toNat)
  case atStart =>
    refine ⟨0, by omega, rfl, ?_, grown_below (Below.refl _ _)⟩
    show OwnC _ _ _
    rw [HMZ.out]
    exact HO1.out
  case round =>
    obtain ⟨i, hi, rfl, HOi, HG⟩ := hrel
    have HCUi : Hid (Box wr w.heap.size #[.slice A n c, .int .i64 lv] 79) := (HG.out.block _ HCU.out.lt (fun h => by cases h; omega)).trans HCU.out
    have HBi : Hid (Below B w wr) := (HB1.out.mono (by omega)).grown HG.out (by omega) (fun k hk => by cases hk; exact hg)
    clear y0 y1
    obtain ⟨y0, y1⟩ := box_cut HCUi.out
    by_cases hlt : i < n
    · have hlg : (i : Int) < (n : Int) := by omega
      have hiL : i < L.length := by have := HLL.out; omega
      obtain ⟨ad, eA, c0⟩ := HCO.out wr HBi.out i hlt
      obtain ⟨ad2, eA2, c2⟩ := HXO.out wr HBi.out i hlt
      subst eA
      subst eA2
      have hcb := HCB.out i hlt
      have hxb := HXB.out i hlt
      have hmi : i < (mx i).length := by rw [HML.out]; exact hiL
      obtain ⟨u0, u1, u2⟩ := HOi.out.at hmi
      rw [HMT.out i i hiL, if_neg (by omega)] at u0 u1 u2
      have f0 := HOi.out.free (i * 3)
      have f1 := HOi.out.free (i * 3 + 1)
      have f2 := HOi.out.free (i * 3 + 2)
      have hs := HST.out i hiL
      have HSi := Lib.hid (HMS.out i hiL)
      have HNi := Lib.hid (HMN.out i hiL)
      have HPi := Lib.hid (HPC.out i (L.getD i ct0))
      by_cases h0 : co.getD i 0 = 0
      · have HN2 : Hid (mx (i + 1) = mx i) := HNi.out h0
        rw [h0] at c0
        clear HSi HNi HPi u0 u1 u2 f0 f1 f2 hcb
        go_wp2
        exact ⟨⟨i + 1, by omega, by go_num, by show OwnC _ _ _; rw [HN2.out]; exact HOi.out, HG.out⟩, by first | (simp [intOf]; done) | (simp [intOf]; omega)⟩
      · have hp := HPi.out h0
        have hne : (co.getD i 0 == 0) = false := by simpa using h0
        have hti : (mx i).getD i ct0 = L.getD i ct0 := by rw [HMT.out i i hiL, if_neg (by omega)]
        clear HNi HPi
        generalize co.getD i 0 = ci at *
        generalize x.getD i 0 = xi at *
        generalize L.getD i ct0 = t at *
        obtain ⟨ts, tl, th⟩ := t
        simp only at u0 u1 u2 hs hp
        obtain ⟨hcb1, hcb2⟩ := hcb
        obtain ⟨hxb1, hxb2⟩ := hxb
        obtain ⟨hs1, hs2⟩ := hs
        obtain ⟨hlv1, hlv2⟩ := hlv
        obtain ⟨hdb1, hdb2⟩ := hdb
        cases l with
        | true =>
          have hrp := HRP.out
          rw [if_pos rfl] at hrp
          simp only [if_true] at hp
          by_cases hpos : 0 < ci
          · skip
            have KN := Lib.hid (narrow_hi g (i * 3 + 1) th xi (ci) (lv - 1 - pr) wr.drew u2 f2 (by omega) (by omega) (by omega))
            have HP2 : Hid (pc i ⟨ts, tl, th⟩ = ⟨ts + 1, tl, min th (xi + (lv - 1 - pr) / (ci))⟩) := by
              show _ = _
              rw [hp]
              unfold nrw
              rw [if_pos hpos]
            have HM : Hid (OwnC (wr.drew.setCell ⟨g, i * 3 + 1 + 1, none⟩ (.int .i64 (min th (xi + (lv - 1 - pr) / (ci))))).drew g ((mx i).set i ⟨ts, tl, min th (xi + (lv - 1 - pr) / (ci))⟩)) := by
              have := HOi.out.set2 hmi (min th (xi + (lv - 1 - pr) / (ci)))
              rw [hti] at this
              exact this
            have HGM : Hid (W1.grownBy (wr.drew.setCell ⟨g, i * 3 + 1 + 1, none⟩ (.int .i64 (min th (xi + (lv - 1 - pr) / (ci))))).drew (some g)) := grown_trans HG.out (grown_drew (grown_from (grown_set wr.drew _ _)))
            have m0 := (HM.out.at (k := i) (by rw [List.length_set]; exact hmi)).1
            rw [ct_setD hmi] at m0
            have fm := HM.out.free (i * 3)
            have HM2 : Hid (OwnC ((wr.drew.setCell ⟨g, i * 3 + 1 + 1, none⟩ (.int .i64 (min th (xi + (lv - 1 - pr) / (ci))))).drew.setCell ⟨g, i * 3, none⟩ (.int .i64 (ts + 1))) g (mx (i + 1))) := by
              have := HM.out.set0 (k := i) (by rw [List.length_set]; exact hmi) (ts + 1)
              rw [ct_setD hmi, List.set_set] at this
              show OwnC _ _ _
              rw [HSi.out, HP2.out]
              exact this
            have HGM2 : Hid (W1.grownBy ((wr.drew.setCell ⟨g, i * 3 + 1 + 1, none⟩ (.int .i64 (min th (xi + (lv - 1 - pr) / (ci))))).drew.setCell ⟨g, i * 3, none⟩ (.int .i64 (ts + 1))) (some g)) := grown_trans HGM.out (grown_set _ _ _)
            clear hp HP2 HM HGM hti
            generalize hNV : (min th (xi + (lv - 1 - pr) / (ci))) = nv at *
            clear hNV
            generalize hWM : (wr.drew.setCell ⟨g, i * 3 + 1 + 1, none⟩ (.int .i64 nv)).drew = WM at *
            clear hWM
            go_wp2
            go_still_tail 14, (by kernel_rfl)
            go_wp2_with fail
            refine KN.out.mono ?_
            rintro r w3 ⟨⟨rv, rfl⟩, rfl⟩
            go_wp2
            exact ⟨⟨i + 1, by omega, by go_num, HM2.out, HGM2.out⟩, by first | (simp [intOf]; done) | (simp [intOf]; omega)⟩
          · skip
            have KN := Lib.hid (narrow_lo g (i * 3 + 1) tl xi (ci) (lv - 1 - pr) wr.drew u1 f1 (by omega) (by omega) (by omega))
            have HP2 : Hid (pc i ⟨ts, tl, th⟩ = ⟨ts + 1, max tl (xi - (lv - 1 - pr) / (-(ci))), th⟩) := by
              show _ = _
              rw [hp]
              unfold nrw
              rw [if_neg hpos]
            have HM : Hid (OwnC (wr.drew.setCell ⟨g, i * 3 + 1, none⟩ (.int .i64 (max tl (xi - (lv - 1 - pr) / (-(ci)))))).drew g ((mx i).set i ⟨ts, max tl (xi - (lv - 1 - pr) / (-(ci))), th⟩)) := by
              have := HOi.out.set1 hmi (max tl (xi - (lv - 1 - pr) / (-(ci))))
              rw [hti] at this
              exact this
            have HGM : Hid (W1.grownBy (wr.drew.setCell ⟨g, i * 3 + 1, none⟩ (.int .i64 (max tl (xi - (lv - 1 - pr) / (-(ci)))))).drew (some g)) := grown_trans HG.out (grown_drew (grown_from (grown_set wr.drew _ _)))
            have m0 := (HM.out.at (k := i) (by rw [List.length_set]; exact hmi)).1
            rw [ct_setD hmi] at m0
            have fm := HM.out.free (i * 3)
            have HM2 : Hid (OwnC ((wr.drew.setCell ⟨g, i * 3 + 1, none⟩ (.int .i64 (max tl (xi - (lv - 1 - pr) / (-(ci)))))).drew.setCell ⟨g, i * 3, none⟩ (.int .i64 (ts + 1))) g (mx (i + 1))) := by
              have := HM.out.set0 (k := i) (by rw [List.length_set]; exact hmi) (ts + 1)
              rw [ct_setD hmi, List.set_set] at this
              show OwnC _ _ _
              rw [HSi.out, HP2.out]
              exact this
            have HGM2 : Hid (W1.grownBy ((wr.drew.setCell ⟨g, i * 3 + 1, none⟩ (.int .i64 (max tl (xi - (lv - 1 - pr) / (-(ci)))))).drew.setCell ⟨g, i * 3, none⟩ (.int .i64 (ts + 1))) (some g)) := grown_trans HGM.out (grown_set _ _ _)
            clear hp HP2 HM HGM hti
            generalize hNV : (max tl (xi - (lv - 1 - pr) / (-(ci)))) = nv at *
            clear hNV
            generalize hWM : (wr.drew.setCell ⟨g, i * 3 + 1, none⟩ (.int .i64 nv)).drew = WM at *
            clear hWM
            go_wp2
            go_still_tail 14, (by kernel_rfl)
            go_wp2_with fail
            refine KN.out.mono ?_
            rintro r w3 ⟨⟨rv, rfl⟩, rfl⟩
            go_wp2
            exact ⟨⟨i + 1, by omega, by go_num, HM2.out, HGM2.out⟩, by first | (simp [intOf]; done) | (simp [intOf]; omega)⟩
        | false =>
          have hrp := HRP.out
          rw [if_neg (by simp)] at hrp
          simp only [Bool.false_eq_true, if_false] at hp
          by_cases hpos : 0 < -ci
          · skip
            have KN := Lib.hid (narrow_hi g (i * 3 + 1) th xi (-ci) (pr - lv) wr.drew u2 f2 (by omega) (by omega) (by omega))
            have HP2 : Hid (pc i ⟨ts, tl, th⟩ = ⟨ts + 1, tl, min th (xi + (pr - lv) / (-ci))⟩) := by
              show _ = _
              rw [hp]
              unfold nrw
              rw [if_pos hpos]
            have HM : Hid (OwnC (wr.drew.setCell ⟨g, i * 3 + 1 + 1, none⟩ (.int .i64 (min th (xi + (pr - lv) / (-ci))))).drew g ((mx i).set i ⟨ts, tl, min th (xi + (pr - lv) / (-ci))⟩)) := by
              have := HOi.out.set2 hmi (min th (xi + (pr - lv) / (-ci)))
              rw [hti] at this
              exact this
            have HGM : Hid (W1.grownBy (wr.drew.setCell ⟨g, i * 3 + 1 + 1, none⟩ (.int .i64 (min th (xi + (pr - lv) / (-ci))))).drew (some g)) := grown_trans HG.out (grown_drew (grown_from (grown_set wr.drew _ _)))
            have m0 := (HM.out.at (k := i) (by rw [List.length_set]; exact hmi)).1
            rw [ct_setD hmi] at m0
            have fm := HM.out.free (i * 3)
            have HM2 : Hid (OwnC ((wr.drew.setCell ⟨g, i * 3 + 1 + 1, none⟩ (.int .i64 (min th (xi + (pr - lv) / (-ci))))).drew.setCell ⟨g, i * 3, none⟩ (.int .i64 (ts + 1))) g (mx (i + 1))) := by
              have := HM.out.set0 (k := i) (by rw [List.length_set]; exact hmi) (ts + 1)
              rw [ct_setD hmi, List.set_set] at this
              show OwnC _ _ _
              rw [HSi.out, HP2.out]
              exact this
            have HGM2 : Hid (W1.grownBy ((wr.drew.setCell ⟨g, i * 3 + 1 + 1, none⟩ (.int .i64 (min th (xi + (pr - lv) / (-ci))))).drew.setCell ⟨g, i * 3, none⟩ (.int .i64 (ts + 1))) (some g)) := grown_trans HGM.out (grown_set _ _ _)
            clear hp HP2 HM HGM hti
            generalize hNV : (min th (xi + (pr - lv) / (-ci))) = nv at *
            clear hNV
            generalize hWM : (wr.drew.setCell ⟨g, i * 3 + 1 + 1, none⟩ (.int .i64 nv)).drew = WM at *
            clear hWM
            go_wp2
            go_still_tail 14, (by kernel_rfl)
            go_wp2_with fail
            refine KN.out.mono ?_
            rintro r w3 ⟨⟨rv, rfl⟩, rfl⟩
            go_wp2
            exact ⟨⟨i + 1, by omega, by go_num, HM2.out, HGM2.out⟩, by first | (simp [intOf]; done) | (simp [intOf]; omega)⟩
          · skip
            have KN := Lib.hid (narrow_lo g (i * 3 + 1) tl xi (-ci) (pr - lv) wr.drew u1 f1 (by omega) (by omega) (by omega))
            have HP2 : Hid (pc i ⟨ts, tl, th⟩ = ⟨ts + 1, max tl (xi - (pr - lv) / (-(-ci))), th⟩) := by
              show _ = _
              rw [hp]
              unfold nrw
              rw [if_neg hpos]
            have HM : Hid (OwnC (wr.drew.setCell ⟨g, i * 3 + 1, none⟩ (.int .i64 (max tl (xi - (pr - lv) / (-(-ci)))))).drew g ((mx i).set i ⟨ts, max tl (xi - (pr - lv) / (-(-ci))), th⟩)) := by
              have := HOi.out.set1 hmi (max tl (xi - (pr - lv) / (-(-ci))))
              rw [hti] at this
              exact this
            have HGM : Hid (W1.grownBy (wr.drew.setCell ⟨g, i * 3 + 1, none⟩ (.int .i64 (max tl (xi - (pr - lv) / (-(-ci)))))).drew (some g)) := grown_trans HG.out (grown_drew (grown_from (grown_set wr.drew _ _)))
            have m0 := (HM.out.at (k := i) (by rw [List.length_set]; exact hmi)).1
            rw [ct_setD hmi] at m0
            have fm := HM.out.free (i * 3)
            have HM2 : Hid (OwnC ((wr.drew.setCell ⟨g, i * 3 + 1, none⟩ (.int .i64 (max tl (xi - (pr - lv) / (-(-ci)))))).drew.setCell ⟨g, i * 3, none⟩ (.int .i64 (ts + 1))) g (mx (i + 1))) := by
              have := HM.out.set0 (k := i) (by rw [List.length_set]; exact hmi) (ts + 1)
              rw [ct_setD hmi, List.set_set] at this
              show OwnC _ _ _
              rw [HSi.out, HP2.out]
              exact this
            have HGM2 : Hid (W1.grownBy ((wr.drew.setCell ⟨g, i * 3 + 1, none⟩ (.int .i64 (max tl (xi - (pr - lv) / (-(-ci)))))).drew.setCell ⟨g, i * 3, none⟩ (.int .i64 (ts + 1))) (some g)) := grown_trans HGM.out (grown_set _ _ _)
            clear hp HP2 HM HGM hti
            generalize hNV : (max tl (xi - (pr - lv) / (-(-ci)))) = nv at *
            clear hNV
            generalize hWM : (wr.drew.setCell ⟨g, i * 3 + 1, none⟩ (.int .i64 nv)).drew = WM at *
            clear hWM
            go_wp2
            go_still_tail 14, (by kernel_rfl)
            go_wp2_with fail
            refine KN.out.mono ?_
            rintro r w3 ⟨⟨rv, rfl⟩, rfl⟩
            go_wp2
            exact ⟨⟨i + 1, by omega, by go_num, HM2.out, HGM2.out⟩, by first | (simp [intOf]; done) | (simp [intOf]; omega)⟩
    · obtain rfl : i = n := by omega
      have HF : Hid (OwnC wr g pl) := by
        have := HOi.out
        rw [← HLL.out, HMA.out] at this
        exact this
      go_wp2
      go_end0
      exact ⟨⟨_, rfl⟩, HF.out, grown_trans (grown_below HB1.out) HG.out⟩
end Go.Proofs.Yteenemdiokajbaa
/-! Layer 16: All. -/
namespace Go.Proofs.Yteenemdiokajbaa
open Go.RowKit
set_option linter.unusedVariables false
set_option linter.unusedSimpArgs false

/-- the steps in the first k trees -/
def tstK (T : List TT) (x : List Int) : Nat → List TS
  | 0 => []
  | k + 1 => tstK T x k ++ tstT (T.getD k tt0).n x (T.getD k tt0).n.length 0
/-- what All tells -/
def whyV (T : List TT) (x : List Int) : List CT × Int := if (sumV T x).2 = 0 then (colsC x (tstK T x T.length), 0) else ([], (sumV T x).2)
theorem sumV_ok {T : List TT} {x : List Int} (h : (sumV T x).2 = 0) : T.length ≤ 16 ∧ 0 < T.length ∧ (∀ k, k < T.length → isT (T.getD k tt0).n (T.getD k tt0).dim = true ∧ (T.getD k tt0).dim = (T.getD 0 tt0).dim) ∧ isV x (T.getD 0 tt0).dim = true := by
  unfold sumV at h
  by_cases h16 : 16 < T.length
  · rw [if_pos h16] at h; exact absurd h (by simp)
  · rw [if_neg h16] at h
    by_cases h0 : alkV T = 0
    · rw [if_pos h0] at h
      obtain ⟨g0, g1⟩ := alkV_zero h0
      by_cases hx : isV x (T.getD 0 tt0).dim = true
      · exact ⟨by omega, g0, fun k hk => alkK_at hk g1, hx⟩
      · rw [if_neg hx] at h; exact absurd h (by simp)
    · rw [if_neg h0] at h; exact absurd h (by simp)
theorem tstK_ok {T : List TT} {x : List Int} (h : (sumV T x).2 = 0) : ∀ k, k ≤ T.length → (∀ e ∈ tstK T x k, okE e (T.getD 0 tt0).dim x) ∧ (tstK T x k).length ≤ k * 127
  | 0, _ => ⟨(fun e he => by cases he), by simp [tstK]⟩
  | k + 1, hk => by
    obtain ⟨h16, h0, hall, hx⟩ := sumV_ok h
    obtain ⟨i1, i2⟩ := tstK_ok h k (by omega)
    obtain ⟨hT, hd⟩ := hall k (by omega)
    obtain ⟨_, _, _, d0, s0, _⟩ := isT_iff.1 hT
    have hl := isT_len hT
    have ht := tst_len (N := (T.getD k tt0).n) (x := x) (T.getD k tt0).n.length 0
    refine ⟨fun e he => ?_, ?_⟩
    · rcases List.mem_append.1 he with he | he
      · exact i1 e he
      · have hx' := hx
        rw [← hd] at hx'
        have := tstT_ok hx' _ _ _ _ s0 e he
        rw [hd] at this
        exact this
    · rw [tstK, List.length_append]
      omega
/-- it gives a row of columns, and that error -/
def GivesY (r : List CT × Int) (w : World) (e : Ending) (w' : World) : Prop :=
  ∃ A c, e = .returned (.tuple #[.slice A r.1.length c, .int .i64 r.2]) ∧ (0 < r.1.length → ∃ g, A = some ⟨g, 0, none⟩ ∧ w.heap.size ≤ g ∧ OwnY w' g r.1) ∧ Below w.heap.size w w'
theorem givesY_nil {w w' : World} {z : Int} (h : Below w.heap.size w w') : GivesY ([], z) w (.returned (.tuple #[.slice none 0 0, .int .i64 z])) w' :=
  ⟨none, 0, rfl, (fun h1 => absurd h1 (by simp)), h⟩
theorem colsC_nil (x : List Int) : colsC x [] = List.replicate x.length ct0 := by
  refine List.ext_getElem (by simp [colsC]) (fun j h1 h2 => ?_)
  simp [colsC, colC]
theorem colsC_st {x : List Int} {E : List TS} {i : Nat} (hi : i < (colsC x E).length) (hE : E.length ≤ 1000000) : 0 ≤ ((colsC x E).getD i ct0).st ∧ ((colsC x E).getD i ct0).st ≤ 1000000 := by
  rw [colsC_len] at hi
  rw [colsC_at x E hi]
  have := colC_st x i E ct0
  unfold colC
  have e0 : ct0.st = 0 := rfl
  omega
set_option maxRecDepth 100000 in
set_option maxHeartbeats 8000000 in
theorem exp_All (T : List TT) (A A2 : Option Addr) (x : List Int) (c c2 B : Nat) (w : World) (hl : T.length ≤ 1000000) (ho : okTs T) (hA : LiesTs w B A T) (hx : Lies w B A2 x) (hxl : (x.length : Int) ≤ 9223372036854775807) (hxc : x.length ≤ c2) (hB : B ≤ w.heap.size) :
    Calls Try.prog 21 #[.slice A T.length c, .slice A2 x.length c2] w (GivesY (whyV T x) w) := by
  have KS := Lib.hid (path_Sum T A A2 x c c2 B w hl ho hA hx hxl hxc hB)
  by_cases h0 : (sumV T x).2 = 0
  · have hv : whyV T x = (colsC x (tstK T x T.length), 0) := by unfold whyV; rw [if_pos h0]
    rw [hv]
    obtain ⟨h16, hM0, hall, hxv⟩ := sumV_ok h0
    have HA := Lib.hid (fun W (h : Below w.heap.size w W) => hA.below (h.mono hB))
    have HXL := Lib.hid (fun W (h : Below w.heap.size w W) => hx.below (h.mono hB))
    have HOK := Lib.hid (fun k (hk : k < T.length) n (hn : n < (T.getD k tt0).n.length) => ((ho _ (mem_tt hk)).1 _ (mem_tn hn)).1)
    have HALL := Lib.hid hall
    have HTK := Lib.hid (fun k hk => tstK_ok h0 k hk)
    have KT : Hid (∀ k (hk : k < T.length) W (h : Below w.heap.size w W), Calls Try.prog 49 #[.agg #[.int .i64 (T.getD k tt0).dim, .slice (T.getD k tt0).a (T.getD k tt0).n.length (T.getD k tt0).c], .slice A2 x.length c2] W (GivesTrN (wayT (T.getD k tt0).n x (T.getD k tt0).n.length 0, 0) W)) := fun k hk W h => by
      have := path_TrailN (T.getD k tt0).n (T.getD k tt0).dim (T.getD k tt0).a A2 x (T.getD k tt0).c c2 B W (by have := (ho _ (mem_tt hk)).2; omega) (ho _ (mem_tt hk)).1 ((hA.2 _ (mem_tt hk)).below (h.mono hB)) (hx.below (h.mono hB)) hxl hxc (Nat.le_trans hB h.size)
      obtain ⟨hT, hd⟩ := hall k hk
      have hxk := hxv
      rw [← hd] at hxk
      have hv : trailV (T.getD k tt0).n (T.getD k tt0).dim x = (wayT (T.getD k tt0).n x (T.getD k tt0).n.length 0, 0) := by unfold trailV; rw [if_pos hT, if_pos hxk]
      rw [hv] at this
      exact this
    have HWT : Hid (∀ k, k < T.length → ∀ j, j < (tstT (T.getD k tt0).n x (T.getD k tt0).n.length 0).length → ∃ q : Nat, q < (T.getD k tt0).n.length ∧ (wayT (T.getD k tt0).n x (T.getD k tt0).n.length 0).getD j 0 = (q : Int) ∧ (tstT (T.getD k tt0).n x (T.getD k tt0).n.length 0).getD j ts0 = ⟨((T.getD k tt0).n.getD q tn0).co, ((T.getD k tt0).n.getD q tn0).lv, ((wayT (T.getD k tt0).n x (T.getD k tt0).n.length 0).getD (j + 1) 0 == ((T.getD k tt0).n.getD q tn0).lf)⟩) := fun k hk j hj => by
      obtain ⟨hT, hd⟩ := hall k hk
      have hxk := hxv
      rw [← hd] at hxk
      obtain ⟨_, _, _, d0, s0, _⟩ := isT_iff.1 hT
      obtain ⟨q, e', d', q1, q2, q3, q4⟩ := way_tst hxk _ _ _ _ s0 j hj
      refine ⟨q, by have := q1.lt; omega, q2, ?_⟩
      rw [q3]
      refine congrArg (TS.mk _ _) ?_
      rw [Bool.eq_iff_iff, beq_iff_eq]
      exact q4.symm
    have HXV := Lib.hid hxv
    have hx8 := (isV_iff.1 hxv).2
    have hxn0 : 0 < x.length := by have := (isV_iff.1 hxv).1; omega
    have hxn8 : (x.length : Int) ≤ 8 := by omega
    have HC0 : Hid (colsC x (tstK T x 0) = List.replicate x.length ct0) := colsC_nil x
    have HCL := Lib.hid (fun E => colsC_len x E)
    have HTS : Hid (∀ k, tstK T x (k + 1) = tstK T x k ++ tstT (T.getD k tt0).n x (T.getD k tt0).n.length 0) := fun k => rfl
    rw [h0] at KS
    clear hv hl ho hA hx hall hxv h0 hx8
    generalize (T.getD 0 tt0).dim = d0 at *
    obtain ⟨M, hM⟩ : ∃ M, M = T.length := ⟨_, rfl⟩
    have HM := Lib.hid hM
    have HFIN : Hid (tstK T x M = tstK T x T.length) := by show _ = _; rw [hM]
    rw [← hM] at h16 hM0 KS ⊢
    clear hM
    have h16' : (M : Int) ≤ 16 := by omega
    obtain ⟨n, hn⟩ : ∃ n, n = x.length := ⟨_, rfl⟩
    have HN := Lib.hid hn
    have KW := Lib.hid (fun g W (h : OwnC W g (colsC x (tstK T x M))) => exp_whys g (colsC x (tstK T x M)) n (by rw [colsC_len]; omega) W h)
    rw [HCL.out] at KW
    rw [← hn] at hxl hxc KS KT hxn0 hxn8 HC0 KW
    simp only [HCL.out, ← hn]
    clear hn
    have KB := Lib.hid (fun W => exp_begin n (by omega) W)
    go_enter Try.func21, Try.ntmps21
    go_wp2_with fail
    refine KS.out.mono ?_
    rintro e w1 ⟨rfl, b1⟩
    have HB1 := Lib.hid b1
    clear b1 KS
    go_wp2_with fail
    refine (KB.out _).mono ?_
    rintro e w2 ⟨rfl, o2, b2⟩
    have HO2 := Lib.hid o2
    have HB2 : Hid (Below w.heap.size w w2) := HB1.out.trans (b2.mono HB1.out.size)
    have hg1 := HB1.out.size
    have hg2 := o2.lt
    clear b2 o2 KB
    generalize w1.heap.size = g at *
    clear HB1
    go_wp2
    go_loopw [30] (fun iv wr => ∃ k : Nat, k ≤ M ∧ iv = .int .i64 k ∧ Hid (OwnC wr g (colsC x (tstK T x k))) ∧ Hid (Below w.heap.size w wr)) (fun iv _ => M - (intOf iv).toNat)
    case atStart =>
      refine ⟨0, by omega, rfl, ?_, HB2.out⟩
      show OwnC _ _ _
      rw [HC0.out]
      exact HO2.out
    case round =>
      obtain ⟨k, hk, rfl, HO, HB⟩ := hrel
      by_cases hlt : k < M
      · have hlg : (k : Int) < (M : Int) := by omega
        have hkT : k < T.length := by have := HM.out; omega
        obtain ⟨ad, eA, hab, ⟨c0, c1⟩, hLT⟩ := (HA.out wr HB.out).at hkT
        subst eA
        have HLT : Hid (∀ W, Below w.heap.size w W → LiesT W B (T.getD k tt0).a (T.getD k tt0).n) := fun W h => by
          obtain ⟨_, _, _, _, h5⟩ := (HA.out W h).at hkT
          exact h5
        have KK := Lib.hid (fun W (h : Below w.heap.size w W) => KT.out k hkT W h)
        have HW := Lib.hid (HWT.out k hkT)
        have HOKk := Lib.hid (HOK.out k hkT)
        have HTSk := Lib.hid (HTS.out k)
        have hTK := HTK.out (k + 1) hkT
        rw [HTS.out k, List.length_append] at hTK
        have HTKk := Lib.hid hTK
        have hwl := way_len (N := (T.getD k tt0).n) (x := x) (T.getD k tt0).n.length 0
        have HX : Hid (Kpc w.heap.size w [(wr.heap.size, #[.int .i64 (T.getD k tt0).dim, .slice (T.getD k tt0).a (T.getD k tt0).n.length (T.getD k tt0).c], 24)] (wr.alloc (.cells #[.int .i64 (T.getD k tt0).dim, .slice (T.getD k tt0).a (T.getD k tt0).n.length (T.getD k tt0).c] 24))) := (show Kpc w.heap.size w [] wr from ⟨(fun x hx => absurd hx (by simp)), HB.out, HB.out.size⟩).alloc _ _
        have HO3 := Lib.hid (HO.out.below ((Below.refl _ _).alloc (Nat.le_refl _) (.cells #[.int .i64 (T.getD k tt0).dim, .slice (T.getD k tt0).a (T.getD k tt0).n.length (T.getD k tt0).c] 24)) HO.out.lt)
        have hgr := HO.out.lt
        obtain ⟨y0, y1⟩ := box_cut HX.out.head
        clear hTK hkT
        generalize tstT (T.getD k tt0).n x (T.getD k tt0).n.length 0 = TE at *
        generalize wayT (T.getD k tt0).n x (T.getD k tt0).n.length 0 = WY at *
        generalize T.getD k tt0 = t at *
        obtain ⟨td, ta, tc, tn⟩ := t
        simp only at *
        generalize tstK T x k = TK at *
        unfold GivesTrN at KK
        rw [hwl] at KK
        obtain ⟨m, hm⟩ : ∃ m, m = TE.length := ⟨_, rfl⟩
        have HMM := Lib.hid hm
        rw [← hm] at KK hwl HW
        clear hm
        have hmb : (m : Int) ≤ 100000 := by have := HTKk.out.2; have := HMM.out; omega
        go_wp2_with fail
        refine (KK.out _ HX.out.2.1).mono ?_
        rintro e w3 ⟨A3, c3, rfl, g1, -, g3, b3, hnew⟩
        have J3 := Lib.hid (HX.out.below b3)
        have HO4 := Lib.hid (HO3.out.below b3 HO3.out.lt)
        obtain ⟨ad3, eA3, ha3, hc3⟩ := g3 (by omega)
        subst eA3
        have hn3 := hnew ad3 rfl
        rw [alloc_size'] at hn3
        have hg3 : g ≠ ad3.block := by omega
        clear b3 y0 y1 g3 HO3 hnew KK
        have hgw : w.heap.size ≤ g := by omega
        have HT3 : Hid (Box w3 wr.heap.size #[.int .i64 td, .slice ta tn.length tc] 24) := J3.out.head
        have HWC : Hid (∀ W, w3.grownBy W (some g) → ∀ j, j < m + 1 → W.cell? (ad3.add j) = some (.int .i64 (WY.getD j 0))) := fun W h j hj => by
          rw [← hc3 j (by omega)]
          exact World.cell?_of_block (h.block _ (by rw [add_block]; exact ha3) (fun e => by rw [add_block] at e; cases e; exact hg3 rfl))
        have HTB : Hid (∀ W, w3.grownBy W (some g) → Box W wr.heap.size #[.int .i64 td, .slice ta tn.length tc] 24) := fun W h => (h.block _ HT3.out.lt (fun e => by cases e; omega)).trans HT3.out
        have HBW : Hid (∀ W, w3.grownBy W (some g) → Below w.heap.size w W) := fun W h => J3.out.2.1.grown h J3.out.2.2 (fun q hq => by cases hq; exact hgw)
        have y := box_cut HT3.out
        obtain ⟨y0, y1⟩ := y
        clear hc3
        have HLTq := Lib.hid (fun W (h : Below w.heap.size w W) q (hq : q < tn.length) => (HLT.out W h).at hq)
        have HLIE := Lib.hid (fun W (h : Below w.heap.size w W) q (hq : q < tn.length) => (HLT.out W h).2 _ (mem_tn hq))
        have HTEL : Hid (∀ j, j < m → TE.take (j + 1) = TE.take j ++ [TE.getD j ts0] ∧ TE.getD j ts0 ∈ TE) := fun j hj => by
          have hjl : j < TE.length := by have := HMM.out; omega
          rw [List.take_succ_eq_append_getElem hjl, List.getD_eq_getElem?_getD, List.getElem?_eq_getElem hjl]
          exact ⟨rfl, List.getElem_mem hjl⟩
        have HTFIN : Hid (OwnC w3 g (colsC x (TK ++ TE.take 0))) := by
          show OwnC _ _ _
          rw [List.take_zero, List.append_nil]
          exact HO4.out
        have HTM : Hid (colsC x (TK ++ TE.take m) = colsC x (tstK T x (k + 1))) := by
          show _ = _
          rw [HTSk.out, HMM.out, List.take_length]
        by_cases hc31 : c3 = 1
        · obtain rfl : m = 0 := by omega
          subst hc31
          go_wp2
          go_loopw [43] (fun jv wq => jv = .int .i64 0 ∧ wq = w3) (fun jv _ => 0)
          case atStart => exact ⟨rfl, rfl⟩
          case round =>
            obtain ⟨rfl, rfl⟩ := hrel
            go_wp2
            refine ⟨⟨k + 1, by omega, by go_num, ?_, J3.out.2.1⟩, by first | (simp [intOf]; done) | (simp [intOf]; omega)⟩
            show OwnC _ _ _
            rw [← HTM.out]
            exact HTFIN.out
        · have HEA : Hid ((⟨ad3.block, ad3.off + 1, none⟩ : Addr) = ad3.add 1) := by
            show (⟨ad3.block, ad3.off + 1, none⟩ : Addr) = ad3.add 1
            simp [Addr.add]
          go_wp2
          go_loopw [43] (fun jv wq => ∃ j : Nat, j ≤ m ∧ jv = .int .i64 j ∧ Hid (OwnC wq g (colsC x (TK ++ TE.take j))) ∧ Hid (w3.grownBy wq (some g))) (fun jv _ => m - (intOf jv).toNat)
          case atStart => exact ⟨0, by omega, rfl, HTFIN.out, grown_below (Below.refl _ _)⟩
          case round =>
            obtain ⟨j, hj, rfl, HOj, HG⟩ := hrel
            by_cases hjt : j < m
            · have hjg : (j : Int) < (m : Int) := by omega
              have hjg2 : (j : Int) < (m : Int) + 1 := by omega
              obtain ⟨q, hq, hw1, ht1⟩ := HW.out j hjt
              have v0 := HWC.out _ HG.out j (by omega)
              rw [hw1] at v0
              have v1 := HWC.out _ HG.out (j + 1) (by omega)
              have e9 : ad3.add (j + 1) = (⟨ad3.block, ad3.off + 1 + j, none⟩ : Addr) := by
                simp [Addr.add]
                omega
              rw [e9] at v1
              clear e9
              have HBq := Lib.hid (HBW.out _ HG.out)
              have yy := box_cut (HTB.out _ HG.out)
              have x0 := yy.1
              have x1 := yy.2
              clear yy y0 y1
              obtain ⟨ad4, eA4, _, ⟨n0, n1, n2, n3, n4⟩, _⟩ := HLTq.out _ HBq.out q hq
              subst eA4
              have HGz := Lib.hid (grown_trans HG.out (grown_below (r := some g) ((Below.refl wr.heap.size wr).alloc (Nat.le_refl _) (.cells #[.slice none 0 0, .int .i64 0, .int .i64 0, .int .i64 0, .int .i64 0] 81))))
              have v0z := HWC.out _ HGz.out j (by omega)
              rw [hw1] at v0z
              have yy := box_cut (HTB.out _ HGz.out)
              have x0z := yy.1
              have x1z := yy.2
              clear yy
              obtain ⟨ad5, eA5, _, ⟨n0z, n1z, n2z, n3z, n4z⟩, _⟩ := HLTq.out _ (HBW.out _ HGz.out) q hq
              cases eA5
              have hqg : (q : Int) < (tn.length : Int) := by omega
              have hcap := HOKk.out q hq
              have HLco := Lib.hid (fun W h => HLIE.out W h q hq)
              obtain ⟨t1, t2⟩ := HTEL.out j hjt
              have hok := HTKk.out.1 (TE.getD j ts0) (List.mem_append_right _ t2)
              have KP := Lib.hid (fun W (hb : Below w.heap.size w W) (ho : OwnC W g (colsC x (TK ++ TE.take j))) hl hc => exp_pass (TE.getD j ts0) x (tn.getD q tn0).a A2 (tn.getD q tn0).c c2 g B n (colsC x (TK ++ TE.take j)) W d0 hok HXV.out (colsC_len _ _) (fun i hi => colsC_st hi (by have := HTKk.out.2; have := HMM.out; rw [List.length_append, List.length_take]; omega)) hl (HXL.out W hb) (by omega) ho hc (by rw [← HN.out]; exact hxc))
              rw [colsC_step, List.append_assoc, ← t1, ht1, ← HN.out] at KP
              simp only at KP
              clear t1 t2 hok ht1 hw1 hq
              generalize WY.getD (j + 1) 0 = nx at *
              generalize tn.getD q tn0 = nd at *
              obtain ⟨na, nc, nco, nlv, nlf, nrt, nsz⟩ := nd
              simp only at n0 n1 n2 n3 n4 n0z n1z n2z n3z n4z KP HLco hcap
              have HB5 := Lib.hid (Box.new wr #[.slice na nco.length nc, .int .i64 nlv, .int .i64 nlf, .int .i64 nrt, .int .i64 nsz] 81)
              have hb5 := (Below.refl wr.heap.size wr).alloc (Nat.le_refl _) (.cells #[.slice na nco.length nc, .int .i64 nlv, .int .i64 nlf, .int .i64 nrt, .int .i64 nsz] 81)
              have HG5 := Lib.hid (grown_drew (grown_trans HG.out (grown_below (r := some g) hb5)))
              have HO5 := Lib.hid ((HOj.out.below hb5 HOj.out.lt).drewN 1)
              have KP5 := Lib.hid (KP.out _ (HBW.out _ HG5.out) HO5.out (HLco.out _ (HBW.out _ HG5.out)) hcap)
              clear KP HLco hb5
              go_wp2
              go_region
              obtain ⟨z0, z1, z2, z3, z4⟩ := box5' HB5.out
              go_wp2_with fail
              refine KP5.out.mono ?_
              rintro r w6 ⟨⟨rv, rfl⟩, o6, g6⟩
              have HO6 := Lib.hid o6
              have HG6 := Lib.hid (grown_trans HG5.out g6)
              clear o6 g6
              go_wp2
              exact ⟨⟨j + 1, by omega, by go_num, HO6.out, HG6.out⟩, by first | (simp [intOf]; done) | (simp [intOf]; omega)⟩
            · obtain rfl : j = m := by omega
              go_wp2
              refine ⟨⟨k + 1, by omega, by go_num, ?_, HBW.out _ HG.out⟩, by first | (simp [intOf]; done) | (simp [intOf]; omega)⟩
              show OwnC _ _ _
              rw [← HTM.out]
              exact HOj.out
      · obtain rfl : k = M := by omega
        go_wp2_with fail
        refine (KW.out g wr HO.out).mono ?_
        rintro e w4 ⟨rfl, o4, b4⟩
        have HO4 := Lib.hid o4
        have HB4 : Hid (Below w.heap.size w w4) := HB.out.trans (b4.mono HB.out.size)
        have hsz := HB.out.size
        go_wp2
        go_ret2
        refine ⟨some ⟨wr.heap.size, 0, none⟩, n, by simp [HCL.out, ← HN.out], fun _ => ⟨_, rfl, hsz, ?_⟩, HB4.out⟩
        exact HO4.out
  · have hv : whyV T x = ([], (sumV T x).2) := by unfold whyV; rw [if_neg h0]
    rw [hv]
    generalize (sumV T x).1 = s1 at *
    generalize (sumV T x).2 = s2 at *
    have hr : (s2 == 0) = false := by simpa using h0
    clear hv hl ho hA hx h0
    generalize T.length = M at *
    generalize x.length = LX at *
    go_enter Try.func21, Try.ntmps21
    go_wp2_with fail
    refine KS.out.mono ?_
    rintro e w1 ⟨rfl, b1⟩
    have HB1 := Lib.hid b1
    go_wp2
    go_ret2
    exact givesY_nil HB1.out
end Go.Proofs.Yteenemdiokajbaa
/-! Layer 16: Steps, Room, Main. -/
namespace Go.Proofs.Yteenemdiokajbaa
open Go.RowKit
set_option linter.unusedVariables false
set_option linter.unusedSimpArgs false

theorem one_tt {W : World} {g : Nat} {A : Option Addr} {N : List TN} {d : Int} {n c : Nat} (h : Box W g #[.int .i64 d, .slice A n c] 24) (hN : N.length = n) {B : Nat} (hg : g < B) (hl : LiesT W B A N) : LiesTs W B (some ⟨g, 0, none⟩) [⟨d, A, c, N⟩] := by
  refine ⟨fun _ => ⟨⟨g, 0, none⟩, rfl, hg, fun j hj => ?_⟩, fun t ht => ?_⟩
  · obtain rfl : j = 0 := by simpa using hj
    have e1 : ∀ m, (⟨g, 0, none⟩ : Addr).add m = ⟨g, m, none⟩ := fun m => by unfold Addr.add; split <;> simp_all
    rw [e1]
    exact ⟨by rw [h.cell]; simp, by rw [h.cell]; simp [hN]⟩
  · simp at ht
    subst ht
    exact hl
/-- what Steps tells -/
def stepsV (N : List TN) (d : Int) (x : List Int) : List Int × Int := ((whyV [⟨d, none, 0, N⟩] x).1.map CT.st, (whyV [⟨d, none, 0, N⟩] x).2)
theorem whyV_one (N : List TN) (d : Int) (a : Option Addr) (c : Nat) (x : List Int) : whyV [⟨d, a, c, N⟩] x = whyV [⟨d, none, 0, N⟩] x := rfl
/-- what Room tells -/
def roomV (N : List TN) (d : Int) (x : List Int) (k : Int) : Int × Int × Int :=
  if ¬ (whyV [⟨d, none, 0, N⟩] x).2 = 0 then (0, 0, (whyV [⟨d, none, 0, N⟩] x).2)
  else if 0 ≤ k ∧ k < (whyV [⟨d, none, 0, N⟩] x).1.length then (((whyV [⟨d, none, 0, N⟩] x).1.getD k.toNat ct0).lo, ((whyV [⟨d, none, 0, N⟩] x).1.getD k.toNat ct0).hi, 0) else (0, 0, 1)
/-- the first of the columns that are tested most, among the first k -/
def amK (L : List CT) : Nat → Nat
  | 0 => 0
  | k + 1 => if (L.getD (amK L k) ct0).st < (L.getD k ct0).st then k else amK L k
theorem amK_le (L : List CT) : ∀ k, amK L k ≤ k - 1
  | 0 => Nat.le_refl _
  | k + 1 => by
    have := amK_le L k
    rw [amK]
    split <;> omega
/-- what Main tells -/
def mainV (T : List TT) (x : List Int) : Int × Int :=
  if ¬ (whyV T x).2 = 0 then (0, (whyV T x).2) else if ((whyV T x).1.getD (amK (whyV T x).1 (whyV T x).1.length) ct0).st = 0 then (0, 4) else ((amK (whyV T x).1 (whyV T x).1.length : Int), 0)
theorem whyV_len {T : List TT} {x : List Int} (h : (whyV T x).2 = 0) : (whyV T x).1.length = x.length ∧ 0 < x.length ∧ x.length ≤ 8 := by
  unfold whyV at h ⊢
  by_cases h0 : (sumV T x).2 = 0
  · rw [if_pos h0]
    obtain ⟨_, _, _, hx⟩ := sumV_ok h0
    obtain ⟨h1, h2, h3, _⟩ := isV_iff.1 hx
    exact ⟨colsC_len _ _, by omega, by omega⟩
  · rw [if_neg h0] at h
    exact absurd h h0
theorem whyV_err {T : List TT} {x : List Int} (h : ¬ (whyV T x).2 = 0) : (whyV T x).1 = [] := by
  unfold whyV at h ⊢
  by_cases h0 : (sumV T x).2 = 0
  · rw [if_pos h0] at h
    exact absurd rfl h
  · rw [if_neg h0]
set_option maxRecDepth 100000 in
set_option maxHeartbeats 8000000 in
theorem exp_Steps (N : List TN) (d : Int) (A A2 : Option Addr) (x : List Int) (c c2 B : Nat) (w : World) (hl : N.length ≤ 1000) (ho : okT N) (hA : LiesT w B A N) (hx : Lies w B A2 x) (hxl : (x.length : Int) ≤ 9223372036854775807) (hxc : x.length ≤ c2) (hB : B ≤ w.heap.size) :
    Calls Try.prog 11 #[.agg #[.int .i64 d, .slice A N.length c], .slice A2 x.length c2] w (GivesTr (stepsV N d x) w) := by
  have HX0 := Lib.hid ((Kpc.start w).alloc #[.int .i64 d, .slice A N.length c] 24)
  have HX := Lib.hid (HX0.out.alloc #[.int .i64 d, .slice A N.length c] 24)
  rw [alloc_size'] at HX
  obtain ⟨y0, y1⟩ := box_cut HX0.out.head
  have KA := Lib.hid (exp_All [⟨d, A, c, N⟩] (some ⟨w.heap.size + 1, 0, none⟩) A2 x 1 c2 (w.heap.size + 2) _ (by simp) (fun t ht => by simp at ht; subst ht; exact ⟨ho, hl⟩) (one_tt HX.out.head rfl (by omega) ((hA.below (HX.out.2.1.mono hB)).mono (by omega))) ((hx.below (HX.out.2.1.mono hB)).mono (by omega)) hxl hxc (by rw [alloc_size', alloc_size']; exact Nat.le_refl _))
  rw [whyV_one] at KA
  have HLN := Lib.hid (whyV_len (T := [⟨d, none, 0, N⟩]) (x := x))
  have HLE := Lib.hid (whyV_err (T := [⟨d, none, 0, N⟩]) (x := x))
  unfold GivesY at KA
  unfold stepsV
  simp only [List.length_cons, List.length_nil] at KA
  generalize whyV [⟨d, none, 0, N⟩] x = Z at *
  obtain ⟨L, z⟩ := Z
  simp only at KA HLN HLE ⊢
  clear hA hx ho
  by_cases hz : z = 0
  · subst hz
    obtain ⟨hL, hn0, hn8⟩ := HLN.out rfl
    obtain ⟨n, hn⟩ : ∃ n, n = L.length := ⟨_, rfl⟩
    have HN := Lib.hid hn
    rw [← hn] at KA hL
    have hn1 : (n : Int) ≤ 8 := by omega
    have hnp : 0 < n := by omega
    clear hn hL HLN HLE
    generalize N.length = M at *
    generalize x.length = LX at *
    go_enter Try.func11, Try.ntmps11
    go_wp2_with fail
    refine KA.out.mono ?_
    rintro e w1 ⟨A1, c1, rfl, h1, b1⟩
    obtain ⟨g, rfl, hg, oy⟩ := h1 (by have := HN.out; omega)
    have HY := Lib.hid oy
    have HB1 := Lib.hid (HX.out.below (b1.mono (by simp))).2.1
    have hgl := oy.lt
    clear b1 oy h1 y0 y1 KA
    have hsz := HB1.out.size
    go_wp2_with (at_make; refine make_ints rfl (.tmp 22) (.tmp 22) rfl n rfl rfl (by omega) ?_; intro w2 ho2 hb2; have HO2 := Lib.hid ho2; have HB2 := Lib.hid hb2; clear ho2 hb2)
    go_loopw [26] (fun iv wr => ∃ (k : Nat) (l : List Int), k ≤ n ∧ iv = .int .i64 k ∧ Hid (l = (L.take k).map CT.st ++ List.replicate (n - k) 0) ∧ Hid (OwnI wr w1.heap.size l) ∧ Hid (Below w1.heap.size w1 wr)) (fun iv _ => n - (intOf iv).toNat)
    case atStart => exact ⟨0, List.replicate n 0, by omega, rfl, (by show _ = _; simp), HO2.out, HB2.out⟩
    case round =>
      obtain ⟨k, l, hk, rfl, HL, HO, HB⟩ := hrel
      have hll : l.length = n := by rw [HL.out, List.length_append, List.length_map, List.length_take, List.length_replicate, ← HN.out]; omega
      by_cases hlt : k < n
      · have hlg : (k : Int) < (n : Int) := by omega
        have HYr := Lib.hid (HY.out.below HB.out hgl)
        obtain ⟨u0, u1, u2⟩ := HYr.out.at (k := k) (by have := HN.out; omega)
        have HST : Hid (l.set k (L.getD k ct0).st = (L.take (k + 1)).map CT.st ++ List.replicate (n - (k + 1)) 0) := by
          show _ = _
          obtain ⟨r, hr⟩ : ∃ r, n - k = r + 1 := ⟨n - k - 1, by omega⟩
          have hkl : k < L.length := by have := HN.out; omega
          have e : L.take (k + 1) = L.take k ++ [L.getD k ct0] := by
            rw [List.take_succ_eq_append_getElem hkl, List.getD_eq_getElem?_getD, List.getElem?_eq_getElem hkl]
            rfl
          have hl2 : ((L.take k).map CT.st).length = k := by rw [List.length_map, List.length_take]; omega
          rw [HL.out, hr, show n - (k + 1) = r from by omega, List.set_append_right _ _ (by omega), List.replicate_succ, hl2, Nat.sub_self, List.set_cons_zero, e, List.map_append, List.append_assoc]
          rfl
        generalize L.getD k ct0 = t at *
        obtain ⟨ts, tl, th⟩ := t
        simp only at u0 u1 u2 HST
        have hbx := Lib.hid (Box.new wr #[.int .i64 ts, .int .i64 tl, .int .i64 th] 47)
        have hb5 := (Below.refl wr.heap.size wr).alloc (Nat.le_refl _) (.cells #[.int .i64 ts, .int .i64 tl, .int .i64 th] 47)
        have HO5 := Lib.hid (HO.out.below hb5 HO.out.lt)
        have HB5 := Lib.hid (HB.out.trans (hb5.mono HB.out.size))
        have b0 := hbx.out.cell 0
        have u5 := HO5.out.cell (k := k) (by omega)
        have f5 := HO5.out.free k
        have HO6 := Lib.hid (HO5.out.set (k := k) (by omega) ts)
        clear hb5
        go_wp2
        exact ⟨⟨k + 1, l.set k ts, by omega, by go_num, HST.out, HO6.out, HB5.out.setCell (p := ⟨w1.heap.size, k, none⟩) (Nat.le_refl _) _⟩, by first | (simp [intOf]; done) | (simp [intOf]; omega)⟩
      · obtain rfl : k = n := by omega
        have HLF : Hid (l = L.map CT.st) := by
          show _ = _
          rw [HL.out, Nat.sub_self, HN.out, List.take_length]
          simp
        go_wp2
        go_ret2
        rw [HLF.out] at HO hll
        refine ⟨some ⟨w1.heap.size, 0, none⟩, k, by simp [← HN.out], by rw [hll]; exact Nat.le_refl _, by unfold maxLen; omega, HO.out.lies, HB1.out.trans (HB.out.mono hsz)⟩
  · have hz0 : (z == 0) = false := by simpa using hz
    obtain rfl := HLE.out hz
    clear HLN HLE
    generalize N.length = M at *
    generalize x.length = LX at *
    simp only [List.length_nil] at KA
    go_enter Try.func11, Try.ntmps11
    go_wp2_with fail
    refine KA.out.mono ?_
    rintro e w1 ⟨A1, c1, rfl, -, b1⟩
    have HB1 := Lib.hid (HX.out.below (b1.mono (by simp))).2.1
    go_wp2
    go_ret2
    exact givesTr_nil HB1.out
set_option maxRecDepth 100000 in
set_option maxHeartbeats 8000000 in
theorem exp_Room (N : List TN) (d : Int) (A A2 : Option Addr) (x : List Int) (c c2 B : Nat) (k : Int) (w : World) (hl : N.length ≤ 1000) (ho : okT N) (hA : LiesT w B A N) (hx : Lies w B A2 x) (hxl : (x.length : Int) ≤ 9223372036854775807) (hxc : x.length ≤ c2) (hB : B ≤ w.heap.size) :
    Calls Try.prog 13 #[.agg #[.int .i64 d, .slice A N.length c], .slice A2 x.length c2, .int .i64 k] w fun e w' => e = .returned (.tuple #[.int .i64 (roomV N d x k).1, .int .i64 (roomV N d x k).2.1, .int .i64 (roomV N d x k).2.2]) ∧ Below w.heap.size w w' := by
  have HX0 := Lib.hid ((Kpc.start w).alloc #[.int .i64 d, .slice A N.length c] 24)
  have HX := Lib.hid (HX0.out.alloc #[.int .i64 d, .slice A N.length c] 24)
  rw [alloc_size'] at HX
  obtain ⟨y0, y1⟩ := box_cut HX0.out.head
  have KA := Lib.hid (exp_All [⟨d, A, c, N⟩] (some ⟨w.heap.size + 1, 0, none⟩) A2 x 1 c2 (w.heap.size + 2) _ (by simp) (fun t ht => by simp at ht; subst ht; exact ⟨ho, hl⟩) (one_tt HX.out.head rfl (by omega) ((hA.below (HX.out.2.1.mono hB)).mono (by omega))) ((hx.below (HX.out.2.1.mono hB)).mono (by omega)) hxl hxc (by rw [alloc_size', alloc_size']; exact Nat.le_refl _))
  rw [whyV_one] at KA
  have HLN := Lib.hid (whyV_len (T := [⟨d, none, 0, N⟩]) (x := x))
  unfold GivesY at KA
  unfold roomV
  simp only [List.length_cons, List.length_nil] at KA
  generalize whyV [⟨d, none, 0, N⟩] x = Z at *
  obtain ⟨L, z⟩ := Z
  simp only at KA HLN ⊢
  clear hA hx ho
  by_cases hz : z = 0
  · subst hz
    rw [if_neg (by simp)]
    obtain ⟨hL, hn0, hn8⟩ := HLN.out rfl
    by_cases hk : 0 ≤ k ∧ k < (L.length : Int)
    · rw [if_pos hk]
      obtain ⟨j, rfl⟩ : ∃ j : Nat, k = j := ⟨k.toNat, by omega⟩
      rw [Int.toNat_natCast]
      obtain ⟨n, hn⟩ : ∃ n, n = L.length := ⟨_, rfl⟩
      have HN := Lib.hid hn
      rw [← hn] at KA hL hk
      have hn1 : (n : Int) ≤ 8 := by omega
      have hnp : 0 < n := by omega
      obtain ⟨hk1, hk2⟩ := hk
      clear hn hL HLN
      generalize N.length = M at *
      generalize x.length = LX at *
      go_enter Try.func13, Try.ntmps13
      go_wp2_with fail
      refine KA.out.mono ?_
      rintro e w1 ⟨A1, c1, rfl, h1, b1⟩
      obtain ⟨g, rfl, hg, oy⟩ := h1 (by have := HN.out; omega)
      have HB1 := Lib.hid (HX.out.below (b1.mono (by simp))).2.1
      obtain ⟨u0, u1, u2⟩ := oy.at (k := j) (by have := HN.out; omega)
      have HBd := Lib.hid (fun m => below_drewN2 HB1.out m)
      clear b1 oy h1 y0 y1 KA HX HX0
      go_wp2
      go_quiet (fail)
      go_wp2
      go_ret3
      exact ⟨by simp, HBd.out _⟩
    · rw [if_neg hk]
      obtain ⟨n, hn⟩ : ∃ n, n = L.length := ⟨_, rfl⟩
      rw [← hn] at KA hL hk
      clear HLN
      generalize N.length = M at *
      generalize x.length = LX at *
      by_cases hk0 : k < 0
      · go_enter Try.func13, Try.ntmps13
        go_wp2_with fail
        refine KA.out.mono ?_
        rintro e w1 ⟨A1, c1, rfl, -, b1⟩
        have HB1 := Lib.hid (HX.out.below (b1.mono (by simp))).2.1
        go_wp2
        go_ret3
        exact ⟨by simp, HB1.out⟩
      · have hk3 : ¬ k < (n : Int) := by omega
        go_enter Try.func13, Try.ntmps13
        go_wp2_with fail
        refine KA.out.mono ?_
        rintro e w1 ⟨A1, c1, rfl, -, b1⟩
        have HB1 := Lib.hid (HX.out.below (b1.mono (by simp))).2.1
        go_wp2
        go_ret3
        exact ⟨by simp, HB1.out⟩
  · have hz0 : (z == 0) = false := by simpa using hz
    rw [if_pos hz]
    clear HLN
    generalize N.length = M at *
    generalize x.length = LX at *
    generalize L.length = n at *
    go_enter Try.func13, Try.ntmps13
    go_wp2_with fail
    refine KA.out.mono ?_
    rintro e w1 ⟨A1, c1, rfl, -, b1⟩
    have HB1 := Lib.hid (HX.out.below (b1.mono (by simp))).2.1
    go_wp2
    go_ret3
    exact ⟨by simp, HB1.out⟩
set_option maxRecDepth 100000 in
set_option maxHeartbeats 8000000 in
theorem exp_Main (T : List TT) (A A2 : Option Addr) (x : List Int) (c c2 B : Nat) (w : World) (hl : T.length ≤ 1000000) (ho : okTs T) (hA : LiesTs w B A T) (hx : Lies w B A2 x) (hxl : (x.length : Int) ≤ 9223372036854775807) (hxc : x.length ≤ c2) (hB : B ≤ w.heap.size) :
    Calls Try.prog 23 #[.slice A T.length c, .slice A2 x.length c2] w fun e w' => e = .returned (.tuple #[.int .i64 (mainV T x).1, .int .i64 (mainV T x).2]) ∧ Below w.heap.size w w' := by
  have KA := Lib.hid (exp_All T A A2 x c c2 B w hl ho hA hx hxl hxc hB)
  have HLN := Lib.hid (whyV_len (T := T) (x := x))
  unfold GivesY at KA
  unfold mainV
  generalize whyV T x = Z at *
  obtain ⟨L, z⟩ := Z
  simp only at KA HLN ⊢
  clear hA hx ho
  by_cases hz : z = 0
  · subst hz
    rw [if_neg (by simp)]
    obtain ⟨hL, hn0, hn8⟩ := HLN.out rfl
    have HAM := Lib.hid (amK_le L)
    have HAS : Hid (∀ k, amK L (k + 1) = if (L.getD (amK L k) ct0).st < (L.getD k ct0).st then k else amK L k) := fun k => rfl
    have HA0 : Hid (amK L 0 = 0) := rfl
    obtain ⟨n, hn⟩ : ∃ n, n = L.length := ⟨_, rfl⟩
    have HN := Lib.hid hn
    rw [← hn] at KA hL ⊢
    obtain ⟨R, hR⟩ : ∃ R : Int × Int, R = (if (L.getD (amK L n) ct0).st = 0 then ((0 : Int), (4 : Int)) else ((amK L n : Int), 0)) := ⟨_, rfl⟩
    have HR1 : Hid ((L.getD (amK L n) ct0).st = 0 → R = (0, 4)) := fun h => by rw [hR, if_pos h]
    have HR2 : Hid (¬ (L.getD (amK L n) ct0).st = 0 → R = ((amK L n : Int), 0)) := fun h => by rw [hR, if_neg h]
    rw [← hR]
    clear hR
    have hn1 : (n : Int) ≤ 8 := by omega
    have hnp : 0 < n := by omega
    clear hn hL HLN
    generalize amK L = am at *
    generalize T.length = M at *
    generalize x.length = LX at *
    go_enter Try.func23, Try.ntmps23
    go_wp2_with fail
    refine KA.out.mono ?_
    rintro e w1 ⟨A1, c1, rfl, h1, b1⟩
    obtain ⟨g, rfl, hg, oy⟩ := h1 (by have := HN.out; omega)
    have HY := Lib.hid oy
    have hgl := oy.lt
    have HB1 := Lib.hid b1
    clear b1 oy h1 KA
    have hsz := HB1.out.size
    go_wp2
    go_loopw [8, 22] (fun fv iv wr => ∃ k : Nat, k ≤ n ∧ iv = .int .i64 k ∧ fv = .int .i64 ((am k : Nat) : Int) ∧ Hid (Below w1.heap.size w1 wr)) (fun _ iv _ => n - (intOf iv).toNat)
    case atStart => exact ⟨0, by omega, rfl, by rw [HA0.out]; rfl, Below.refl _ _⟩
    case round =>
      obtain ⟨k, hk, rfl, rfl, HB⟩ := hrel
      have ham := HAM.out k
      by_cases hlt : k < n
      · have hlg : (k : Int) < (n : Int) := by omega
        have hag : ((am k : Nat) : Int) < (n : Int) := by omega
        have HYr := Lib.hid (HY.out.below HB.out hgl)
        obtain ⟨u0, u1, u2⟩ := HYr.out.at (k := k) (by have := HN.out; omega)
        have hb5 := (Below.refl wr.heap.size wr).alloc (Nat.le_refl _) (.cells #[.int .i64 (L.getD k ct0).st, .int .i64 (L.getD k ct0).lo, .int .i64 (L.getD k ct0).hi] 47)
        have hbx := Lib.hid (Box.new wr #[.int .i64 (L.getD k ct0).st, .int .i64 (L.getD k ct0).lo, .int .i64 (L.getD k ct0).hi] 47)
        have HB5 := Lib.hid (HB.out.trans (hb5.mono HB.out.size))
        have HYs := Lib.hid (HYr.out.below hb5 HYr.out.lt)
        have v0 := (HYs.out.at (k := am k) (by have := HN.out; omega)).1
        have HSk := Lib.hid (HAS.out k)
        have b0 := hbx.out.cell 0
        clear hb5 HYs
        generalize (L.getD k ct0).lo = tl at *
        generalize (L.getD k ct0).hi = th at *
        generalize (L.getD k ct0).st = ts at *
        generalize (L.getD (am k) ct0).st = sA at *
        have HBd := Lib.hid (fun m => below_drewN2 HB5.out m)
        by_cases hgt : sA < ts
        · have HS2 : Hid (am (k + 1) = k) := by
            show _ = _
            rw [HSk.out, if_pos hgt]
          go_wp2
          go_quiet (fail)
          go_wp2
          exact ⟨⟨k + 1, by omega, by go_num, by rw [HS2.out], HBd.out _⟩, by first | (simp [intOf]; done) | (simp [intOf]; omega)⟩
        · have HS2 : Hid (am (k + 1) = am k) := by
            show _ = _
            rw [HSk.out, if_neg hgt]
          go_wp2
          go_quiet (fail)
          go_wp2
          exact ⟨⟨k + 1, by omega, by go_num, by rw [HS2.out], HBd.out _⟩, by first | (simp [intOf]; done) | (simp [intOf]; omega)⟩
      · obtain rfl : k = n := by omega
        have HYr := Lib.hid (HY.out.below HB.out hgl)
        have v0 := (HYr.out.at (k := am k) (by have := HN.out; omega)).1
        have hag : ((am k : Nat) : Int) < (k : Int) := by omega
        have hfin := Lib.hid (HB1.out.trans (HB.out.mono hsz))
        generalize (L.getD (am k) ct0).st = sA at *
        by_cases hs0 : sA = 0
        · have HRR := Lib.hid (HR1.out hs0)
          subst hs0
          go_wp2
          go_ret2
          rw [HRR.out]
          exact ⟨by simp, hfin.out⟩
        · have hs1 : (sA == 0) = false := by simpa using hs0
          have HRR := Lib.hid (HR2.out hs0)
          go_wp2
          go_ret2
          rw [HRR.out]
          exact ⟨by simp, hfin.out⟩
  · have hz0 : (z == 0) = false := by simpa using hz
    rw [if_pos hz]
    clear HLN
    generalize T.length = M at *
    generalize x.length = LX at *
    generalize L.length = n at *
    go_enter Try.func23, Try.ntmps23
    go_wp2_with fail
    refine KA.out.mono ?_
    rintro e w1 ⟨A1, c1, rfl, -, b1⟩
    have HB1 := Lib.hid b1
    go_wp2
    go_ret2
    exact ⟨by simp, HB1.out⟩
end Go.Proofs.Yteenemdiokajbaa
/-! Layer 16: what lives. -/
namespace Go.Proofs.Yteenemdiokajbaa
open Go.RowKit
set_option linter.unusedVariables false
set_option linter.unusedSimpArgs false

abbrev N5 (a b : Option Addr) : List TN := [⟨a, 1, [1], 3, 1, 4, 3⟩, ⟨b, 1, [1], 2, 2, 3, 2⟩, ⟨none, 0, [], 0, 0, 0, 1⟩, ⟨none, 0, [], 0, 0, 0, 1⟩, ⟨none, 0, [], 0, 0, 0, 1⟩]
theorem n5_one (a b d : Option Addr) (c : Nat) : whyV [⟨1, d, c, N5 a b⟩] [2] = ([⟨2, 2, 2⟩], 0) := by kernel_rfl
theorem n5_two (a b d : Option Addr) : whyV [⟨1, d, 5, N5 a b⟩, ⟨1, d, 5, N5 a b⟩] [2] = ([⟨4, 2, 2⟩], 0) := by kernel_rfl
theorem n5_nine (a b d : Option Addr) (c : Nat) : whyV [⟨1, d, c, N5 a b⟩] [9] = ([⟨1, 3, 2147483647⟩], 0) := by kernel_rfl
theorem n5_steps (a b : Option Addr) : stepsV (N5 a b) 1 [2] = ([2], 0) := by unfold stepsV; rw [n5_one]; rfl
theorem n5_room (a b : Option Addr) : roomV (N5 a b) 1 [9] 0 = (3, 2147483647, 0) := by unfold roomV; rw [n5_nine]; kernel_rfl
theorem n5_room1 (a b : Option Addr) : roomV (N5 a b) 1 [2] 1 = (0, 0, 1) := by unfold roomV; rw [n5_one]; kernel_rfl
theorem n5_main (a b d : Option Addr) : mainV [⟨1, d, 5, N5 a b⟩] [2] = (0, 0) := by unfold mainV; rw [n5_one]; kernel_rfl
theorem n5_ok (a b : Option Addr) : okT (N5 a b) := by
  intro n hn
  simp at hn
  rcases hn with rfl | rfl | rfl | rfl | rfl <;> simp [I64]
set_option maxRecDepth 100000 in
set_option maxHeartbeats 4000000 in
theorem three16 (w : World) : Calls Try.prog 42 #[] w fun e w' => ∃ A0 A1 A2, e = .returned (.agg #[.int .i64 1, .slice A2 5 5]) ∧ LiesT w' w'.heap.size A2 (N5 A0 A1) ∧ Below w.heap.size w w' := by
  have J := Lib.hid (((((Kpc.start w).alloc #[.int .i64 1, .slice (some ⟨w.heap.size + 1 + 1 + 1, 0, none⟩) 5 5] 24).alloc #[.int .i64 1] 3).alloc #[.int .i64 1] 3).alloc (ndL (M10 (w.heap.size + 1) (w.heap.size + 1 + 1))).toArray 81)
  simp only [alloc_size'] at J
  have HL := Lib.hid (m10_lies J.out.tail.tail.head J.out.tail.head J.out.head rfl)
  have HB := Lib.hid J.out.2.1
  obtain ⟨x0, x1⟩ := box_cut J.out.tail.tail.tail.head
  have e : (ndL (M10 (w.heap.size + 1) (w.heap.size + 1 + 1))).toArray = #[.slice (some ⟨w.heap.size + 1, 0, none⟩) 1 1, .int .i64 3, .int .i64 1, .int .i64 4, .int .i64 3, .slice (some ⟨w.heap.size + 1 + 1, 0, none⟩) 1 1, .int .i64 2, .int .i64 2, .int .i64 3, .int .i64 2, .slice none 0 0, .int .i64 0, .int .i64 0, .int .i64 0, .int .i64 1, .slice none 0 0, .int .i64 0, .int .i64 0, .int .i64 0, .int .i64 1, .slice none 0 0, .int .i64 0, .int .i64 0, .int .i64 0, .int .i64 1] := rfl
  rw [e] at x0 x1 HL HB
  clear J e
  go_enter Try.func42, Try.ntmps42
  go_wp2
  refine bodyPost_ret (v := .agg #[.int .i64 1, .slice (some ⟨w.heap.size + 1 + 1 + 1, 0, none⟩) 5 5]) ?_ rfl ⟨some ⟨w.heap.size + 1, 0, none⟩, some ⟨w.heap.size + 1 + 1, 0, none⟩, _, rfl, HL.out, HB.out⟩
  simp only [results, show Try.f42.results = #[.cell 0 24] from rfl]
  go_simp
theorem two_t5 {W : World} {g : Nat} {A : Option Addr} {N : List TN} (h : Box W g #[.int .i64 1, .slice A 5 5, .int .i64 1, .slice A 5 5] 24) (hN : N.length = 5) (hl : LiesT W W.heap.size A N) : LiesTs W W.heap.size (some ⟨g, 0, none⟩) [⟨1, A, 5, N⟩, ⟨1, A, 5, N⟩] := by
  refine ⟨fun _ => ⟨⟨g, 0, none⟩, rfl, h.lt, fun j hj => ?_⟩, fun t ht => ?_⟩
  · have e1 : ∀ m, (⟨g, 0, none⟩ : Addr).add m = ⟨g, m, none⟩ := fun m => by unfold Addr.add; split <;> simp_all
    rw [e1]
    match j, hj with
    | 0, _ => exact ⟨by rw [h.cell]; simp, by rw [h.cell]; simp [hN]⟩
    | 1, _ => exact ⟨by rw [h.cell]; simp, by rw [h.cell]; simp [hN]⟩
    | k + 2, hj => exact absurd hj (by simp)
  · simp at ht
    subst ht
    exact hl
set_option maxRecDepth 100000 in
set_option maxHeartbeats 8000000 in
theorem lives16 (w : World) : Calls Try.prog 10 #[] w fun e w' => e = .returned (.bool true) ∧ Below w.heap.size w w' := by
  go_enter Try.func10, Try.ntmps10
  go_wp2_with fail
  refine (three16 _).mono ?_
  rintro e w1 ⟨A0, A1, AN, rfl, l1, b1⟩
  have J1 := Lib.hid (((Kpc.start w).below b1).alloc #[.int .i64 1, .slice AN 5 5] 24)
  have HL1 := Lib.hid (liesT_up l1 ((Below.refl _ _).alloc (Nat.le_refl _) (.cells #[.int .i64 1, .slice AN 5 5] 24)))
  have KS := Lib.hid (fun W A2 (hA : LiesT W W.heap.size AN (N5 A0 A1)) (hx : Lies W W.heap.size A2 [2]) => exp_Steps (N5 A0 A1) 1 AN A2 [2] 5 1 W.heap.size W (by simp) (n5_ok A0 A1) hA hx (by simp) (by simp) (Nat.le_refl _))
  have KR := Lib.hid (fun W A2 (hA : LiesT W W.heap.size AN (N5 A0 A1)) (hx : Lies W W.heap.size A2 [9]) => exp_Room (N5 A0 A1) 1 AN A2 [9] 5 1 W.heap.size 0 W (by simp) (n5_ok A0 A1) hA hx (by simp) (by simp) (Nat.le_refl _))
  have KR1 := Lib.hid (fun W A2 (hA : LiesT W W.heap.size AN (N5 A0 A1)) (hx : Lies W W.heap.size A2 [2]) => exp_Room (N5 A0 A1) 1 AN A2 [2] 5 1 W.heap.size 1 W (by simp) (n5_ok A0 A1) hA hx (by simp) (by simp) (Nat.le_refl _))
  have KA := Lib.hid (fun W AT A2 (hA : LiesTs W W.heap.size AT [⟨1, AN, 5, N5 A0 A1⟩, ⟨1, AN, 5, N5 A0 A1⟩]) (hx : Lies W W.heap.size A2 [2]) => exp_All [⟨1, AN, 5, N5 A0 A1⟩, ⟨1, AN, 5, N5 A0 A1⟩] AT A2 [2] 2 1 W.heap.size W (by simp) (fun t ht => by simp at ht; subst ht; exact ⟨n5_ok A0 A1, by simp⟩) hA hx (by simp) (by simp) (Nat.le_refl _))
  have KM := Lib.hid (fun W AT A2 (hA : LiesTs W W.heap.size AT [⟨1, AN, 5, N5 A0 A1⟩]) (hx : Lies W W.heap.size A2 [2]) => exp_Main [⟨1, AN, 5, N5 A0 A1⟩] AT A2 [2] 1 1 W.heap.size W (by simp) (fun t ht => by simp at ht; subst ht; exact ⟨n5_ok A0 A1, by simp⟩) hA hx (by simp) (by simp) (Nat.le_refl _))
  have HT2 := Lib.hid (fun (W : World) (g : Nat) h hl => two_t5 (W := W) (g := g) (A := AN) (N := N5 A0 A1) h rfl hl)
  have HT1 := Lib.hid (fun (W : World) (g : Nat) h hg hl => one_tt (W := W) (g := g) (A := AN) (N := N5 A0 A1) (d := 1) (n := 5) (c := 5) h rfl (B := W.heap.size) hg hl)
  rw [n5_steps] at KS
  rw [n5_room] at KR
  rw [n5_room1] at KR1
  rw [n5_two] at KA
  rw [n5_main] at KM
  unfold GivesTr at KS
  unfold GivesY at KA
  simp only [List.length_cons, List.length_nil] at KS KR KR1 KA KM
  clear l1 b1
  generalize N5 A0 A1 = M at *
  have J2 := Lib.hid (J1.out.alloc #[.int .i64 2] 3)
  have HL2 := Lib.hid (liesT_up HL1.out ((Below.refl _ _).alloc (Nat.le_refl _) (.cells #[.int .i64 2] 3)))
  simp only [alloc_size'] at J2
  obtain ⟨x0, x1, _, _⟩ := J2.out.tail.head.two
  obtain ⟨x2, x3, _, _⟩ := J1.out.head.two
  go_wp2_with fail
  refine (KS.out _ _ HL2.out (boxLies J2.out.head rfl)).mono ?_
  rintro e w2 ⟨A2, c2, rfl, g1, g2, g3, b2⟩
  have J3 := Lib.hid (J2.out.below b2).tail
  have HL3 := Lib.hid (liesT_up HL2.out b2)
  have HS3 := Lib.hid g3
  clear b2 x0 x1 x2 x3 KS g3
  have J4 := Lib.hid (J3.out.alloc #[.int .i64 9] 3)
  have bx4 := (Below.refl w2.heap.size w2).alloc (Nat.le_refl _) (.cells #[.int .i64 9] 3)
  have HL4 := Lib.hid (liesT_up HL3.out bx4)
  have HS4 := Lib.hid ((HS3.out.below bx4).mono bx4.size)
  clear bx4
  obtain ⟨x0, x1, _, _⟩ := J3.out.head.two
  go_wp2_with fail
  refine (KR.out _ _ HL4.out (boxLies J4.out.head rfl)).mono ?_
  rintro e w3 ⟨rfl, b3⟩
  have J5 := Lib.hid (J4.out.below b3).tail
  have HL5 := Lib.hid (liesT_up HL4.out b3)
  have HS5 := Lib.hid ((HS4.out.below b3).mono b3.size)
  clear b3 x0 x1 KR
  obtain ⟨x0, x1, _, _⟩ := J5.out.head.two
  have J6 := Lib.hid ((J5.out.alloc #[.int .i64 1, .slice AN 5 5, .int .i64 1, .slice AN 5 5] 24).alloc #[.int .i64 2] 3)
  have bx6 := (((Below.refl w3.heap.size w3).alloc (Nat.le_refl _) (.cells #[.int .i64 1, .slice AN 5 5, .int .i64 1, .slice AN 5 5] 24)).alloc (by rw [alloc_size']; omega) (.cells #[.int .i64 2] 3))
  have HL6 := Lib.hid (liesT_up HL5.out bx6)
  have HS6 := Lib.hid ((HS5.out.below bx6).mono bx6.size)
  simp only [alloc_size'] at J6
  clear bx6
  go_wp2_with fail
  refine (KA.out _ _ _ (HT2.out _ _ J6.out.tail.head HL6.out) (boxLies J6.out.head rfl)).mono ?_
  rintro e w4 ⟨A7, c7, rfl, h7, b4⟩
  obtain ⟨g7, rfl, hg7, oy⟩ := h7 (by simp)
  have HY7 := Lib.hid oy
  have J7 := Lib.hid ((J6.out.below b4).tail.tail)
  have HL7 := Lib.hid (liesT_up HL6.out b4)
  have HS7 := Lib.hid ((HS6.out.below b4).mono b4.size)
  clear b4 x0 x1 KA HT2 oy h7 hg7
  obtain ⟨x0, x1, _, _⟩ := J7.out.head.two
  have J8 := Lib.hid ((J7.out.alloc #[.int .i64 1, .slice AN 5 5] 24).alloc #[.int .i64 2] 3)
  have bx8 := (((Below.refl w4.heap.size w4).alloc (Nat.le_refl _) (.cells #[.int .i64 1, .slice AN 5 5] 24)).alloc (by rw [alloc_size']; omega) (.cells #[.int .i64 2] 3))
  have HL8 := Lib.hid (liesT_up HL7.out bx8)
  have HS8 := Lib.hid ((HS7.out.below bx8).mono bx8.size)
  have HY8 := Lib.hid (HY7.out.below bx8 HY7.out.lt)
  simp only [alloc_size'] at J8
  clear bx8
  go_wp2_with fail
  refine (KM.out _ _ _ (HT1.out _ _ J8.out.tail.head J8.out.tail.head.lt HL8.out) (boxLies J8.out.head rfl)).mono ?_
  rintro e w5 ⟨rfl, b5⟩
  have J9 := Lib.hid ((J8.out.below b5).tail.tail)
  have HL9 := Lib.hid (liesT_up HL8.out b5)
  have HS9 := Lib.hid ((HS8.out.below b5).mono b5.size)
  have HY9 := Lib.hid (HY8.out.below b5 HY8.out.lt)
  clear b5 x0 x1 KM HT1
  obtain ⟨x0, x1, _, _⟩ := J9.out.head.two
  have J10 := Lib.hid (J9.out.alloc #[.int .i64 2] 3)
  have bx10 := (Below.refl w5.heap.size w5).alloc (Nat.le_refl _) (.cells #[.int .i64 2] 3)
  have HL10 := Lib.hid (liesT_up HL9.out bx10)
  have HS10 := Lib.hid ((HS9.out.below bx10).mono bx10.size)
  have HY10 := Lib.hid (HY9.out.below bx10 HY9.out.lt)
  clear bx10
  go_wp2_with fail
  refine (KR1.out _ _ HL10.out (boxLies J10.out.head rfl)).mono ?_
  rintro e w6 ⟨rfl, b6⟩
  have J11 := Lib.hid ((J10.out.below b6).tail)
  have HS11 := Lib.hid ((HS10.out.below b6).mono b6.size)
  have HY11 := Lib.hid (HY10.out.below b6 HY10.out.lt)
  clear b6 x0 x1 KR1
  have J12 := Lib.hid (J11.out.alloc #[.int .i64 2] 3)
  have bx12 := (Below.refl w6.heap.size w6).alloc (Nat.le_refl _) (.cells #[.int .i64 2] 3)
  have HS12 := Lib.hid ((HS11.out.below bx12).mono bx12.size)
  have HY12 := Lib.hid (HY11.out.below bx12 HY11.out.lt)
  clear bx12
  have KQ := Lib.hid (ref_same1 A2 (some ⟨w6.heap.size, 0, none⟩) [2] [2] c2 1 _ _ HS12.out (boxLies J12.out.head rfl) (by simp) (by simp))
  simp only [List.length_cons, List.length_nil] at KQ
  obtain ⟨y0, y1, y2⟩ := HY12.out.at (k := 0) (by simp)
  go_wp2_with fail
  refine KQ.out.mono ?_
  rintro e w8 ⟨rfl, n8, rfl⟩
  go_wp2
  go_ret
  exact ⟨rfl, below_drewN2 J12.out.2.1 _⟩
end Go.Proofs.Yteenemdiokajbaa
/-! Layer 16: With; the lengths with another value of the room. -/
namespace Go.Proofs.Yteenemdiokajbaa
open Go.RowKit
set_option linter.unusedVariables false
set_option linter.unusedSimpArgs false

set_option maxRecDepth 100000 in
set_option maxHeartbeats 4000000 in
theorem ref_With (A : Option Addr) (x : List Int) (c B k : Nat) (v : Int) (w : World) (hx : Lies w B A x) (hk : k < x.length) (hn : x.length ≤ 1000) : Calls Try.prog 19 #[.slice A x.length c, .int .i64 k, .int .i64 v] w fun e w' => ∃ g c', e = .returned (.slice (some ⟨g, 0, none⟩) x.length c') ∧ x.length ≤ c' ∧ w.heap.size ≤ g ∧ OwnI w' g (x.set k v) ∧ Below w.heap.size w w' := by
  obtain ⟨ad, eA, hab, hc⟩ := hx (by omega)
  subst eA
  have hsz : ad.block < w.heap.size := by
    have := hc 0 (by omega)
    have h2 := World.block_lt_of_cell? w (ad.add 0) this
    rw [add_block] at h2
    exact h2
  have HC : Hid (∀ j, j < x.length → (w.alloc (.cells #[] 3)).cell? (ad.add j) = some (.int .i64 (x.getD j 0))) := fun j hj => by
    rw [← hc j hj]
    exact ((Below.refl w.heap.size w).alloc (Nat.le_refl _) (.cells #[] 3)).cell (by rw [add_block]; exact hsz)
  have HL : Hid ((x.set k v).length = x.length) := by show _ = _; rw [List.length_set]
  clear hc hx
  obtain ⟨n, hnn⟩ : ∃ n, n = x.length := ⟨_, rfl⟩
  have HN := Lib.hid hnn.symm
  rw [← hnn] at hk hn HC HL ⊢
  clear hnn
  have hkg : (k : Int) < (n : Int) := by omega
  have hn0 : 0 < n := by omega
  go_enter Try.func19, Try.ntmps19
  go_wp2_with (at_builtin; refine app_copy rfl (.tmp 8) (.tmp 9) rfl _ ad x n c HN.out rfl rfl (fun j hj => HC.out j (by have := HN.out; omega)) hn0 hn ?_; intro g c' w' hc' ho hg hb; have HO := Lib.hid ho; have HB := Lib.hid hb; have u0 := HO.out.cell (k := k) (by have := HN.out; omega); have f0 := HO.out.free k; have hsz' := hg; clear ho hb)
  go_ret
  have HO2 := HO.out.set (k := k) (by have := HN.out; omega) v
  rw [alloc_size'] at hg
  exact ⟨g, c', by simp, hc', by omega, HO2, (((Below.refl w.heap.size w).alloc (Nat.le_refl _) (.cells #[] 3)).trans (HB.out.mono (by rw [alloc_size']; omega))).setCell (p := ⟨g, k, none⟩) (by show w.heap.size ≤ g; omega) _⟩
theorem tstK_mem {T : List TT} {x : List Int} {j : Nat} {e : TS} : ∀ {k : Nat}, j < k → e ∈ tstT (T.getD j tt0).n x (T.getD j tt0).n.length 0 → e ∈ tstK T x k
  | 0, h, _ => absurd h (by omega)
  | k + 1, h, he => by
    rw [tstK]
    by_cases hj : j = k
    · subst hj; exact List.mem_append_right _ he
    · exact List.mem_append_left _ (tstK_mem (by omega) he)
/-- a value of the room of a column: the lengths are, together, what they are -/
theorem sum_keep {T : List TT} {x : List Int} {k : Nat} {v : Int} (h : (whyV T x).2 = 0) (hk : k < x.length) (hlo : ((whyV T x).1.getD k ct0).lo ≤ v) (hhi : v ≤ ((whyV T x).1.getD k ct0).hi) : (sumV T x).2 = 0 ∧ sumV T (x.set k v) = sumV T x := by
  have h0 : (sumV T x).2 = 0 := by
    unfold whyV at h
    by_cases g : (sumV T x).2 = 0
    · exact g
    · rw [if_neg g] at h; exact h
  have hw : (whyV T x).1 = colsC x (tstK T x T.length) := by unfold whyV; rw [if_pos h0]
  rw [hw, colsC_at x _ hk] at hlo hhi
  obtain ⟨h16, hM0, hall, hx⟩ := sumV_ok h0
  obtain ⟨hok, _⟩ := tstK_ok h0 T.length (Nat.le_refl _)
  have hbd := col_bd x k (tstK T x T.length) ct0 (by unfold ct0; simp)
  have hv : -2147483648 ≤ v ∧ v ≤ 2147483647 := by unfold colC at hlo hhi; omega
  have hsame := (col_iff hx hk hv hok).1 ⟨hlo, hhi⟩
  have hx' := set_isV hx k hv
  have hlen : ∀ j, j < T.length → (lenT (T.getD j tt0).n (T.getD j tt0).dim (x.set k v)).1 = (lenT (T.getD j tt0).n (T.getD j tt0).dim x).1 := fun j hj => by
    obtain ⟨hT, hd⟩ := hall j hj
    have hd1 := (dn_same (N := (T.getD j tt0).n) (x := x) (x' := x.set k v) (T.getD j tt0).n.length 0 (fun e he => hsame e (tstK_mem hj he))).1
    rw [hd] at hT ⊢
    rw [lenT_at hT hx, lenT_at hT hx', hd1]
  have hs : ∀ j, j ≤ T.length → sumK T (x.set k v) j = sumK T x j := fun j => by
    induction j with
    | zero => intro _; rfl
    | succ j ih =>
      intro hj
      rw [sumK, sumK, ih (by omega), hlen j (by omega)]
  refine ⟨h0, ?_⟩
  have ha : alkV T = 0 := by
    unfold sumV at h0
    rw [if_neg (by omega)] at h0
    by_cases g : alkV T = 0
    · exact g
    · rw [if_neg g] at h0; exact absurd h0 (by simp)
  unfold sumV
  rw [if_neg (show ¬ 16 < T.length by omega), if_pos ha, if_pos hx', if_neg (show ¬ 16 < T.length by omega), if_pos ha, if_pos hx, hs _ (Nat.le_refl _)]
end Go.Proofs.Yteenemdiokajbaa
/-! Layer 16: the room tells the way: numbers; a region whose calls give rows. -/
namespace Go.Proofs.Yteenemdiokajbaa
open Go.RowKit
set_option linter.unusedVariables false
set_option linter.unusedSimpArgs false

theorem one_sum (N : List TN) (d : Int) (a : Option Addr) (c : Nat) (x : List Int) : (sumV [⟨d, a, c, N⟩] x).2 = if isT N d = true then (if isV x d = true then 0 else 80) else 100 := by
  have hk : alkK [⟨d, a, c, N⟩] 1 = isT N d := by
    show (true && (isT N d && decide (d = d))) = _
    simp
  unfold sumV
  rw [if_neg (by simp)]
  by_cases hT : isT N d = true
  · have ha : alkV [⟨d, a, c, N⟩] = 0 := by
      unfold alkV
      rw [if_neg (by simp)]
      show (if alkK [⟨d, a, c, N⟩] 1 = true then (0 : Int) else 100) = 0
      rw [hk, hT]; rfl
    rw [if_pos ha, if_pos hT]
    show (if isV x d = true then _ else _ : Int × Int).2 = _
    split <;> rfl
  · have ha : ¬ alkV [⟨d, a, c, N⟩] = 0 := by
      unfold alkV
      rw [if_neg (by simp)]
      show ¬ (if alkK [⟨d, a, c, N⟩] 1 = true then (0 : Int) else 100) = 0
      rw [hk, if_neg hT]; simp
    rw [if_neg ha, if_neg hT]
/-- the room of a column in a tree -/
theorem why_one {N : List TN} {d : Int} {x : List Int} (hT : isT N d = true) (hx : isV x d = true) : whyV [⟨d, none, 0, N⟩] x = (colsC x (tstT N x N.length 0), 0) := by
  have h0 : (sumV [⟨d, none, 0, N⟩] x).2 = 0 := by rw [one_sum, if_pos hT, if_pos hx]
  unfold whyV
  rw [if_pos h0]
  rfl
theorem why_one_err {N : List TN} {d : Int} {x : List Int} (h : ¬ (isT N d = true ∧ isV x d = true)) : whyV [⟨d, none, 0, N⟩] x = ([], if isT N d = true then 80 else 100) := by
  have h0 : ¬ (sumV [⟨d, none, 0, N⟩] x).2 = 0 ∧ (sumV [⟨d, none, 0, N⟩] x).2 = if isT N d = true then 80 else 100 := by
    rw [one_sum]
    by_cases hT : isT N d = true
    · rw [if_pos hT, if_neg (fun g => h ⟨hT, g⟩), if_pos hT]
      exact ⟨by omega, rfl⟩
    · rw [if_neg hT, if_neg hT]
      exact ⟨by omega, rfl⟩
  unfold whyV
  rw [if_neg h0.1, h0.2]
theorem room_ok {N : List TN} {d : Int} {x : List Int} (hT : isT N d = true) (hx : isV x d = true) {j : Nat} (hj : j < x.length) :
    ∃ lo hi, roomV N d x j = (lo, hi, 0) ∧ -2147483648 ≤ lo ∧ hi ≤ 2147483647 ∧ lo ≤ x.getD j 0 ∧ x.getD j 0 ≤ hi ∧ ∀ v, -2147483648 ≤ v ∧ v ≤ 2147483647 → (wayT N x N.length 0 = wayT N (x.set j v) N.length 0 ↔ lo ≤ v ∧ v ≤ hi) := by
  obtain ⟨_, _, _, d0, s0, _⟩ := isT_iff.1 hT
  have hok := fun e he => tstT_ok hx N.length 0 N.length d0 s0 e he
  have hbd := col_bd x j (tstT N x N.length 0) ct0 (by unfold ct0; simp)
  have hown := col_own hx hj hok
  refine ⟨(colC x j (tstT N x N.length 0)).lo, (colC x j (tstT N x N.length 0)).hi, ?_, hbd.1, hbd.2, hown.1, hown.2, fun v hv => ?_⟩
  · unfold roomV
    rw [why_one hT hx, if_neg (by simp), if_pos (by rw [colsC_len]; omega), Int.toNat_natCast, colsC_at x _ hj]
  · have h1 := col_iff hx hj hv hok
    unfold inR at h1
    rw [h1]
    constructor
    · intro h e he
      exact way_same hx (set_isV hx j hv) N.length 0 N.length d0 s0 h.symm e he
    · intro h
      exact (dn_same (N := N) (x := x) (x' := x.set j v) N.length 0 (fun e he => h e he)).2.symm
theorem room_bad {N : List TN} {d : Int} {x : List Int} {k : Int} (h : ¬ (isT N d = true ∧ isV x d = true ∧ 0 ≤ k ∧ k < d)) : ∃ e, ¬ e = (0 : Int) ∧ roomV N d x k = (0, 0, e) := by
  by_cases g : isT N d = true ∧ isV x d = true
  · refine ⟨1, by omega, ?_⟩
    have hl := (isV_iff.1 g.2).2.2.1
    unfold roomV
    rw [why_one g.1 g.2, if_neg (by simp), if_neg]
    rw [colsC_len]
    intro q
    exact h ⟨g.1, g.2, q.1, by have := q.2; omega⟩
  · refine ⟨if isT N d = true then 80 else 100, by split <;> omega, ?_⟩
    unfold roomV
    rw [why_one_err g]
    simp only
    rw [if_pos (by split <;> omega)]
/-- what holds in a region whose calls give rows -/
def RowJ (E : List (Option Value)) (G : List (Option (List Int))) (B : Nat) (W : World) (f : Nat → Bool) (vs : List Value) (X : World) : Prop :=
  RegV E f vs ∧ (Below B W X ∧ B ≤ X.heap.size) ∧ ∀ i l, G[i]? = some (some l) → f i = true → ∃ A c, vs.getD i undef = .slice A l.length c ∧ Lies X X.heap.size A l
theorem RowJ.alike {E : List (Option Value)} {G : List (Option (List Int))} {B n : Nat} {W : World} (hE : E.length ≤ n) (hG : G.length ≤ n) (f g : Nat → Bool) (vs : List Value) (X : World) (hfg : ∀ k, k < n → f k = g k) (h : RowJ E G B W f vs X) : RowJ E G B W g vs X :=
  ⟨fun j u hj he => h.1 j u ((hfg j (by have := (List.getElem?_eq_some_iff.1 he).1; omega)).trans hj) he, h.2.1, fun i l hl hi => h.2.2 i l hl ((hfg i (by have := (List.getElem?_eq_some_iff.1 hl).1; omega)).trans hi)⟩
theorem RowJ.step {E : List (Option Value)} {G : List (Option (List Int))} {B : Nat} {W : World} {f : Nat → Bool} {vs : List Value} {X X' : World} (h : RowJ E G B W f vs X) {i : Nat} (hi : i < vs.length) (v : Value) (hv : ∀ z, E[i]? = some (some z) → v = z)
    (hg : ∀ l, G[i]? = some (some l) → ∃ A c, v = .slice A l.length c ∧ Lies X' X'.heap.size A l) (hb : Below X.heap.size X X') : RowJ E G B W (fun j => if j = i then true else f j) (vs.set i v) X' := by
  refine ⟨h.1.set hi hv, ⟨h.2.1.1.trans (hb.mono h.2.1.2), Nat.le_trans h.2.1.2 hb.size⟩, fun j l hl hj => ?_⟩
  by_cases e : j = i
  · subst e
    obtain ⟨A, c, e1, h1⟩ := hg l hl
    exact ⟨A, c, by rw [List.getD_eq_getElem?_getD, List.getElem?_set_self hi]; exact e1, h1⟩
  · dsimp only at hj
    rw [if_neg e] at hj
    obtain ⟨A, c, e1, h1⟩ := h.2.2 j l hl hj
    refine ⟨A, c, ?_, (h1.below hb).mono hb.size⟩
    rw [List.getD_eq_getElem?_getD, List.getElem?_set_ne (fun g => e g.symm), ← List.getD_eq_getElem?_getD]
    exact e1
theorem RowJ.start {E : List (Option Value)} {G : List (Option (List Int))} {B : Nat} {W : World} (hB : B ≤ W.heap.size) (vs : List Value) : RowJ E G B W (fun _ => false) vs W.drew :=
  ⟨fun j u h => by simp at h, ⟨(Below.refl _ _).drew, hB⟩, fun i l _ h => by simp at h⟩
end Go.Proofs.Yteenemdiokajbaa
