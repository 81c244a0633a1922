import Derived.Test.YtdcemcpcjdkpjaaTrC

/-! Layer 10: each leaf of what is grown has its points: numbers. -/
namespace Go.Proofs.Ytdcemcpcjdkpjaa
open Go.RowKit
set_option linter.unusedVariables false
set_option linter.unusedSimpArgs false

theorem sel_filter (R : List Row) (g : Row → Bool) : ∀ n, n ≤ R.length → selR R (pcK (fun j => g (R.getD j row0)) n) = (R.take n).filter g
  | 0, _ => by simp [pcK, selR]
  | n + 1, h => by
    have ih := sel_filter R g n (by omega)
    rw [List.take_succ_eq_append_getElem (by omega : n < R.length), List.filter_append]
    have e : R.getD n row0 = R[n]'(by omega) := by simp [List.getD, show n < R.length from by omega]
    simp only [pcK]
    rw [← e]
    by_cases hg : g (R.getD n row0) = true
    · rw [if_pos hg, List.filter_cons_of_pos hg, List.filter_nil, ← ih]
      unfold selR
      rw [List.map_append]
      simp
    · rw [if_neg hg, ih, List.filter_cons_of_neg hg, List.filter_nil, List.append_nil]
/-- whether a row goes to the left -/
def goR (Z : DZ) (r : Row) : Bool := decide (dotN Z.1 r.l < Z.2.1)
theorem lfR_filter {Z : DZ} {R : List Row} (h : splC Z.1 Z.2.1 R = 0) : lfR Z R = R.filter (goR Z) := by
  unfold lfR lft
  rw [if_pos h]
  have := sel_filter R (goR Z) R.length (Nat.le_refl _)
  rw [List.take_length] at this
  exact this
theorem rgR_filter {Z : DZ} {R : List Row} (h : splC Z.1 Z.2.1 R = 0) : rgR Z R = R.filter (fun r => !goR Z r) := by
  unfold rgR rgt
  rw [if_pos h]
  have := sel_filter R (fun r => !goR Z r) R.length (Nat.le_refl _)
  rw [List.take_length] at this
  exact this
theorem Sub.dn {N : List TN} {dm : Int} {i e d : Nat} (h : Sub N dm i e d) (x : List Int) (hx : isV x dm = true) : ∀ f, i ≤ (dnT N x f i).1 ∧ (dnT N x f i).1 < e ∧ (dnT N x f i).2 ≤ d := by
  induction h with
  | @leaf i hi hl =>
    intro f
    rw [dnT_leaf hl.1]
    exact ⟨Nat.le_refl _, Nat.lt_succ_self _, Nat.le_refl _⟩
  | @inner i m e d1 d2 hi hl hr hc h1 h2 hs ih1 ih2 =>
    intro f
    have l1 := h1.lt
    have l2 := h2.lt
    cases f with
    | zero => exact ⟨Nat.le_refl _, by show i < e; omega, Nat.zero_le _⟩
    | succ f =>
      rw [dnT_step (by omega)]
      unfold toT
      by_cases hb : lefB (N.getD i tn0).co (N.getD i tn0).lv x = true
      · rw [if_pos hb, hl, show ((i : Int) + 1).toNat = i + 1 from by omega]
        have := ih1 f
        simp only
        omega
      · rw [if_neg hb, hr, Int.toNat_natCast]
        have := ih2 f
        simp only
        omega
/-- down, elsewhere -/
theorem Sub.dnsh {G : List TN} {dm : Int} {i e d : Nat} (h : Sub G dm i e d) (x : List Int) (hx : isV x dm = true) (P Q : List TN) : ∀ f, (dnT (P ++ shL P.length G ++ Q) x f (P.length + i)).1 = P.length + (dnT G x f i).1 := by
  induction h with
  | @leaf i hi hl =>
    intro f
    rw [dnT_leaf hl.1, dnT_leaf (by rw [sh_get P G Q hi, shN_lf0]; exact hl.1)]
  | @inner i m e d1 d2 hi hl hr hc h1 h2 hs ih1 ih2 =>
    intro f
    have l1 := h1.lt
    have l2 := h2.lt
    cases f with
    | zero => rfl
    | succ f =>
      have e0 := sh_get P G Q hi
      have e3 : shN P.length (G.getD i tn0) = { G.getD i tn0 with lf := (G.getD i tn0).lf + P.length, rt := (G.getD i tn0).rt + P.length } := by unfold shN; rw [if_pos (by omega)]
      have n1 : ¬ (G.getD i tn0).lf = 0 := by omega
      have n2 : ¬ ((P ++ shL P.length G ++ Q).getD (P.length + i) tn0).lf = 0 := by rw [e0, shN_lf0]; exact n1
      rw [dnT_step n1, dnT_step n2]
      simp only
      rw [e0, e3]
      unfold toT
      simp only
      by_cases hb : lefB (G.getD i tn0).co (G.getD i tn0).lv x = true
      · rw [if_pos hb, if_pos hb, hl, show ((i : Int) + 1 + P.length).toNat = P.length + (i + 1) from by omega, show ((i : Int) + 1).toNat = i + 1 from by omega]
        exact ih1 f
      · rw [if_neg hb, if_neg hb, hr, show ((m : Int) + P.length).toNat = P.length + m from by omega, Int.toNat_natCast]
        exact ih2 f
/-- which leaf it is -/
def atL (N : List TN) (f i : Nat) (r : Row) : Bool := decide ((dnT N r.l f 0).1 = i)
def HoldsG (R : List Row) (G : List TN) : Prop := ∀ f i, G.length ≤ f → i < G.length → ((R.countP (atL G f i) : Nat) : Int) = if (G.getD i tn0).lf = 0 then (G.getD i tn0).sz else 0
theorem holds_both {Z : DZ} {R : List Row} {dm d1 d2 : Nat} {X Y : List TN} (hf : Fit dm R) (hc : isC Z.1 Z.2.1 dm = true) (hsp : splC Z.1 Z.2.1 R = 0) (hX : Sub X dm 0 X.length d1) (hY : Sub Y dm 0 Y.length d2) (hx : HoldsG (lfR Z R) X) (hy : HoldsG (rgR Z R) Y) :
    HoldsG R (rootN Z R.length X.length :: (shL 1 X ++ shL (1 + X.length) Y)) := by
  have hp : ([rootN Z R.length X.length] ++ shL 1 X).length = 1 + X.length := by rw [List.length_append, shL_len]; rfl
  have e1 : [rootN Z R.length X.length] ++ shL [rootN Z R.length X.length].length X ++ shL (1 + X.length) Y = rootN Z R.length X.length :: (shL 1 X ++ shL (1 + X.length) Y) := by simp
  have e2 : [rootN Z R.length X.length] ++ shL 1 X ++ shL (1 + X.length) Y = rootN Z R.length X.length :: (shL 1 X ++ shL (1 + X.length) Y) := by simp
  have hlen : (rootN Z R.length X.length :: (shL 1 X ++ shL (1 + X.length) Y)).length = 1 + X.length + Y.length := by simp only [List.length_cons, List.length_append, shL_len]; omega
  have hlX := hX.lt
  have hlY := hY.lt
  have hmem : ∀ r ∈ R, isV r.l dm = true := fun r hr => by
    obtain ⟨j, hj, rfl⟩ := List.mem_iff_getElem.1 hr
    have := hf.2 j hj
    rw [List.getD_eq_getElem?_getD, List.getElem?_eq_getElem hj] at this
    exact this
  intro f i hfl hi
  rw [hlen] at hfl hi
  obtain ⟨f, rfl⟩ : ∃ g, f = g + 1 := ⟨f - 1, by omega⟩
  have hdn : ∀ r ∈ R, (dnT (rootN Z R.length X.length :: (shL 1 X ++ shL (1 + X.length) Y)) r.l (f + 1) 0).1 = if goR Z r = true then 1 + (dnT X r.l f 0).1 else 1 + X.length + (dnT Y r.l f 0).1 := fun r hr => by
    have hv := hmem r hr
    have hpv : partsV Z.1 dm = true := by
      unfold isC at hc
      rw [Bool.and_eq_true] at hc
      exact hc.1
    obtain ⟨p1, p2, p3, _⟩ := partsV_iff.1 hpv
    have hE : lefC Z.1 Z.2.1 r.l = 0 := by
      unfold lefC
      rw [p3, if_pos hc]
      unfold dotC dotE
      rw [p3, hpv, hv]
      rfl
    have hb : lefB Z.1 Z.2.1 r.l = goR Z r := by
      unfold lefB goR
      rw [hE]
      simp
    have n0 : ¬ ((rootN Z R.length X.length :: (shL 1 X ++ shL (1 + X.length) Y)).getD 0 tn0).lf = 0 := show ¬ (1 : Int) = 0 by omega
    rw [dnT_step n0]
    show (dnT _ r.l f (toT (rootN Z R.length X.length) r.l).toNat).1 = _
    unfold toT rootN
    simp only
    rw [hb]
    by_cases hg : goR Z r = true
    · rw [if_pos hg, if_pos hg]
      have := hX.dnsh r.l hv [rootN Z R.length X.length] (shL (1 + X.length) Y) f
      rw [e1] at this
      exact this
    · rw [if_neg hg, if_neg hg, show ((1 : Int) + X.length).toNat = 1 + X.length from by omega]
      have := hY.dnsh r.l hv ([rootN Z R.length X.length] ++ shL 1 X) [] f
      rw [hp, List.append_nil, e2, Nat.add_zero] at this
      exact this
  rcases Nat.eq_zero_or_pos i with h0 | h0
  · subst h0
    have hz : R.countP (atL (rootN Z R.length X.length :: (shL 1 X ++ shL (1 + X.length) Y)) (f + 1) 0) = 0 := by
      rw [List.countP_eq_zero]
      intro r hr h
      unfold atL at h
      rw [decide_eq_true_iff, hdn r hr] at h
      split at h <;> omega
    rw [hz]
    show ((0 : Nat) : Int) = if (1 : Int) = 0 then _ else 0
    rw [if_neg (by omega)]
    rfl
  · rcases Nat.lt_or_ge i (1 + X.length) with h1 | h1
    · have hg := sh_get [rootN Z R.length X.length] X (shL (1 + X.length) Y) (i := i - 1) (by omega)
      rw [e1, show [rootN Z R.length X.length].length = 1 from rfl, show 1 + (i - 1) = i from by omega] at hg
      rw [hg]
      have hw := hx f (i - 1) (by omega) (by omega)
      rw [lfR_filter hsp, List.countP_filter] at hw
      have hcn : R.countP (atL (rootN Z R.length X.length :: (shL 1 X ++ shL (1 + X.length) Y)) (f + 1) i) = R.countP (fun r => atL X f (i - 1) r && goR Z r) := by
        refine List.countP_congr fun r hr => ?_
        unfold atL
        rw [decide_eq_true_iff, hdn r hr, Bool.and_eq_true, decide_eq_true_iff]
        have hv := hY.dn r.l (hmem r hr) f
        have hv1 := hX.dn r.l (hmem r hr) f
        constructor
        · intro h
          split at h
          · rename_i hgo; exact ⟨by omega, hgo⟩
          · omega
        · rintro ⟨h, hgo⟩
          rw [if_pos hgo]
          omega
      rw [hcn, hw, (shN_a _ _).2.2.2.2]
      by_cases hlf : (X.getD (i - 1) tn0).lf = 0
      · rw [if_pos hlf, if_pos ((shN_lf0 _ _).2 hlf)]
      · rw [if_neg hlf, if_neg (fun h => hlf ((shN_lf0 _ _).1 h))]
    · have hg := sh_get ([rootN Z R.length X.length] ++ shL 1 X) Y [] (i := i - (1 + X.length)) (by omega)
      rw [hp, List.append_nil, e2, show 1 + X.length + (i - (1 + X.length)) = i from by omega] at hg
      rw [hg]
      have hw := hy f (i - (1 + X.length)) (by omega) (by omega)
      rw [rgR_filter hsp, List.countP_filter] at hw
      have hcn : R.countP (atL (rootN Z R.length X.length :: (shL 1 X ++ shL (1 + X.length) Y)) (f + 1) i) = R.countP (fun r => atL Y f (i - (1 + X.length)) r && !goR Z r) := by
        refine List.countP_congr fun r hr => ?_
        unfold atL
        rw [decide_eq_true_iff, hdn r hr, Bool.and_eq_true, decide_eq_true_iff]
        have hv := hY.dn r.l (hmem r hr) f
        have hv1 := hX.dn r.l (hmem r hr) f
        constructor
        · intro h
          split at h
          · omega
          · rename_i hgo; exact ⟨by omega, by simpa using hgo⟩
        · rintro ⟨h, hgo⟩
          have hgo' : ¬ goR Z r = true := by simpa using hgo
          rw [if_neg hgo']
          omega
      rw [hcn, hw, (shN_a _ _).2.2.2.2]
      by_cases hlf : (Y.getD (i - (1 + X.length)) tn0).lf = 0
      · rw [if_pos hlf, if_pos ((shN_lf0 _ _).2 hlf)]
      · rw [if_neg hlf, if_neg (fun h => hlf ((shN_lf0 _ _).1 h))]
theorem grN_holds {k t : Int} {l : List Int} (dm s : Nat) (R : List Row) (a : Int) (hf : Fit dm R) (hk : AskD k a t) (h64 : R.length ≤ 64) (h0 : (grN k l t s R a).2.2 = 0) : HoldsG R (grN k l t s R a).1 := by
  refine grN_ind (fun s R a G => Fit dm R → AskD k a t → R.length ≤ 64 → G.2.2 = 0 → HoldsG R G.1) ?_ ?_ ?_ s R a hf hk h64 h0
  · intro s R a _ hf hk h64 _ f i hfl hi
    obtain rfl : i = 0 := by simp at hi; exact hi
    have hc : R.countP (atL [lfN R.length] f 0) = R.length := by
      rw [List.countP_eq_length]
      intro r hr
      unfold atL
      rw [decide_eq_true_iff, dnT_leaf rfl]
    rw [hc]
    show (R.length : Int) = if (0 : Int) = 0 then (R.length : Int) else 0
    rw [if_pos rfl]
  · intro s R a x hx _ _ _ h
    exact absurd h hx
  · intro s R a Z X Y hZ _ h2 h3 hX hx0 hY hy0 x1 y1 hf hk h64 _
    rw [hZ] at h2 h3
    rcases draw_fit hf hk h2 with ⟨h4, _⟩ | ⟨_, hp, fl, fr, hsum, hk2, a1, a2⟩
    · rw [h3] at h4; cases h4
    · rw [← hZ] at hp fl fr hsum hk2 a1 a2
      have l0 := fl.1
      have r0 := fr.1
      have gX := grN_good (l := l) dm s (lfR Z R) (dA Z) fl hk2 (by omega) (by rw [← hX]; exact hx0)
      rw [← hX] at gX
      obtain ⟨⟨d1, sX, _⟩, _, _, _, _, kX⟩ := gX
      have gY := grN_good (l := l) dm s (rgR Z R) X.2.1 fr kX (by omega) (by rw [← hY]; exact hy0)
      rw [← hY] at gY
      obtain ⟨⟨d2, sY, _⟩, _⟩ := gY
      obtain ⟨_, hc, hsp, _⟩ := hp
      rw [hf.dim] at hc
      exact holds_both hf hc hsp sX sY (x1 fl hk2 (by omega) hx0) (y1 fr kX (by omega) hy0)
end Go.Proofs.Ytdcemcpcjdkpjaa
