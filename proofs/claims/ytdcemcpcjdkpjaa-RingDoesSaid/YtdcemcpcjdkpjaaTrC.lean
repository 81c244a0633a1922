import Derived.Test.YtdcemcpcjdkpjaaTrB

/-! Layer 10: what is grown is a tree; each leaf has its points: numbers. -/
namespace Go.Proofs.Ytdcemcpcjdkpjaa
open Go.RowKit
set_option linter.unusedVariables false
set_option linter.unusedSimpArgs false

/-! ### a subtree, elsewhere -/
theorem sh_get (P G Q : List TN) {i : Nat} (hi : i < G.length) : (P ++ shL P.length G ++ Q).getD (P.length + i) tn0 = shN P.length (G.getD i tn0) := by
  rw [List.getD_eq_getElem?_getD, List.getD_eq_getElem?_getD, List.append_assoc, List.getElem?_append_right (by omega), Nat.add_sub_cancel_left, List.getElem?_append_left (by rw [shL_len]; exact hi)]
  unfold shL
  rw [List.getElem?_map, List.getElem?_eq_getElem hi]
  rfl
theorem shN_lf0 (b : Nat) (n : TN) : (shN b n).lf = 0 ↔ n.lf = 0 := by
  unfold shN
  split
  · simp only; omega
  · rfl
theorem Sub.sh {G : List TN} {dm : Int} {i e d : Nat} (h : Sub G dm i e d) (P Q : List TN) : Sub (P ++ shL P.length G ++ Q) dm (P.length + i) (P.length + e) d := by
  have hlen : (P ++ shL P.length G ++ Q).length = P.length + G.length + Q.length := by rw [List.length_append, List.length_append, shL_len]
  induction h with
  | @leaf i hi hl =>
    refine Sub.leaf (i := P.length + i) (by rw [hlen]; omega) ?_
    rw [sh_get P G Q hi]
    obtain ⟨h1, h2, h3, h4, h5⟩ := hl
    unfold shN
    rw [if_neg (by omega)]
    exact ⟨h1, h2, h3, h4, h5⟩
  | @inner i m e d1 d2 hi hl hr hc h1 h2 hs ih1 ih2 =>
    have l1 := h1.lt
    have l2 := h2.lt
    have e0 := sh_get P G Q hi
    have e1 := sh_get P G Q (i := i + 1) (by omega)
    have e2 := sh_get P G Q (i := m) (by omega)
    have hlf : 0 < (G.getD i tn0).lf := by omega
    have e3 : shN P.length (G.getD i tn0) = { G.getD i tn0 with lf := (G.getD i tn0).lf + P.length, rt := (G.getD i tn0).rt + P.length } := by unfold shN; rw [if_pos hlf]
    refine Sub.inner (m := P.length + m) (by rw [hlen]; omega) ?_ ?_ ?_ ih1 ih2 ?_
    · rw [e0, e3]; simp only; omega
    · rw [e0, e3]; simp only; omega
    · rw [e0, e3]; exact hc
    · rw [show P.length + i + 1 = P.length + (i + 1) from by omega, e0, e1, e2, (shN_a _ _).2.2.2.2, (shN_a _ _).2.2.2.2, (shN_a _ _).2.2.2.2]
      exact hs
theorem Sub.same {M N : List TN} {dm : Int} {i e d : Nat} (h : Sub M dm i e d) (hN : N.map cnt = M.map cnt) : Sub N dm i e d := by
  have hl : N.length = M.length := by have := congrArg List.length hN; simpa using this
  have hg : ∀ j, cnt (N.getD j tn0) = cnt (M.getD j tn0) := fun j => by rw [← map_getD_cnt, ← map_getD_cnt, hN]
  induction h with
  | @leaf i hi hlf =>
    obtain ⟨e1, e2, e3, e4, e5⟩ := cnt_eq (hg i)
    refine Sub.leaf (by omega) ?_
    unfold leafN at hlf ⊢
    rw [e1, e2, e3, e4, e5]
    exact hlf
  | @inner i m e d1 d2 hi hlf hr hc h1 h2 hs ih1 ih2 =>
    obtain ⟨e1, e2, e3, e4, e5⟩ := cnt_eq (hg i)
    obtain ⟨_, _, _, _, f5⟩ := cnt_eq (hg (i + 1))
    obtain ⟨_, _, _, _, g5⟩ := cnt_eq (hg m)
    exact Sub.inner (by omega) (by rw [e3]; exact hlf) (by rw [e4]; exact hr) (by rw [e1, e2]; exact hc) ih1 ih2 (by rw [e5, f5, g5]; exact hs)
theorem isT_same {M N : List TN} {dm : Int} (h : isT M dm = true) (hN : N.map cnt = M.map cnt) : isT N dm = true := by
  have hl : N.length = M.length := by have := congrArg List.length hN; simpa using this
  obtain ⟨h1, h2, h3, d, h4, h5⟩ := isT_iff.1 h
  obtain ⟨_, _, _, _, e5⟩ := cnt_eq (show cnt (N.getD 0 tn0) = cnt (M.getD 0 tn0) by rw [← map_getD_cnt, ← map_getD_cnt, hN])
  refine isT_iff.2 ⟨h1, h2, by rw [e5]; exact h3, d, ?_, by rw [e5]; exact h5⟩
  rw [hl]
  exact h4.same hN
/-- a whole that is grown of both sides -/
theorem sub_both {Z : DZ} {n d1 d2 : Nat} {dm : Int} {X Y : List TN} (hc : isC Z.1 Z.2.1 dm = true) (hX : Sub X dm 0 X.length d1) (hY : Sub Y dm 0 Y.length d2) (hs : (n : Int) = (X.getD 0 tn0).sz + (Y.getD 0 tn0).sz) :
    Sub (rootN Z n X.length :: (shL 1 X ++ shL (1 + X.length) Y)) dm 0 (rootN Z n X.length :: (shL 1 X ++ shL (1 + X.length) Y)).length (1 + max d1 d2) := by
  have h1 := hX.sh [rootN Z n X.length] (shL (1 + X.length) Y)
  have h2 := hY.sh ([rootN Z n X.length] ++ shL 1 X) []
  have hp : ([rootN Z n X.length] ++ shL 1 X).length = 1 + X.length := by rw [List.length_append, shL_len]; rfl
  rw [hp, List.append_nil] at h2
  have e1 : [rootN Z n X.length] ++ shL [rootN Z n X.length].length X ++ shL (1 + X.length) Y = rootN Z n X.length :: (shL 1 X ++ shL (1 + X.length) Y) := by simp
  have e2 : [rootN Z n X.length] ++ shL 1 X ++ shL (1 + X.length) Y = rootN Z n X.length :: (shL 1 X ++ shL (1 + X.length) Y) := by simp
  rw [e1] at h1
  rw [e2] at h2
  have hlX := hX.lt
  have hlY := hY.lt
  have hlen : (rootN Z n X.length :: (shL 1 X ++ shL (1 + X.length) Y)).length = 1 + X.length + Y.length := by simp only [List.length_cons, List.length_append, shL_len]; omega
  have g1 := sh_get [rootN Z n X.length] X (shL (1 + X.length) Y) (i := 0) (by omega)
  have g2 := sh_get ([rootN Z n X.length] ++ shL 1 X) Y [] (i := 0) (by omega)
  rw [e1] at g1
  rw [hp, List.append_nil, e2] at g2
  refine Sub.inner (m := 1 + X.length) (by rw [hlen]; omega) rfl ?_ hc ?_ ?_ ?_
  · show (1 + (X.length : Int)) = ((1 + X.length : Nat) : Int)
    omega
  · exact h1
  · rw [hlen]
    exact h2
  · show (n : Int) = _
    rw [Nat.add_zero] at g2
    have g1' : (rootN Z n X.length :: (shL 1 X ++ shL (1 + X.length) Y)).getD (0 + 1) tn0 = shN 1 (X.getD 0 tn0) := g1
    rw [g1', g2, (shN_a _ _).2.2.2.2, (shN_a _ _).2.2.2.2]
    exact hs
/-- what is grown -/
def Grown (k t : Int) (l : List Int) (dm s : Nat) (R : List Row) (a : Int) (G : GT) : Prop :=
  (∃ d, Sub G.1 dm 0 G.1.length d ∧ d ≤ s) ∧ (G.1.getD 0 tn0).sz = R.length ∧ G.1.length ≤ 2 * R.length - 1 ∧ a ≤ G.2.1 ∧ G.2.1 - a ≤ ((R.length : Int) - 1) * mostC k dm t ∧ AskD k G.2.1 t
theorem mostC_pos {k t : Int} {dm : Nat} (h : 1 ≤ t) : 0 ≤ mostC k dm t := by
  unfold mostC
  split
  · have h1 : 0 ≤ t * t := Int.mul_nonneg (by omega) (by omega)
    have h2 : 0 ≤ t * t * (dm : Int) := Int.mul_nonneg h1 (by omega)
    omega
  · omega
theorem grN_good {k t : Int} {l : List Int} (dm s : Nat) (R : List Row) (a : Int) (hf : Fit dm R) (hk : AskD k a t) (h64 : R.length ≤ 64) (h0 : (grN k l t s R a).2.2 = 0) : Grown k t l dm s R a (grN k l t s R a) := by
  refine grN_ind (fun s R a G => Fit dm R → AskD k a t → R.length ≤ 64 → G.2.2 = 0 → Grown k t l dm s R a G) ?_ ?_ ?_ s R a hf hk h64 h0
  · intro s R a _ hf hk h64 _
    have h1 := hf.1
    have hM := mostC_pos (k := k) (dm := dm) hk.2.2.1
    have hn : 0 ≤ ((R.length : Int) - 1) * mostC k dm t := Int.mul_nonneg (by omega) hM
    refine ⟨⟨0, Sub.leaf (by simp) ?_, Nat.zero_le _⟩, rfl, by simp; omega, Int.le_refl _, by simp only; omega, hk⟩
    show leafN (lfN R.length)
    unfold leafN lfN
    simp
    omega
  · intro s R a x hx _ _ _ h
    exact absurd h hx
  · intro s R a Z X Y hZ _ h2 h3 _ hx0 _ hy0 x1 y1 hf hk h64 _
    rw [hZ] at h2 h3
    rcases draw_fit hf hk h2 with ⟨h4, _⟩ | ⟨_, hp, fl, fr, hsum, hk2, a1, a2⟩
    · rw [h3] at h4; cases h4
    · rw [← hZ] at hp fl fr hsum hk2 a1 a2
      obtain ⟨⟨d1, sX, dX⟩, zX, nX, pX, qX, kX⟩ := x1 fl hk2 (by omega) hx0
      obtain ⟨⟨d2, sY, dY⟩, zY, nY, pY, qY, kY⟩ := y1 fr kX (by omega) hy0
      have l0 := fl.1
      have r0 := fr.1
      obtain ⟨_, hc, _⟩ := hp
      rw [hf.dim] at hc
      refine ⟨⟨1 + max d1 d2, sub_both hc sX sY (by rw [zX, zY]; omega), by omega⟩, rfl, ?_, ?_, ?_, kY⟩
      · simp only [List.length_cons, List.length_append, shL_len]
        omega
      · show a ≤ Y.2.1
        omega
      · show Y.2.1 - a ≤ _
        have e : ((R.length : Int) - 1) * mostC k dm t = (((lfR Z R).length : Int) - 1) * mostC k dm t + (((rgR Z R).length : Int) - 1) * mostC k dm t + mostC k dm t := by
          rw [show ((R.length : Int) - 1) = (((lfR Z R).length : Int) - 1) + (((rgR Z R).length : Int) - 1) + 1 from by omega, Int.add_mul, Int.add_mul, Int.one_mul]
        omega
/-- all of P10.5 but the points' places -/
theorem groG_good {k a t : Int} {R : List Row} {l : List Int} (h0 : (groG k R l a t).2.2.2 = 0) : Fit (dimR R) R ∧ AskD k a t ∧ R.length ≤ 64 ∧ 1 ≤ dimR R ∧ dimR R ≤ 8 ∧ (groG k R l a t).1 = dimR R ∧ (groG k R l a t).2 = grN k l t (lgT (R.length : Int)) R a ∧ Grown k t l (dimR R) (lgT (R.length : Int)) R a (groG k R l a t).2 ∧ isT (groG k R l a t).2.1 (dimR R) = true ∧ mostT k (dimR R) R.length t = ((R.length : Int) - 1) * mostC k (dimR R) t := by
  unfold groG at h0 ⊢
  by_cases h1 : 64 < R.length
  · rw [if_pos h1] at h0
    exact absurd h0 (show ¬ (3 : Int) = 0 by omega)
  · rw [if_neg h1] at h0 ⊢
    by_cases h2 : AskD k a t
    · rw [if_pos h2] at h0 ⊢
      by_cases h3 : boxE R (dimR R) = true
      · rw [if_pos h3] at h0 ⊢
        by_cases h4 : (grN k l t (lgT (R.length : Int)) R a).2.2 = 0
        · rw [if_pos h4] at h0 ⊢
          have hf := fit_of h3
          have hb := box_dim h3
          have hg := grN_good (l := l) (dimR R) (lgT (R.length : Int)) R a hf h2 (by omega) h4
          refine ⟨hf, h2, by omega, hb.1, hb.2.1, rfl, rfl, hg, ?_, ?_⟩
          · obtain ⟨⟨d, hs, hd⟩, hz, _⟩ := hg
            refine isT_iff.2 ⟨by omega, by omega, ?_, d, hs, ?_⟩
            · show ((grN k l t (lgT (R.length : Int)) R a).1.getD 0 tn0).sz ≤ 64
              rw [hz]; omega
            · show d ≤ lgT ((grN k l t (lgT (R.length : Int)) R a).1.getD 0 tn0).sz
              rw [hz]; exact hd
          · have hn := hf.1
            have ht := h2.2.2
            unfold mostT
            have n1 : nearN (R.length : Int) 64 = R.length := by unfold nearN; rw [if_neg (by omega), if_neg (by omega)]
            have n2 : nearN (dimR R : Int) 8 = dimR R := by unfold nearN; rw [if_neg (by omega), if_neg (by omega)]
            have n3 : nearN t 64 = t := by unfold nearN; rw [if_neg (by omega), if_neg (by omega)]
            rw [n1, n2, n3, show max ((R.length : Int) - 1) 0 = (R.length : Int) - 1 from by omega]
            rfl
        · rw [if_neg h4] at h0
          exact absurd h0 h4
      · rw [if_neg h3] at h0
        exact absurd h0 (show ¬ (80 : Int) = 0 by omega)
    · rw [if_neg h2] at h0
      exact absurd h0 (show ¬ (1 : Int) = 0 by omega)
theorem groG_err {k a t : Int} {R : List Row} {l : List Int} (h0 : ¬ (groG k R l a t).2.2.2 = 0) : groG k R l a t = (0, [], 0, (groG k R l a t).2.2.2) := by
  unfold groG at h0 ⊢
  split
  · rfl
  · rename_i g1
    rw [if_neg g1] at h0
    split
    · rename_i g2
      rw [if_pos g2] at h0
      split
      · rename_i g3
        rw [if_pos g3] at h0
        split
        · rename_i g4; rw [if_pos g4] at h0; exact absurd g4 h0
        · rfl
      · rfl
    · rfl
end Go.Proofs.Ytdcemcpcjdkpjaa
