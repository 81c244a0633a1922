import Derived.Test.YtdcemcpcjdkpjaaTrE

/-! Layer 10: the leaves of what is grown, among the nodes in the memory. -/
namespace Go.Proofs.Ytdcemcpcjdkpjaa
open Go.RowKit
set_option linter.unusedVariables false
set_option linter.unusedSimpArgs false

theorem dnT_same {M N : List TN} (h : N.map cnt = M.map cnt) (x : List Int) : ∀ f i, dnT N x f i = dnT M x f i
  | 0, i => rfl
  | f + 1, i => by
    obtain ⟨e1, e2, e3, e4, _⟩ := cnt_eq (show cnt (N.getD i tn0) = cnt (M.getD i tn0) by rw [← map_getD_cnt, ← map_getD_cnt, h])
    by_cases hl : (M.getD i tn0).lf = 0
    · rw [dnT_leaf hl, dnT_leaf (by rw [e3]; exact hl)]
    · have ht : toT (N.getD i tn0) x = toT (M.getD i tn0) x := by unfold toT; rw [e1, e2, e3, e4]
      rw [dnT_step hl, dnT_step (by rw [e3]; exact hl), ht, dnT_same h x f _]
theorem cnt_cnt (N : List TN) : (N.map cnt).map cnt = N.map cnt := by
  rw [List.map_map]
  exact List.map_congr_left fun n _ => rfl
/-- where the points of what is grown come -/
theorem groG_leaves {k a t : Int} {R : List Row} {l : List Int} {N : List TN} (h0 : (groG k R l a t).2.2.2 = 0) (hN : N.map cnt = (groG k R l a t).2.1) :
    (∀ j, j < R.length → leafT N (dimR R) (R.getD j row0).l = (((dnT N (R.getD j row0).l N.length 0).1 : Int), ((dnT N (R.getD j row0).l N.length 0).2 : Int), 0) ∧ (dnT N (R.getD j row0).l N.length 0).1 < N.length ∧ (dnT N (R.getD j row0).l N.length 0).2 ≤ lgT (R.length : Int)) ∧
    ∀ i, i < N.length → ((R.countP (atL N N.length i) : Nat) : Int) = if (N.getD i tn0).lf = 0 then (N.getD i tn0).sz else 0 := by
  obtain ⟨q1, q2, q3, _, _, _, q7, q8, q9, _⟩ := groG_good h0
  have hh := grN_holds (l := l) (dimR R) (lgT (R.length : Int)) R a q1 q2 q3 (by rw [← q7]; exact h0)
  rw [← q7] at hh
  generalize groG k R l a t = Z at *
  obtain ⟨zd, zn, za, ze⟩ := Z
  simp only at *
  have hc : N.map cnt = zn.map cnt := by rw [← hN, cnt_cnt]
  have hlen : N.length = zn.length := by have := congrArg List.length hN; simpa using this
  have hT := isT_same (N := N) q9 hc
  obtain ⟨⟨d, sS, sd⟩, _⟩ := q8
  have hS := sS.same hc
  simp only at hS
  rw [← hlen] at hS
  refine ⟨fun j hj => ?_, fun i hi => ?_⟩
  · have hv := q1.2 j hj
    have hd := hS.dn (R.getD j row0).l hv N.length
    refine ⟨?_, hd.2.1, by omega⟩
    unfold leafT
    rw [if_pos hT, if_pos hv]
  · have h1 := hh N.length i (by rw [hlen]; exact Nat.le_refl _) (by rw [← hlen]; exact hi)
    have e : R.countP (atL N N.length i) = R.countP (atL zn N.length i) := by
      refine List.countP_congr fun r _ => ?_
      unfold atL
      rw [dnT_same hc]
    obtain ⟨_, _, e3, _, e5⟩ := cnt_eq (show cnt (N.getD i tn0) = cnt (zn.getD i tn0) by rw [← map_getD_cnt, ← map_getD_cnt, hc])
    rw [e, h1, e3, e5]
theorem take_row {R : List Row} {k : Nat} (hk : k < R.length) : R.take (k + 1) = R.take k ++ [R.getD k row0] := by
  rw [List.take_succ_eq_append_getElem hk]
  simp [List.getD, hk]
/-- one point more -/
theorem came_step {N : List TN} {R : List Row} {f k : Nat} {cm : List Int} (hk : k < R.length) (h : ∀ i, i < cm.length → cm.getD i 0 = (((R.take k).countP (atL N f i) : Nat) : Int)) (hs : (dnT N (R.getD k row0).l f 0).1 < cm.length) :
    ∀ i, i < (cm.set (dnT N (R.getD k row0).l f 0).1 (cm.getD (dnT N (R.getD k row0).l f 0).1 0 + 1)).length → (cm.set (dnT N (R.getD k row0).l f 0).1 (cm.getD (dnT N (R.getD k row0).l f 0).1 0 + 1)).getD i 0 = (((R.take (k + 1)).countP (atL N f i) : Nat) : Int) := by
  intro i hi
  rw [List.length_set] at hi
  rw [take_row hk, List.countP_append]
  rw [getD_set' _ _ _ _ _ hs]
  have h1 := h i hi
  by_cases e : i = (dnT N (R.getD k row0).l f 0).1
  · rw [if_pos e, ← e, h1]
    have : List.countP (atL N f i) [R.getD k row0] = 1 := by
      rw [List.countP_singleton, if_pos]
      unfold atL
      rw [decide_eq_true_iff, e]
    omega
  · rw [if_neg e, h1]
    have : List.countP (atL N f i) [R.getD k row0] = 0 := by
      rw [List.countP_singleton, if_neg]
      unfold atL
      rw [decide_eq_true_iff]
      exact fun h => e h.symm
    omega
end Go.Proofs.Ytdcemcpcjdkpjaa
