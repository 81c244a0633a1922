import Derived.Test.YtdcemcpcjdkpjaaCutF

/-! Layer 9: what a cut that is drawn is like. -/
namespace Go.Proofs.Ytdcemcpcjdkpjaa
open Go.RowKit
set_option linter.unusedVariables false
set_option linter.unusedSimpArgs false

/-- a cut with rows on both sides, drawn by draws from a on -/
def Parts9 (R : List Row) (l : List Int) (a m : Int) (Z : List Int × Int × Int × Bool × Int) : Prop :=
  Z.2.2.2.1 = true ∧ isC Z.1 Z.2.1 (dimR R) = true ∧ splC Z.1 Z.2.1 R = 0 ∧ 0 < (lft Z.1 Z.2.1 R).length ∧ 0 < (rgt Z.1 Z.2.1 R).length ∧ a < Z.2.2.1 ∧ Z.2.2.1 ≤ l.length ∧ Z.2.2.1 ≤ m
theorem btw_parts {c : List Int} {R : List Row} {l : List Int} {a t : Int} (hb : boxE R (dimR R) = true) (hc : partsV c (dimR R) = true) (h : (btw c R l a t).2.2.2.2 = 0) : Parts9 R l a (a + t) (btw c R l a t) := by
  have hE := reach_of hb hc
  have hC := reachC_0 hE
  have hbd := reach_bd hE
  have hbt : btw c R l a t = if (rng l a (reachLo c R + 1) (reachHi c R) t).2.2 = 0 then (c, (rng l a (reachLo c R + 1) (reachHi c R) t).1, (rng l a (reachLo c R + 1) (reachHi c R) t).2.1, true, 0) else noD (rng l a (reachLo c R + 1) (reachHi c R) t).2.2 := by unfold btw; rw [if_pos hC]
  have hp := @rng_pos l a (reachLo c R + 1) (reachHi c R) t (by omega)
  rw [hbt] at h ⊢
  by_cases g : (rng l a (reachLo c R + 1) (reachHi c R) t).2.2 = 0
  · rw [if_pos g]
    obtain ⟨⟨p1, p2, p3⟩, p4, p5⟩ := hp g
    generalize rng l a (reachLo c R + 1) (reachHi c R) t = G at *
    obtain ⟨n, p, e⟩ := G
    simp only at p1 p2 p3 p4 p5 ⊢
    have hlen := (partsV_iff.1 hc).2.2.1
    have hic : isC c n (dimR R) = true := by
      unfold isC; rw [hc]; simp; omega
    have hsp : splC c n R = 0 := by
      unfold splC
      rw [hlen, if_pos hic, if_pos (splE_iff.2 (reachE_iff.1 hE).2)]
    obtain ⟨j, hj, e1⟩ := reachLo_is hE
    obtain ⟨i, hi, e2⟩ := reachHi_is hE
    refine ⟨rfl, hic, hsp, ?_, ?_, p1, p2, p3⟩
    · unfold lft
      rw [if_pos hsp]
      exact List.length_pos_of_mem ((pcK_mem _ (j : Int) R.length).2 ⟨j, hj, rfl, by unfold goesL; rw [← e1]; simp; omega⟩)
    · unfold rgt
      rw [if_pos hsp]
      exact List.length_pos_of_mem ((pcK_mem _ (i : Int) R.length).2 ⟨i, hi, rfl, by unfold goesL; rw [← e2]; simp; omega⟩)
  · rw [if_neg g] at h; exact absurd h g
theorem Parts9.more {R : List Row} {l : List Int} {a a' m m' : Int} {Z : List Int × Int × Int × Bool × Int} (h : Parts9 R l a m Z) (ha : a' ≤ a) (hm : m ≤ m') : Parts9 R l a' m' Z := by
  obtain ⟨h1, h2, h3, h4, h5, h6, h7, h8⟩ := h
  exact ⟨h1, h2, h3, h4, h5, by omega, h7, by omega⟩
theorem btw_err {c : List Int} {R : List Row} {l : List Int} {a t : Int} (h : ¬ (btw c R l a t).2.2.2.2 = 0) : btw c R l a t = noD (btw c R l a t).2.2.2.2 := by
  unfold btw at h ⊢
  split
  · rename_i g
    rw [if_pos g] at h
    split
    · rename_i g2; rw [if_pos g2] at h; exact absurd rfl h
    · rfl
  · rfl
theorem axs_parts {R : List Row} {l : List Int} {a t : Int} (hb : boxE R (dimR R) = true) (ho : opn R ≠ []) (h : (axs (opn R) (dimR R) R l a t).2.2.2.2 = 0) : Parts9 R l a (a + 2 * t) (axs (opn R) (dimR R) R l a t) := by
  unfold axs at h ⊢
  by_cases g : (colD (opn R) (dimR R) l a t).2.2 = 0
  · rw [if_pos g] at h ⊢
    obtain ⟨j, h1, h2, h3, h4, h5, h6⟩ := col_of hb ho g
    rw [h3] at h ⊢
    obtain ⟨d1, d8, _⟩ := box_dim hb
    exact (btw_parts hb (unitC_parts d1 d8 h1) h).more (by omega) (by omega)
  · rw [if_neg g] at h; exact absurd h g
theorem axs_err {R : List Row} {l : List Int} {a t : Int} {o : List Int} {d : Nat} (h : ¬ (axs o d R l a t).2.2.2.2 = 0) : axs o d R l a t = noD (axs o d R l a t).2.2.2.2 := by
  unfold axs at h ⊢
  split
  · rename_i g; rw [if_pos g] at h; exact btw_err h
  · rfl
theorem drw_err {k : Int} {R : List Row} {l : List Int} {a t : Int} (h : ¬ (drw k R l a t).2.2.2.2 = 0) : drw k R l a t = noD (drw k R l a t).2.2.2.2 := by
  unfold drw at h ⊢
  split
  · rename_i g1
    rw [if_pos g1] at h
    split
    · rename_i g2
      rw [if_pos g2] at h
      split
      · rename_i g3; rw [if_pos g3] at h; exact absurd rfl h
      · rename_i g3
        rw [if_neg g3] at h
        split
        · rename_i g4
          rw [if_pos g4] at h
          unfold pln at h ⊢
          split
          · rename_i g5
            rw [if_pos g5] at h
            split
            · rename_i g6; rw [if_pos g6] at h; exact btw_err h
            · rename_i g6; rw [if_neg g6] at h; exact axs_err h
          · rfl
        · rename_i g4; rw [if_neg g4] at h; exact axs_err h
    · rfl
  · rfl
/-- the most draws that one cut takes -/
def mostC (k d t : Int) : Int := if k = 2 then 3 * t + t * t * d else 2 * t
theorem drw_ok {k : Int} {R : List Row} {l : List Int} {a t : Int} (h : (drw k R l a t).2.2.2.2 = 0) : AskD k a t ∧ boxE R (dimR R) = true ∧ ((opn R = [] ∧ drw k R l a t = ([], 0, a, false, 0)) ∨ (opn R ≠ [] ∧ Parts9 R l a (a + mostC k (dimR R) t) (drw k R l a t))) := by
  by_cases g1 : AskD k a t
  · by_cases g2 : boxE R (dimR R) = true
    · refine ⟨g1, g2, ?_⟩
      by_cases g3 : opn R = []
      · left; refine ⟨g3, ?_⟩; unfold drw; rw [if_pos g1, if_pos g2, if_pos g3]
      · right
        refine ⟨g3, ?_⟩
        have g1' : (k = 1 ∨ k = 2) ∧ 0 ≤ a ∧ 1 ≤ t ∧ t ≤ 64 := g1
        by_cases g4 : k = 2
        · have hd : drw k R l a t = pln R l a t := by unfold drw; rw [if_pos g1, if_pos g2, if_neg g3, if_pos g4]
          have hm : mostC k (dimR R) t = 3 * t + t * t * (dimR R) := by unfold mostC; rw [if_pos g4]
          rw [hd] at h ⊢
          rw [hm]
          have hass : t * ((dimR R : Int) * t) = t * t * (dimR R) := by rw [Int.mul_assoc, Int.mul_comm (dimR R : Int) t]
          unfold pln at h ⊢
          by_cases g5 : (cof l a (dimR R) t).2.2 = 0
          · rw [if_pos g5] at h ⊢
            obtain ⟨p1, p2, p3, p4⟩ := cof_pos g5
            rw [hass] at p3
            by_cases g6 : reachLo (cof l a (dimR R) t).1 R < reachHi (cof l a (dimR R) t).1 R
            · rw [if_pos g6] at h ⊢
              exact (btw_parts g2 p4 h).more (by omega) (by omega)
            · rw [if_neg g6] at h ⊢
              exact (axs_parts g2 g3 h).more (by omega) (by omega)
          · rw [if_neg g5] at h; exact absurd h g5
        · have hd : drw k R l a t = axs (opn R) (dimR R) R l a t := by unfold drw; rw [if_pos g1, if_pos g2, if_neg g3, if_neg g4]
          rw [hd] at h ⊢
          unfold mostC; rw [if_neg g4]
          exact axs_parts g2 g3 h
    · exfalso; unfold drw at h; rw [if_pos g1, if_neg g2] at h; simp at h
  · exfalso; unfold drw at h; rw [if_neg g1] at h; simp at h
/-- no column is open just where all are the same -/
theorem opn_nil {R : List Row} (hb : boxE R (dimR R) = true) : opn R = [] ↔ ∀ i, i < R.length → (R.getD i row0).l = (R.getD 0 row0).l := by
  obtain ⟨d1, d8, h0⟩ := box_dim hb
  obtain ⟨_, hv⟩ := boxE_iff.1 hb
  have hlo : ∀ j, j < dimR R → (boxLo R (dimR R)).getD j 0 = colL R j := fun j hj => by
    unfold boxLo
    rw [if_pos hb, List.getD_eq_getElem?_getD, List.getElem?_map, List.getElem?_range (by omega)]; rfl
  have hhi : ∀ j, j < dimR R → (boxHi R (dimR R)).getD j 0 = colH R j := fun j hj => by
    unfold boxHi
    rw [if_pos hb, List.getD_eq_getElem?_getD, List.getElem?_map, List.getElem?_range (by omega)]; rfl
  have hlen : ∀ i, i < R.length → (R.getD i row0).l.length = dimR R := fun i hi => by have := (isV_iff.1 (hv i hi)).2.2.1; omega
  have hin : ∀ i j, i < R.length → colL R j ≤ (R.getD i row0).l.getD j 0 ∧ (R.getD i row0).l.getD j 0 ≤ colH R j := fun i j hi => by
    have g1 := (le_loL (loL ((R.getD 0 row0).l.getD j 0) (R.tail.map fun r => r.l.getD j 0)) (R.tail.map fun r => r.l.getD j 0) ((R.getD 0 row0).l.getD j 0)).1 (Int.le_refl _)
    have g2 := (hiL_le (hiL ((R.getD 0 row0).l.getD j 0) (R.tail.map fun r => r.l.getD j 0)) (R.tail.map fun r => r.l.getD j 0) ((R.getD 0 row0).l.getD j 0)).1 (Int.le_refl _)
    cases i with
    | zero => exact ⟨g1.1, g2.1⟩
    | succ i =>
      have hm : (R.getD (i + 1) row0).l.getD j 0 ∈ R.tail.map fun r => r.l.getD j 0 := by
        refine List.mem_map.2 ⟨R.getD (i + 1) row0, ?_, rfl⟩
        have he : R.getD (i + 1) row0 = R.tail.getD i row0 := by cases R <;> simp
        rw [he]
        exact getD_mem (by rw [List.length_tail]; omega)
      exact ⟨g1.2 _ hm, g2.2 _ hm⟩
  constructor
  · intro ho i hi
    refine ext_getD (by rw [hlen i hi, hlen 0 h0]) fun j hj => ?_
    rw [hlen i hi] at hj
    have hn : ¬ colL R j < colH R j := fun hh => by
      have : (j : Int) ∈ opn R := by
        unfold opn openL
        rw [(box_lens hb).1, (box_lens hb).2, Nat.min_self]
        exact (openK_mem _ _ _ _).2 ⟨j, hj, rfl, by rw [hlo j hj, hhi j hj]; exact hh⟩
      rw [ho] at this; cases this
    have a1 := hin i j hi
    have a2 := hin 0 j h0
    omega
  · intro h
    rcases List.eq_nil_or_concat (opn R) with e | ⟨L, x, e⟩
    · exact e
    · exfalso
      obtain ⟨j, hj, _, hlt⟩ := opn_mem hb (x := x) (by rw [e]; simp)
      rw [hlo j hj, hhi j hj] at hlt
      obtain ⟨⟨i, hi, e1⟩, i2, hi2, e2⟩ := colB h0 j
      rw [h i hi] at e1
      rw [h i2 hi2] at e2
      omega
end Go.Proofs.Ytdcemcpcjdkpjaa
