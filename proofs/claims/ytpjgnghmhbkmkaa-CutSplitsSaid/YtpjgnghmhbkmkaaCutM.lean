import Derived.Test.YtpjgnghmhbkmkaaPickA

/-! Layer 9: cuts, as numbers. -/
namespace Go.Proofs.Ytpjgnghmhbkmkaa
open Go.RowKit
set_option linter.unusedVariables false
set_option linter.unusedSimpArgs false

def isC (c : List Int) (p d : Int) : Bool := partsV c d && decide (-137438953472 ≤ p ∧ p ≤ 137438953472)
def lefC (c : List Int) (p : Int) (x : List Int) : Int := if isC c p c.length then dotC c x else 90
def lefB (c : List Int) (p : Int) (x : List Int) : Bool := decide (lefC c p x = 0) && decide (dotN c x < p)
/-- the numbers below k of which something holds -/
def pcK (p : Nat → Bool) : Nat → List Int
  | 0 => []
  | k + 1 => if p k then pcK p k ++ [(k : Int)] else pcK p k
theorem pcK_len (p : Nat → Bool) : ∀ k, (pcK p k).length ≤ k
  | 0 => by simp [pcK]
  | k + 1 => by
    have := pcK_len p k
    simp only [pcK]
    split
    · rw [List.length_append]; simp; omega
    · omega
theorem pcK_both (p : Nat → Bool) : ∀ k, (pcK p k).length + (pcK (fun j => !p j) k).length = k
  | 0 => by simp [pcK]
  | k + 1 => by
    have := pcK_both p k
    simp only [pcK]
    by_cases h : p k = true
    · simp only [h, if_true, Bool.not_true, Bool.false_eq_true, if_false, List.length_append, List.length_singleton]; omega
    · simp only [Bool.not_eq_true] at h
      simp only [h, Bool.false_eq_true, if_false, Bool.not_false, if_true, List.length_append, List.length_singleton]; omega
theorem pcK_mem (p : Nat → Bool) (x : Int) : ∀ k, x ∈ pcK p k ↔ ∃ j : Nat, j < k ∧ x = j ∧ p j = true
  | 0 => by simp [pcK]
  | k + 1 => by
    have ih := pcK_mem p x k
    simp only [pcK]
    constructor
    · intro h
      by_cases g : p k = true
      · rw [if_pos g] at h
        rcases List.mem_append.1 h with e | e
        · obtain ⟨j, h1, h2⟩ := ih.1 e
          exact ⟨j, by omega, h2⟩
        · exact ⟨k, by omega, List.mem_singleton.1 e, g⟩
      · rw [if_neg g] at h
        obtain ⟨j, h1, h2⟩ := ih.1 h
        exact ⟨j, by omega, h2⟩
    · rintro ⟨j, h1, h2, h3⟩
      by_cases g : j = k
      · subst g
        rw [if_pos h3, h2]; simp
      · have hm := ih.2 ⟨j, by omega, h2, h3⟩
        split
        · exact List.mem_append_left _ hm
        · exact hm
theorem pcK_congr {p q : Nat → Bool} : ∀ k, (∀ j, j < k → p j = q j) → pcK p k = pcK q k
  | 0, _ => rfl
  | k + 1, h => by
    simp only [pcK]
    rw [pcK_congr k (fun j hj => h j (by omega)), h k (by omega)]
def goesL (c : List Int) (p : Int) (R : List Row) (j : Nat) : Bool := decide (dotN c (R.getD j row0).l < p)
/-- all of a list are vectors of the cut's dimension -/
def splE (c : List Int) (R : List Row) : Bool := R.all fun r => dotE c r.l
theorem splE_iff {c : List Int} {R : List Row} : splE c R = true ↔ ∀ j, j < R.length → dotE c (R.getD j row0).l = true := by
  unfold splE
  rw [List.all_eq_true]
  constructor
  · intro h j hj; exact h _ (getD_mem hj)
  · intro h r hr
    obtain ⟨j, hj, rfl⟩ := List.mem_iff_getElem.1 hr
    have := h j hj
    rw [List.getD_eq_getElem?_getD, List.getElem?_eq_getElem hj] at this
    exact this
theorem splE_no {c : List Int} {R : List Row} {k : Nat} (hk : k < R.length) (h : dotE c (R.getD k row0).l = false) : splE c R = false := by
  rw [Bool.eq_false_iff]; intro g
  rw [splE_iff.1 g k hk] at h; cases h
def splC (c : List Int) (p : Int) (R : List Row) : Int := if isC c p c.length then (if splE c R then 0 else 80) else 90
def lft (c : List Int) (p : Int) (R : List Row) : List Int := if splC c p R = 0 then pcK (goesL c p R) R.length else []
def rgt (c : List Int) (p : Int) (R : List Row) : List Int := if splC c p R = 0 then pcK (fun j => !goesL c p R j) R.length else []

/-! ### what is drawn -/
abbrev noD (x : Int) : List Int × Int × Int × Bool × Int := ([], 0, 0, false, x)
def btw (c : List Int) (R : List Row) (l : List Int) (a t : Int) : List Int × Int × Int × Bool × Int :=
  if reachC c R = 0 then (if (rng l a (reachLo c R + 1) (reachHi c R) t).2.2 = 0 then (c, (rng l a (reachLo c R + 1) (reachHi c R) t).1, (rng l a (reachLo c R + 1) (reachHi c R) t).2.1, true, 0) else noD (rng l a (reachLo c R + 1) (reachHi c R) t).2.2) else noD (reachC c R)
def unitC (d k : Nat) : List Int := (List.replicate d 0).set k 1
def colD (op : List Int) (d : Nat) (l : List Int) (a t : Int) : List Int × Int × Int := if (bnd l a op.length t).2.2 = 0 then (unitC d (op.getD (bnd l a op.length t).1.toNat 0).toNat, (bnd l a op.length t).2.1, 0) else ([], 0, (bnd l a op.length t).2.2)
def axs (op : List Int) (d : Nat) (R : List Row) (l : List Int) (a t : Int) : List Int × Int × Int × Bool × Int :=
  if (colD op d l a t).2.2 = 0 then btw (colD op d l a t).1 R l (colD op d l a t).2.1 t else noD (colD op d l a t).2.2
def dimR (R : List Row) : Nat := (R.getD 0 row0).l.length
def opn (R : List Row) : List Int := openL (boxLo R (dimR R)) (boxHi R (dimR R))
def AskD (k a t : Int) : Prop := (k = 1 ∨ k = 2) ∧ 0 ≤ a ∧ 1 ≤ t ∧ t ≤ 64
instance (k a t : Int) : Decidable (AskD k a t) := by unfold AskD; exact inferInstance
def pln (R : List Row) (l : List Int) (a t : Int) : List Int × Int × Int × Bool × Int :=
  if (cof l a (dimR R) t).2.2 = 0 then (if reachLo (cof l a (dimR R) t).1 R < reachHi (cof l a (dimR R) t).1 R then btw (cof l a (dimR R) t).1 R l (cof l a (dimR R) t).2.1 t else axs (opn R) (dimR R) R l (cof l a (dimR R) t).2.1 t) else noD (cof l a (dimR R) t).2.2
def drw (k : Int) (R : List Row) (l : List Int) (a t : Int) : List Int × Int × Int × Bool × Int :=
  if AskD k a t then (if boxE R (dimR R) then (if opn R = [] then ([], 0, a, false, 0) else if k = 2 then pln R l a t else axs (opn R) (dimR R) R l a t) else noD 80) else noD 1

theorem boxE_iff {R : List Row} {d : Int} : boxE R d = true ↔ 0 < R.length ∧ ∀ j, j < R.length → isV (R.getD j row0).l d = true := by
  unfold boxE
  rw [Bool.and_eq_true, decide_eq_true_eq, allV_iff]
  exact ⟨fun h => ⟨h.2, h.1⟩, fun h => ⟨h.2, h.1⟩⟩
theorem reach_of {c : List Int} {R : List Row} {d : Nat} (hb : boxE R d = true) (hc : partsV c d = true) : reachE c R = true := by
  obtain ⟨h0, hv⟩ := boxE_iff.1 hb
  have hl := (partsV_iff.1 hc).2.2.1
  refine reachE_iff.2 ⟨h0, fun j hj => dotE_iff.2 ⟨?_, ?_⟩⟩
  · rw [hl]; exact hc
  · rw [hl]; exact hv j hj
theorem dotN_bd {c v : List Int} (h : dotE c v = true) : -68719476736 ≤ dotN c v ∧ dotN c v ≤ 68719476736 := by
  obtain ⟨h1, h2, h3, h4⟩ := dotE_ok h
  have := dotI_v h1 h2 c.length
  unfold dotN
  rw [if_pos h]
  omega
theorem dnR_mem {c : List Int} {R : List Row} {j : Nat} (hj : j < R.length) : dotN c (R.getD j row0).l ∈ dnR c R := by
  unfold dnR
  exact List.mem_map.2 ⟨_, getD_mem hj, rfl⟩
theorem mem_dnR {c : List Int} {R : List Row} {x : Int} (h : x ∈ dnR c R) : ∃ j, j < R.length ∧ x = dotN c (R.getD j row0).l := by
  unfold dnR at h
  obtain ⟨r, hr, rfl⟩ := List.mem_map.1 h
  obtain ⟨j, hj, rfl⟩ := List.mem_iff_getElem.1 hr
  exact ⟨j, hj, by rw [List.getD_eq_getElem?_getD, List.getElem?_eq_getElem hj]; rfl⟩
theorem cons_tail {l : List Int} (h : 0 < l.length) : l = l.getD 0 0 :: l.tail := by
  cases l with
  | nil => simp at h
  | cons x l => rfl
theorem reachLo_le {c : List Int} {R : List Row} (h : reachE c R = true) {j : Nat} (hj : j < R.length) : reachLo c R ≤ dotN c (R.getD j row0).l := by
  unfold reachLo
  rw [if_pos h]
  have h1 := (le_loL (loL ((dnR c R).getD 0 0) (dnR c R).tail) (dnR c R).tail ((dnR c R).getD 0 0)).1 (Int.le_refl _)
  have hm := dnR_mem (c := c) hj
  rw [cons_tail (l := dnR c R) (by unfold dnR; rw [List.length_map]; omega)] at hm
  rcases List.mem_cons.1 hm with e | e
  · rw [e]; exact h1.1
  · exact h1.2 _ e
theorem le_reachHi {c : List Int} {R : List Row} (h : reachE c R = true) {j : Nat} (hj : j < R.length) : dotN c (R.getD j row0).l ≤ reachHi c R := by
  unfold reachHi
  rw [if_pos h]
  have h1 := (hiL_le (hiL ((dnR c R).getD 0 0) (dnR c R).tail) (dnR c R).tail ((dnR c R).getD 0 0)).1 (Int.le_refl _)
  have hm := dnR_mem (c := c) hj
  rw [cons_tail (l := dnR c R) (by unfold dnR; rw [List.length_map]; omega)] at hm
  rcases List.mem_cons.1 hm with e | e
  · rw [e]; exact h1.1
  · exact h1.2 _ e
theorem reachLo_is {c : List Int} {R : List Row} (h : reachE c R = true) : ∃ j, j < R.length ∧ reachLo c R = dotN c (R.getD j row0).l := by
  have h0 := (reachE_iff.1 h).1
  unfold reachLo
  rw [if_pos h]
  refine mem_dnR ?_
  rcases loL_mem (dnR c R).tail ((dnR c R).getD 0 0) with e | e
  · rw [e]; exact mem_getD (by unfold dnR; rw [List.length_map]; omega)
  · exact List.mem_of_mem_tail e
theorem reachHi_is {c : List Int} {R : List Row} (h : reachE c R = true) : ∃ j, j < R.length ∧ reachHi c R = dotN c (R.getD j row0).l := by
  have h0 := (reachE_iff.1 h).1
  unfold reachHi
  rw [if_pos h]
  refine mem_dnR ?_
  rcases hiL_mem (dnR c R).tail ((dnR c R).getD 0 0) with e | e
  · rw [e]; exact mem_getD (by unfold dnR; rw [List.length_map]; omega)
  · exact List.mem_of_mem_tail e
theorem reach_bd {c : List Int} {R : List Row} (h : reachE c R = true) : -68719476736 ≤ reachLo c R ∧ reachLo c R ≤ reachHi c R ∧ reachHi c R ≤ 68719476736 := by
  obtain ⟨j, hj, e⟩ := reachLo_is h
  obtain ⟨k, hk, f⟩ := reachHi_is h
  have h1 := dotN_bd ((reachE_iff.1 h).2 j hj)
  have h2 := dotN_bd ((reachE_iff.1 h).2 k hk)
  have h3 := le_reachHi h hj
  omega
theorem reachC_0 {c : List Int} {R : List Row} (h : reachE c R = true) : reachC c R = 0 := by unfold reachC; rw [if_pos h]
theorem unitC_len (d k : Nat) : (unitC d k).length = d := by simp [unitC]
theorem unitC_get (d : Nat) {k j : Nat} (hk : k < d) : (unitC d k).getD j 0 = if j = k then 1 else 0 := by
  unfold unitC
  rw [List.getD_eq_getElem?_getD, List.getElem?_set]
  by_cases h : k = j
  · subst h; simp [hk]
  · rw [if_neg h, if_neg (fun e => h e.symm), List.getElem?_replicate]
    split <;> rfl
theorem unitC_parts {d k : Nat} (h1 : 1 ≤ d) (h8 : d ≤ 8) (hk : k < d) : partsV (unitC d k) d = true := by
  refine partsV_iff.2 ⟨by omega, by omega, by rw [unitC_len], fun x hx => ?_, 1, ?_, by decide⟩
  · obtain ⟨j, hj, rfl⟩ := List.mem_iff_getElem.1 hx
    have := unitC_get d (j := j) hk
    rw [List.getD_eq_getElem?_getD, List.getElem?_eq_getElem hj] at this
    simp only [Option.getD_some] at this
    rw [this]
    split <;> omega
  · have := mem_getD (l := unitC d k) (k := k) (by rw [unitC_len]; exact hk)
    rw [unitC_get d hk, if_pos rfl] at this
    exact this
end Go.Proofs.Ytpjgnghmhbkmkaa
