import Derived.Test.YtehekdahlnpldaaDrawC
import Derived.Test.YtehekdahlnpldaaVecK

/-! Layer 7: the parts of a plane, from draws: numbers. -/
namespace Go.Proofs.Ytehekdahlnpldaa
open Go.RowKit
set_option linter.unusedVariables false
set_option linter.unusedSimpArgs false

theorem fnd_pos (l : List Int) (top : Int) : ∀ (t k : Nat), (fnd l top t k).2.2 = 0 → (k : Int) < (fnd l top t k).2.1 ∧ (fnd l top t k).2.1 ≤ l.length ∧ (fnd l top t k).2.1 ≤ k + t
  | 0, k => by rw [fnd_0]; simp
  | t + 1, k => by
    by_cases h : k < l.length
    · by_cases g : l.getD k 0 ≤ top
      · rw [fnd_hit h g]; intro _; refine ⟨?_, ?_, ?_⟩ <;> simp only <;> omega
      · rw [fnd_more h g]
        intro e
        have := fnd_pos l top t (k + 1) e
        omega
    · rw [fnd_out h]; simp
theorem bnd_pos {l : List Int} {a n t : Int} (h : (bnd l a n t).2.2 = 0) : a < (bnd l a n t).2.1 ∧ (bnd l a n t).2.1 ≤ l.length ∧ (bnd l a n t).2.1 ≤ a + t := by
  by_cases g : Asks a n t
  · obtain ⟨g1, g2, g3, g4⟩ := g
    have hb : bnd l a n t = hit n (fnd l (topN n) t.toNat a.toNat) := by unfold bnd; rw [if_pos ⟨g1, g2, g3, g4⟩]
    have hp := fnd_pos l (topN n) t.toNat a.toNat
    rw [hb] at h ⊢
    generalize fnd l (topN n) t.toNat a.toNat = F at *
    obtain ⟨x, y, z⟩ := F
    by_cases hz : z = 0
    · subst hz
      rw [hit_0]
      have := hp rfl
      simp only at this ⊢
      omega
    · rw [hit_e hz] at h; exact absurd h hz
  · have hb : bnd l a n t = (0, 0, 1) := by unfold bnd; rw [if_neg g]
    rw [hb] at h; simp at h
theorem bnd_pos0 (l : List Int) (a n t : Int) : 0 ≤ (bnd l a n t).2.1 := by
  by_cases h : (bnd l a n t).2.2 = 0
  · have := bnd_pos h
    by_cases g : Asks a n t
    · obtain ⟨_, g2, _⟩ := g; omega
    · have hb : bnd l a n t = (0, 0, 1) := by unfold bnd; rw [if_neg g]
      rw [hb]; exact Int.le_refl _
  · rw [bnd_err h]; exact Int.le_refl _
/-- what a range tells that is not all of the numbers -/
theorem rng_bnd {l : List Int} {a lo hi t : Int} (h1 : lo ≤ hi) (h2 : ¬ hi - lo + 1 = 18446744073709551616) (h3 : 0 ≤ a ∧ 1 ≤ t ∧ t ≤ 64) :
    rng l a lo hi t = if (bnd l a (hi - lo + 1) t).2.2 = 0 then (lo + (bnd l a (hi - lo + 1) t).1, (bnd l a (hi - lo + 1) t).2.1, 0) else (0, 0, (bnd l a (hi - lo + 1) t).2.2) := by
  unfold rng; rw [if_pos ⟨h1, h3⟩, if_neg h2]
theorem rng_ask {l : List Int} {a lo hi t : Int} (h : (rng l a lo hi t).2.2 = 0) : lo ≤ hi ∧ 0 ≤ a ∧ 1 ≤ t ∧ t ≤ 64 := by
  by_cases g : lo ≤ hi ∧ 0 ≤ a ∧ 1 ≤ t ∧ t ≤ 64
  · exact g
  · unfold rng at h; rw [if_neg g] at h; simp at h
theorem rng_pos {l : List Int} {a lo hi t : Int} (h2 : ¬ hi - lo + 1 = 18446744073709551616) (h : (rng l a lo hi t).2.2 = 0) :
    (a < (rng l a lo hi t).2.1 ∧ (rng l a lo hi t).2.1 ≤ l.length ∧ (rng l a lo hi t).2.1 ≤ a + t) ∧ lo ≤ (rng l a lo hi t).1 ∧ (rng l a lo hi t).1 ≤ hi := by
  obtain ⟨g1, g2⟩ := rng_ask h
  have hp := @bnd_pos l a (hi - lo + 1) t
  have hlt := @bnd_lt l a (hi - lo + 1) t (by omega)
  rw [rng_bnd g1 h2 g2] at h ⊢
  generalize bnd l a (hi - lo + 1) t = F at *
  obtain ⟨x, y, z⟩ := F
  by_cases hz : z = 0
  · subst hz
    rw [if_pos rfl]
    have := hp rfl
    simp only at this hlt ⊢
    omega
  · rw [if_neg hz] at h; exact absurd h hz
theorem rng_err {l : List Int} {a lo hi t : Int} (h : ¬ (rng l a lo hi t).2.2 = 0) : rng l a lo hi t = (0, 0, (rng l a lo hi t).2.2) := by
  unfold rng at h ⊢
  split
  · rename_i g
    rw [if_pos g] at h
    split
    · rename_i g2
      rw [if_pos g2] at h
      split
      · rename_i g3; rw [if_pos g3] at h; exact absurd rfl h
      · rfl
    · rename_i g2
      rw [if_neg g2] at h
      simp only at h ⊢
      split
      · rename_i g3; rw [if_pos g3] at h; exact absurd rfl h
      · rfl
  · rfl

/-- so many parts, one by one -/
def cfs (l : List Int) (t : Int) : Nat → Int → List Int → List Int × Int × Int
  | 0, a, acc => (acc, a, 0)
  | k + 1, a, acc => if (rng l a (-4) 4 t).2.2 = 0 then cfs l t k (rng l a (-4) 4 t).2.1 (acc ++ [(rng l a (-4) 4 t).1]) else ([], 0, (rng l a (-4) 4 t).2.2)
/-- parts are drawn until some is not 0 -/
def trs (l : List Int) (d : Nat) (t : Int) : Nat → Int → List Int × Int × Int
  | 0, _ => ([], 0, 61)
  | k + 1, a => if (cfs l t d a []).2.2 = 0 then (if ∃ x ∈ (cfs l t d a []).1, x ≠ 0 then cfs l t d a [] else trs l d t k (cfs l t d a []).2.1) else ([], 0, (cfs l t d a []).2.2)
def cof (l : List Int) (a d t : Int) : List Int × Int × Int := if 1 ≤ d ∧ d ≤ 8 ∧ 0 ≤ a ∧ 1 ≤ t ∧ t ≤ 64 then trs l d.toNat t t.toNat a else ([], 0, 1)
theorem cfs_pos (l : List Int) (t : Int) : ∀ (k : Nat) (a : Int) (acc : List Int), (cfs l t k a acc).2.2 = 0 → (∀ x ∈ acc, -4 ≤ x ∧ x ≤ 4) →
    a + k ≤ (cfs l t k a acc).2.1 ∧ (0 < k → (cfs l t k a acc).2.1 ≤ l.length) ∧ (cfs l t k a acc).2.1 ≤ a + k * t ∧ (cfs l t k a acc).1.length = acc.length + k ∧ ∀ x ∈ (cfs l t k a acc).1, -4 ≤ x ∧ x ≤ 4
  | 0, a, acc => fun _ h => by
    refine ⟨by simp [cfs], by omega, by simp [cfs], by simp [cfs], by simpa [cfs] using h⟩
  | k + 1, a, acc => fun h hacc => by
    unfold cfs at h ⊢
    by_cases g : (rng l a (-4) 4 t).2.2 = 0
    · rw [if_pos g] at h ⊢
      obtain ⟨⟨p1, p2, p3⟩, p4, p5⟩ := rng_pos (by omega) g
      obtain ⟨q1, q2, q3, q4, q5⟩ := cfs_pos l t k _ _ h (fun x hx => by
        rcases List.mem_append.1 hx with e | e
        · exact hacc x e
        · rw [List.mem_singleton.1 e]; omega)
      refine ⟨by omega, fun _ => ?_, ?_, ?_, q5⟩
      · rcases Nat.eq_zero_or_pos k with e | e
        · subst e
          simp only [cfs] at q3 ⊢
          exact p2
        · exact q2 e
      · have : ((k + 1 : Nat) : Int) * t = k * t + t := by rw [Int.natCast_add, Int.add_mul]; simp
        omega
      · rw [List.length_append] at q4; simp only [List.length_singleton] at q4; omega
    · rw [if_neg g] at h; exact absurd h g
theorem cfs_ge0 (l : List Int) (t : Int) (k : Nat) (a : Int) (ha : 0 ≤ a) (h : (cfs l t k a []).2.2 = 0) : 0 ≤ (cfs l t k a []).2.1 := by
  have := (cfs_pos l t k a [] h (by simp)).1; omega
theorem trs_pos (l : List Int) (d : Nat) (t : Int) (hd : 1 ≤ d) (hd8 : d ≤ 8) : ∀ (k : Nat) (a : Int), (trs l d t k a).2.2 = 0 →
    a < (trs l d t k a).2.1 ∧ (trs l d t k a).2.1 ≤ l.length ∧ (0 ≤ t → (trs l d t k a).2.1 ≤ a + k * (d * t)) ∧ partsV (trs l d t k a).1 d = true
  | 0, a => fun h => by simp [trs] at h
  | k + 1, a => fun h => by
    unfold trs at h ⊢
    by_cases g : (cfs l t d a []).2.2 = 0
    · rw [if_pos g] at h ⊢
      obtain ⟨q1, q2, q3, q4, q5⟩ := cfs_pos l t d a [] g (by simp)
      have hm : ((k + 1 : Nat) : Int) * (d * t) = k * (d * t) + d * t := by rw [Int.natCast_add, Int.add_mul]; simp
      have h0 : 0 ≤ t → 0 ≤ (k : Int) * (d * t) := fun ht => Int.mul_nonneg (by omega) (Int.mul_nonneg (by omega) ht)
      by_cases s : ∃ x ∈ (cfs l t d a []).1, x ≠ 0
      · rw [if_pos s] at h ⊢
        refine ⟨by omega, q2 (by omega), fun ht => ?_, partsV_iff.2 ⟨by omega, by omega, ?_, q5, s⟩⟩
        · have := h0 ht; omega
        · rw [q4]; simp
      · rw [if_neg s] at h ⊢
        obtain ⟨r1, r2, r3, r4⟩ := trs_pos l d t hd hd8 k _ h
        refine ⟨by omega, r2, fun ht => ?_, r4⟩
        have := r3 ht; omega
    · rw [if_neg g] at h; exact absurd h g
theorem cof_yes {l : List Int} {a d t : Int} (h : 1 ≤ d ∧ d ≤ 8 ∧ 0 ≤ a ∧ 1 ≤ t ∧ t ≤ 64) : cof l a d t = trs l d.toNat t t.toNat a := by unfold cof; rw [if_pos h]
theorem cof_no {l : List Int} {a d t : Int} (h : ¬ (1 ≤ d ∧ d ≤ 8 ∧ 0 ≤ a ∧ 1 ≤ t ∧ t ≤ 64)) : cof l a d t = ([], 0, 1) := by unfold cof; rw [if_neg h]
theorem cof_pos {l : List Int} {a d t : Int} (h : (cof l a d t).2.2 = 0) : a < (cof l a d t).2.1 ∧ (cof l a d t).2.1 ≤ l.length ∧ (cof l a d t).2.1 ≤ a + t * (d * t) ∧ partsV (cof l a d t).1 d = true := by
  by_cases g : 1 ≤ d ∧ d ≤ 8 ∧ 0 ≤ a ∧ 1 ≤ t ∧ t ≤ 64
  · rw [cof_yes g] at h ⊢
    obtain ⟨r1, r2, r3, r4⟩ := trs_pos l d.toNat t (by omega) (by omega) t.toNat a h
    rw [show ((d.toNat : Nat) : Int) = d from by omega] at r4
    have r3 := r3 (by omega)
    rw [show ((t.toNat : Nat) : Int) = t from by omega, show ((d.toNat : Nat) : Int) = d from by omega] at r3
    exact ⟨r1, r2, r3, r4⟩
  · rw [cof_no g] at h; simp at h
theorem trs_err (l : List Int) (d : Nat) (t : Int) : ∀ (k : Nat) (a : Int), ¬ (trs l d t k a).2.2 = 0 → (trs l d t k a).1 = [] ∧ (trs l d t k a).2.1 = 0
  | 0, a => fun _ => by simp [trs]
  | k + 1, a => fun h => by
    unfold trs at h ⊢
    split
    · rename_i g
      rw [if_pos g] at h
      split
      · rename_i s; rw [if_pos s] at h; exact absurd g h
      · rename_i s; rw [if_neg s] at h; exact trs_err l d t k _ h
    · exact ⟨rfl, rfl⟩
theorem cof_err {l : List Int} {a d t : Int} (h : ¬ (cof l a d t).2.2 = 0) : (cof l a d t).1 = [] ∧ (cof l a d t).2.1 = 0 := by
  by_cases g : 1 ≤ d ∧ d ≤ 8 ∧ 0 ≤ a ∧ 1 ≤ t ∧ t ≤ 64
  · rw [cof_yes g] at h ⊢; exact trs_err _ _ _ _ _ h
  · rw [cof_no g]; exact ⟨rfl, rfl⟩
/-- in a block that is new -/
def New (w : World) (A : Option Addr) : Prop := ∀ ad, A = some ad → w.heap.size ≤ ad.block
theorem New.mono {w w' : World} {A : Option Addr} (h : New w' A) (hs : w.heap.size ≤ w'.heap.size) : New w A := fun ad e => Nat.le_trans hs (h ad e)
/-- a list, a place, an error -/
def GivesC (r : List Int × Int × Int) (w : World) (e : Ending) (w' : World) : Prop :=
  ∃ A c, e = .returned (.tuple #[.slice A r.1.length c, .int .i64 r.2.1, .int .i64 r.2.2]) ∧ r.1.length ≤ c ∧ c ≤ maxLen ∧ Lies w' w'.heap.size A r.1 ∧ New w A ∧ Below w.heap.size w w'
theorem givesC_nil {w w' : World} {x : Int} (h : Below w.heap.size w w') : GivesC ([], 0, x) w (.returned (.tuple #[.slice none 0 0, .int .i64 0, .int .i64 x])) w' :=
  ⟨none, 0, rfl, Nat.le_refl _, by unfold maxLen; omega, fun h1 => absurd h1 (by simp), (fun _ e => by cases e), h⟩
end Go.Proofs.Ytehekdahlnpldaa
