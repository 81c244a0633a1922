/- PickA PickB PickC PickD PickF -/
import Derived.Test.YtpoemflclbhekaaGreatDrawT
import Derived.Test.YtpoemflclbhekaaGreatVecT
/-! Layer 7: the parts of a plane, from draws: numbers. -/
namespace Go.Proofs.YtpoemflclbhekaaGreat
open Go.RowKit
set_option linter.unusedVariables false
set_option linter.unusedSimpArgs false

theorem fnd_pos (l : List Int) (top : Int) : ∀ (t k : Nat), (fnd l top t k).2.2 = 0 → (k : Int) < (fnd l top t k).2.1 ∧ (fnd l top t k).2.1 ≤ l.length ∧ (fnd l top t k).2.1 ≤ k + t
  | 0, k => by rw [fnd_0]; simp
  | t + 1, k => by
    by_cases h : k < l.length
    · by_cases g : l.getD k 0 ≤ top
      · rw [fnd_hit h g]; intro _; refine ⟨?_, ?_, ?_⟩ <;> simp only <;> omega
      · rw [fnd_more h g]
        intro e
        have := fnd_pos l top t (k + 1) e
        omega
    · rw [fnd_out h]; simp
theorem bnd_pos {l : List Int} {a n t : Int} (h : (bnd l a n t).2.2 = 0) : a < (bnd l a n t).2.1 ∧ (bnd l a n t).2.1 ≤ l.length ∧ (bnd l a n t).2.1 ≤ a + t := by
  by_cases g : Asks a n t
  · obtain ⟨g1, g2, g3, g4⟩ := g
    have hb : bnd l a n t = hit n (fnd l (topN n) t.toNat a.toNat) := by unfold bnd; rw [if_pos ⟨g1, g2, g3, g4⟩]
    have hp := fnd_pos l (topN n) t.toNat a.toNat
    rw [hb] at h ⊢
    generalize fnd l (topN n) t.toNat a.toNat = F at *
    obtain ⟨x, y, z⟩ := F
    by_cases hz : z = 0
    · subst hz
      rw [hit_0]
      have := hp rfl
      simp only at this ⊢
      omega
    · rw [hit_e hz] at h; exact absurd h hz
  · have hb : bnd l a n t = (0, 0, 1) := by unfold bnd; rw [if_neg g]
    rw [hb] at h; simp at h
theorem bnd_pos0 (l : List Int) (a n t : Int) : 0 ≤ (bnd l a n t).2.1 := by
  by_cases h : (bnd l a n t).2.2 = 0
  · have := bnd_pos h
    by_cases g : Asks a n t
    · obtain ⟨_, g2, _⟩ := g; omega
    · have hb : bnd l a n t = (0, 0, 1) := by unfold bnd; rw [if_neg g]
      rw [hb]; exact Int.le_refl _
  · rw [bnd_err h]; exact Int.le_refl _
/-- what a range tells that is not all of the numbers -/
theorem rng_bnd {l : List Int} {a lo hi t : Int} (h1 : lo ≤ hi) (h2 : ¬ hi - lo + 1 = 18446744073709551616) (h3 : 0 ≤ a ∧ 1 ≤ t ∧ t ≤ 64) :
    rng l a lo hi t = if (bnd l a (hi - lo + 1) t).2.2 = 0 then (lo + (bnd l a (hi - lo + 1) t).1, (bnd l a (hi - lo + 1) t).2.1, 0) else (0, 0, (bnd l a (hi - lo + 1) t).2.2) := by
  unfold rng; rw [if_pos ⟨h1, h3⟩, if_neg h2]
theorem rng_ask {l : List Int} {a lo hi t : Int} (h : (rng l a lo hi t).2.2 = 0) : lo ≤ hi ∧ 0 ≤ a ∧ 1 ≤ t ∧ t ≤ 64 := by
  by_cases g : lo ≤ hi ∧ 0 ≤ a ∧ 1 ≤ t ∧ t ≤ 64
  · exact g
  · unfold rng at h; rw [if_neg g] at h; simp at h
theorem rng_pos {l : List Int} {a lo hi t : Int} (h2 : ¬ hi - lo + 1 = 18446744073709551616) (h : (rng l a lo hi t).2.2 = 0) :
    (a < (rng l a lo hi t).2.1 ∧ (rng l a lo hi t).2.1 ≤ l.length ∧ (rng l a lo hi t).2.1 ≤ a + t) ∧ lo ≤ (rng l a lo hi t).1 ∧ (rng l a lo hi t).1 ≤ hi := by
  obtain ⟨g1, g2⟩ := rng_ask h
  have hp := @bnd_pos l a (hi - lo + 1) t
  have hlt := @bnd_lt l a (hi - lo + 1) t (by omega)
  rw [rng_bnd g1 h2 g2] at h ⊢
  generalize bnd l a (hi - lo + 1) t = F at *
  obtain ⟨x, y, z⟩ := F
  by_cases hz : z = 0
  · subst hz
    rw [if_pos rfl]
    have := hp rfl
    simp only at this hlt ⊢
    omega
  · rw [if_neg hz] at h; exact absurd h hz
theorem rng_err {l : List Int} {a lo hi t : Int} (h : ¬ (rng l a lo hi t).2.2 = 0) : rng l a lo hi t = (0, 0, (rng l a lo hi t).2.2) := by
  unfold rng at h ⊢
  split
  · rename_i g
    rw [if_pos g] at h
    split
    · rename_i g2
      rw [if_pos g2] at h
      split
      · rename_i g3; rw [if_pos g3] at h; exact absurd rfl h
      · rfl
    · rename_i g2
      rw [if_neg g2] at h
      simp only at h ⊢
      split
      · rename_i g3; rw [if_pos g3] at h; exact absurd rfl h
      · rfl
  · rfl

/-- so many parts, one by one -/
def cfs (l : List Int) (t : Int) : Nat → Int → List Int → List Int × Int × Int
  | 0, a, acc => (acc, a, 0)
  | k + 1, a, acc => if (rng l a (-4) 4 t).2.2 = 0 then cfs l t k (rng l a (-4) 4 t).2.1 (acc ++ [(rng l a (-4) 4 t).1]) else ([], 0, (rng l a (-4) 4 t).2.2)
/-- parts are drawn until some is not 0 -/
def trs (l : List Int) (d : Nat) (t : Int) : Nat → Int → List Int × Int × Int
  | 0, _ => ([], 0, 61)
  | k + 1, a => if (cfs l t d a []).2.2 = 0 then (if ∃ x ∈ (cfs l t d a []).1, x ≠ 0 then cfs l t d a [] else trs l d t k (cfs l t d a []).2.1) else ([], 0, (cfs l t d a []).2.2)
def cof (l : List Int) (a d t : Int) : List Int × Int × Int := if 1 ≤ d ∧ d ≤ 8 ∧ 0 ≤ a ∧ 1 ≤ t ∧ t ≤ 64 then trs l d.toNat t t.toNat a else ([], 0, 1)
theorem cfs_pos (l : List Int) (t : Int) : ∀ (k : Nat) (a : Int) (acc : List Int), (cfs l t k a acc).2.2 = 0 → (∀ x ∈ acc, -4 ≤ x ∧ x ≤ 4) →
    a + k ≤ (cfs l t k a acc).2.1 ∧ (0 < k → (cfs l t k a acc).2.1 ≤ l.length) ∧ (cfs l t k a acc).2.1 ≤ a + k * t ∧ (cfs l t k a acc).1.length = acc.length + k ∧ ∀ x ∈ (cfs l t k a acc).1, -4 ≤ x ∧ x ≤ 4
  | 0, a, acc => fun _ h => by
    refine ⟨by simp [cfs], by omega, by simp [cfs], by simp [cfs], by simpa [cfs] using h⟩
  | k + 1, a, acc => fun h hacc => by
    unfold cfs at h ⊢
    by_cases g : (rng l a (-4) 4 t).2.2 = 0
    · rw [if_pos g] at h ⊢
      obtain ⟨⟨p1, p2, p3⟩, p4, p5⟩ := rng_pos (by omega) g
      obtain ⟨q1, q2, q3, q4, q5⟩ := cfs_pos l t k _ _ h (fun x hx => by
        rcases List.mem_append.1 hx with e | e
        · exact hacc x e
        · rw [List.mem_singleton.1 e]; omega)
      refine ⟨by omega, fun _ => ?_, ?_, ?_, q5⟩
      · rcases Nat.eq_zero_or_pos k with e | e
        · subst e
          simp only [cfs] at q3 ⊢
          exact p2
        · exact q2 e
      · have : ((k + 1 : Nat) : Int) * t = k * t + t := by rw [Int.natCast_add, Int.add_mul]; simp
        omega
      · rw [List.length_append] at q4; simp only [List.length_singleton] at q4; omega
    · rw [if_neg g] at h; exact absurd h g
theorem cfs_ge0 (l : List Int) (t : Int) (k : Nat) (a : Int) (ha : 0 ≤ a) (h : (cfs l t k a []).2.2 = 0) : 0 ≤ (cfs l t k a []).2.1 := by
  have := (cfs_pos l t k a [] h (by simp)).1; omega
theorem trs_pos (l : List Int) (d : Nat) (t : Int) (hd : 1 ≤ d) (hd8 : d ≤ 8) : ∀ (k : Nat) (a : Int), (trs l d t k a).2.2 = 0 →
    a < (trs l d t k a).2.1 ∧ (trs l d t k a).2.1 ≤ l.length ∧ (0 ≤ t → (trs l d t k a).2.1 ≤ a + k * (d * t)) ∧ partsV (trs l d t k a).1 d = true
  | 0, a => fun h => by simp [trs] at h
  | k + 1, a => fun h => by
    unfold trs at h ⊢
    by_cases g : (cfs l t d a []).2.2 = 0
    · rw [if_pos g] at h ⊢
      obtain ⟨q1, q2, q3, q4, q5⟩ := cfs_pos l t d a [] g (by simp)
      have hm : ((k + 1 : Nat) : Int) * (d * t) = k * (d * t) + d * t := by rw [Int.natCast_add, Int.add_mul]; simp
      have h0 : 0 ≤ t → 0 ≤ (k : Int) * (d * t) := fun ht => Int.mul_nonneg (by omega) (Int.mul_nonneg (by omega) ht)
      by_cases s : ∃ x ∈ (cfs l t d a []).1, x ≠ 0
      · rw [if_pos s] at h ⊢
        refine ⟨by omega, q2 (by omega), fun ht => ?_, partsV_iff.2 ⟨by omega, by omega, ?_, q5, s⟩⟩
        · have := h0 ht; omega
        · rw [q4]; simp
      · rw [if_neg s] at h ⊢
        obtain ⟨r1, r2, r3, r4⟩ := trs_pos l d t hd hd8 k _ h
        refine ⟨by omega, r2, fun ht => ?_, r4⟩
        have := r3 ht; omega
    · rw [if_neg g] at h; exact absurd h g
theorem cof_yes {l : List Int} {a d t : Int} (h : 1 ≤ d ∧ d ≤ 8 ∧ 0 ≤ a ∧ 1 ≤ t ∧ t ≤ 64) : cof l a d t = trs l d.toNat t t.toNat a := by unfold cof; rw [if_pos h]
theorem cof_no {l : List Int} {a d t : Int} (h : ¬ (1 ≤ d ∧ d ≤ 8 ∧ 0 ≤ a ∧ 1 ≤ t ∧ t ≤ 64)) : cof l a d t = ([], 0, 1) := by unfold cof; rw [if_neg h]
theorem cof_pos {l : List Int} {a d t : Int} (h : (cof l a d t).2.2 = 0) : a < (cof l a d t).2.1 ∧ (cof l a d t).2.1 ≤ l.length ∧ (cof l a d t).2.1 ≤ a + t * (d * t) ∧ partsV (cof l a d t).1 d = true := by
  by_cases g : 1 ≤ d ∧ d ≤ 8 ∧ 0 ≤ a ∧ 1 ≤ t ∧ t ≤ 64
  · rw [cof_yes g] at h ⊢
    obtain ⟨r1, r2, r3, r4⟩ := trs_pos l d.toNat t (by omega) (by omega) t.toNat a h
    rw [show ((d.toNat : Nat) : Int) = d from by omega] at r4
    have r3 := r3 (by omega)
    rw [show ((t.toNat : Nat) : Int) = t from by omega, show ((d.toNat : Nat) : Int) = d from by omega] at r3
    exact ⟨r1, r2, r3, r4⟩
  · rw [cof_no g] at h; simp at h
theorem trs_err (l : List Int) (d : Nat) (t : Int) : ∀ (k : Nat) (a : Int), ¬ (trs l d t k a).2.2 = 0 → (trs l d t k a).1 = [] ∧ (trs l d t k a).2.1 = 0
  | 0, a => fun _ => by simp [trs]
  | k + 1, a => fun h => by
    unfold trs at h ⊢
    split
    · rename_i g
      rw [if_pos g] at h
      split
      · rename_i s; rw [if_pos s] at h; exact absurd g h
      · rename_i s; rw [if_neg s] at h; exact trs_err l d t k _ h
    · exact ⟨rfl, rfl⟩
theorem cof_err {l : List Int} {a d t : Int} (h : ¬ (cof l a d t).2.2 = 0) : (cof l a d t).1 = [] ∧ (cof l a d t).2.1 = 0 := by
  by_cases g : 1 ≤ d ∧ d ≤ 8 ∧ 0 ≤ a ∧ 1 ≤ t ∧ t ≤ 64
  · rw [cof_yes g] at h ⊢; exact trs_err _ _ _ _ _ h
  · rw [cof_no g]; exact ⟨rfl, rfl⟩
/-- in a block that is new -/
def New (w : World) (A : Option Addr) : Prop := ∀ ad, A = some ad → w.heap.size ≤ ad.block
theorem New.mono {w w' : World} {A : Option Addr} (h : New w' A) (hs : w.heap.size ≤ w'.heap.size) : New w A := fun ad e => Nat.le_trans hs (h ad e)
/-- a list, a place, an error -/
def GivesC (r : List Int × Int × Int) (w : World) (e : Ending) (w' : World) : Prop :=
  ∃ A c, e = .returned (.tuple #[.slice A r.1.length c, .int .i64 r.2.1, .int .i64 r.2.2]) ∧ r.1.length ≤ c ∧ c ≤ maxLen ∧ Lies w' w'.heap.size A r.1 ∧ New w A ∧ Below w.heap.size w w'
theorem givesC_nil {w w' : World} {x : Int} (h : Below w.heap.size w w') : GivesC ([], 0, x) w (.returned (.tuple #[.slice none 0 0, .int .i64 0, .int .i64 x])) w' :=
  ⟨none, 0, rfl, Nat.le_refl _, by unfold maxLen; omega, fun h1 => absurd h1 (by simp), (fun _ e => by cases e), h⟩
end Go.Proofs.YtpoemflclbhekaaGreat
/-! Layer 7: the parts of a plane, from draws: the program's, the reference's. -/
namespace Go.Proofs.YtpoemflclbhekaaGreat
open Go.RowKit
set_option linter.unusedVariables false
set_option linter.unusedSimpArgs false

theorem made_ints (n : Nat) : (madeCells (Value.int .i64 0).cells (n * 1)).toList = litI (List.replicate n 0) := by
  rw [Nat.mul_one]
  refine (toList_madeCells_one _ n).trans ?_
  simp [litI]
/-- a new row of noughts -/
theorem make_ints {wr : World} {ops : Array Oper} {rest : List Oper} {o : Oper} {a : Act} {Q : Exit → Act → World → Prop} (hgd : o.guard = none) (l c : Operand)
    (ho : o.op = Op.makeSlice 39 l c) (n : Nat) (hl : a.eval l = .int .i64 n) (hc : a.eval c = .int .i64 n) (hn : n ≤ 100000000)
    (h : ∀ w', OwnI w' wr.heap.size (List.replicate n 0) → Below wr.heap.size wr w' → wpList Tryz.prog ops Q rest (a.put o.dst (.slice (some ⟨wr.heap.size, 0, none⟩) n n)) w') :
    wpList Tryz.prog ops Q (o :: rest) a wr := by
  obtain ⟨i0, hi, hz0, hz1, hz2⟩ := info_parts infoI
  refine wpList_make_full wr hgd l c 39 ho wr.heap.size 3 i0 (.int .i64 0) 1 Tryz.underlying39 hi hz0 hz1 .i64 .i64 n n n hl hc rfl rfl (by rw [hz2]; omega) (by unfold maxLen; omega) (Nat.le_refl _) ?_
  intro w' h1 h2
  refine h w' ?_ ((Below.refl _ _).grown h2 (Nat.le_refl _) (fun k hk => by cases hk))
  rw [made_ints] at h1
  rcases h1.2 with ⟨e, _⟩ | ⟨g, cap, cur, e, hb, hh, hnc, hm, hsz, hx⟩
  · cases e
  · cases e
    exact ⟨cur, hh, by rw [List.length_replicate]; simpa using hx⟩
theorem noughts_set (acc : List Int) (n x : Int) (D k : Nat) (hk : acc.length = k) (hD : k < D) : (acc ++ List.replicate (D - k) 0).set k x = (acc ++ [x]) ++ List.replicate (D - (k + 1)) 0 := by
  subst hk
  rw [List.set_append_right _ _ (Nat.le_refl _), Nat.sub_self, show D - acc.length = (D - (acc.length + 1)) + 1 from by omega, List.replicate_succ]
  simp
theorem cfs_step {l : List Int} {t : Int} {k : Nat} {a : Int} {acc : List Int} (h : (rng l a (-4) 4 t).2.2 = 0) : cfs l t (k + 1) a acc = cfs l t k (rng l a (-4) 4 t).2.1 (acc ++ [(rng l a (-4) 4 t).1]) := by rw [cfs, if_pos h]
theorem cfs_fail {l : List Int} {t : Int} {k : Nat} {a : Int} {acc : List Int} (h : ¬ (rng l a (-4) 4 t).2.2 = 0) : cfs l t (k + 1) a acc = ([], 0, (rng l a (-4) 4 t).2.2) := by rw [cfs, if_neg h]
theorem rng_at {l : List Int} {a t : Int} (hl : (l.length : Int) ≤ 9223372036854775807) (h : (rng l a (-4) 4 t).2.2 = 0) (ha : 0 ≤ a) : 0 ≤ (rng l a (-4) 4 t).2.1 ∧ (rng l a (-4) 4 t).2.1 ≤ 9223372036854775807 := by
  have := (rng_pos (by omega) h).1; omega
theorem some_take {c : List Int} {k : Nat} (hk : k < c.length) (h : ∀ j, j < k → c.getD j 0 = 0) (hx : c.getD k 0 = 0) : ∀ j, j < k + 1 → c.getD j 0 = 0 := fun j hj => by
  rcases Nat.lt_or_ge j k with g | g
  · exact h j g
  · rw [show j = k from by omega]; exact hx
theorem some_not {c : List Int} (h : ∀ j, j < c.length → c.getD j 0 = 0) : ¬ ∃ x ∈ c, x ≠ 0 := by
  rintro ⟨x, hx, hn⟩
  obtain ⟨j, hj, rfl⟩ := List.mem_iff_getElem.1 hx
  have := h j hj
  rw [List.getD_eq_getElem?_getD, List.getElem?_eq_getElem hj] at this
  exact hn this
theorem trs_hit {l : List Int} {d : Nat} {t : Int} {k : Nat} {a : Int} (h : (cfs l t d a []).2.2 = 0) (s : ∃ x ∈ (cfs l t d a []).1, x ≠ 0) : trs l d t (k + 1) a = cfs l t d a [] := by rw [trs, if_pos h, if_pos s]
theorem trs_more {l : List Int} {d : Nat} {t : Int} {k : Nat} {a : Int} (h : (cfs l t d a []).2.2 = 0) (s : ¬ ∃ x ∈ (cfs l t d a []).1, x ≠ 0) : trs l d t (k + 1) a = trs l d t k (cfs l t d a []).2.1 := by rw [trs, if_pos h, if_neg s]
theorem trs_fail {l : List Int} {d : Nat} {t : Int} {k : Nat} {a : Int} (h : ¬ (cfs l t d a []).2.2 = 0) : trs l d t (k + 1) a = ([], 0, (cfs l t d a []).2.2) := by rw [trs, if_neg h]
theorem cfs_err (l : List Int) (t : Int) : ∀ (k : Nat) (a : Int) (acc : List Int), ¬ (cfs l t k a acc).2.2 = 0 → (cfs l t k a acc).1 = [] ∧ (cfs l t k a acc).2.1 = 0
  | 0, a, acc => fun h => absurd rfl h
  | k + 1, a, acc => fun h => by
    unfold cfs at h ⊢
    split
    · rename_i g; rw [if_pos g] at h; exact cfs_err l t k _ _ h
    · exact ⟨rfl, rfl⟩
theorem cfs_at {l : List Int} {t a : Int} {d : Nat} (hl : (l.length : Int) ≤ 9223372036854775807) (hd : 1 ≤ d) (h : (cfs l t d a []).2.2 = 0) (ha : 0 ≤ a) : (0 ≤ (cfs l t d a []).2.1 ∧ (cfs l t d a []).2.1 ≤ 9223372036854775807) ∧ (cfs l t d a []).1.length = d := by
  obtain ⟨q1, q2, q3, q4, q5⟩ := cfs_pos l t d a [] h (by simp)
  have := q2 (by omega)
  refine ⟨by omega, by rw [q4]; simp⟩
end Go.Proofs.YtpoemflclbhekaaGreat
/-! Layer 7: the parts of a plane, from draws: the reference's. -/
namespace Go.Proofs.YtpoemflclbhekaaGreat
open Go.RowKit
set_option linter.unusedVariables false
set_option linter.unusedSimpArgs false

def anyN (l : List Int) : Bool := l.any fun x => x != 0
theorem anyN_snoc (l : List Int) (n : Int) : anyN (l ++ [n]) = (anyN l || n != 0) := by simp [anyN]
theorem anyN_iff (l : List Int) : anyN l = true ↔ ∃ x ∈ l, x ≠ 0 := by simp [anyN]
theorem new_own {w w' : World} {v : Value} {l : List Int} {A : Option Addr} {n c : Nat} {e : TypeId} (h : w'.ownsRow w.heap.size e 1 v l.length (litI l)) (hv : v = .slice A n c) : New w A := fun ad e => by
  subst hv; subst e
  rcases h.2 with ⟨h1, _⟩ | ⟨g, cap, cur, h1, hb, _⟩
  · cases h1
  · cases h1; exact hb
end Go.Proofs.YtpoemflclbhekaaGreat
/-! Layer 7: rows whose places are exchanged: numbers. -/
namespace Go.Proofs.YtpoemflclbhekaaGreat
open Go.RowKit
set_option linter.unusedVariables false
set_option linter.unusedSimpArgs false

/-- two places exchanged -/
def swp (f : Int → Int) (i j : Int) : Int → Int := fun x => if x = j then f i else if x = i then f j else f x
def upd (f : Int → Int) (i n : Int) : Int → Int := fun x => if x = i then n else f x
theorem upd_upd (f : Int → Int) (i j : Int) : upd (upd f i (f j)) j (f i) = swp f i j := by funext x; simp only [upd, swp]
/-- the row behind so many picks -/
def ply (p : List Int) : Nat → Int → Int
  | 0 => fun x => x
  | k + 1 => swp (ply p k) k (k + p.getD k 0)
def plyV (p : List Int) : List Int := (List.range p.length).map (fun (i : Nat) => ply p p.length i)
/-- the row, and where each number stands in it, behind so many numbers -/
def bck (s : List Int) : Nat → (Int → Int) × (Int → Int)
  | 0 => (fun x => x, fun x => x)
  | k + 1 => (swp (bck s k).1 k ((bck s k).2 (s.getD k 0)), swp (bck s k).2 (s.getD k 0) ((bck s k).1 k))
def bckP (s : List Int) (k : Nat) : Int := (bck s k).2 (s.getD k 0) - k
def bckV (s : List Int) : List Int := (List.range s.length).map (bckP s)
theorem plyV_len (p : List Int) : (plyV p).length = p.length := by simp [plyV]
theorem bckV_len (p : List Int) : (bckV p).length = p.length := by simp [bckV]
theorem plyV_get (p : List Int) {j : Nat} (h : j < p.length) : (plyV p).getD j 0 = ply p p.length j := by simp [plyV, List.getD, h]
theorem bckV_get (p : List Int) {j : Nat} (h : j < p.length) : (bckV p).getD j 0 = bckP p j := by simp [bckV, List.getD, h]

theorem inv_step {f g : Int → Int} (h1 : ∀ x, g (f x) = x) (h2 : ∀ x, f (g x) = x) (k n : Int) :
    (∀ x, swp g n (f k) (swp f k (g n) x) = x) ∧ (∀ x, swp f k (g n) (swp g n (f k) x) = x) := by
  have hinj : ∀ a b, f a = f b → a = b := fun a b e => by have := congrArg g e; rwa [h1, h1] at this
  have ginj : ∀ a b, g a = g b → a = b := fun a b e => by have := congrArg f e; rwa [h2, h2] at this
  constructor
  · intro x
    unfold swp
    by_cases hx : x = g n
    · subst hx
      simp
    · rw [if_neg hx]
      by_cases hk : x = k
      · subst hk
        rw [if_pos rfl, h2]
        have : ¬ n = f x := fun e => hx (by rw [e, h1])
        rw [if_neg this, if_pos rfl, h1]
      · rw [if_neg hk]
        have e1 : ¬ f x = f k := fun e => hk (hinj _ _ e)
        have e2 : ¬ f x = n := fun e => hx (by rw [← e, h1])
        rw [if_neg e1, if_neg e2, h1]
  · intro x
    unfold swp
    by_cases hx : x = f k
    · subst hx
      simp
    · rw [if_neg hx]
      by_cases hk : x = n
      · subst hk
        rw [if_pos rfl, h1]
        have : ¬ k = g x := fun e => hx (by rw [e, h2])
        rw [if_neg this, if_pos rfl, h2]
      · rw [if_neg hk]
        have e1 : ¬ g x = g n := fun e => hk (ginj _ _ e)
        have e2 : ¬ g x = k := fun e => hx (by rw [← e, h2])
        rw [if_neg e1, if_neg e2, h2]
theorem bck_inv (s : List Int) : ∀ k, (∀ x, (bck s k).2 ((bck s k).1 x) = x) ∧ (∀ x, (bck s k).1 ((bck s k).2 x) = x)
  | 0 => ⟨fun _ => rfl, fun _ => rfl⟩
  | k + 1 => inv_step (bck_inv s k).1 (bck_inv s k).2 k (s.getD k 0)
theorem swp_range {f : Int → Int} {N i j : Int} (h : ∀ x, 0 ≤ x → x < N → 0 ≤ f x ∧ f x < N) (hi : 0 ≤ i ∧ i < N) (hj : 0 ≤ j ∧ j < N) : ∀ x, 0 ≤ x → x < N → 0 ≤ swp f i j x ∧ swp f i j x < N := by
  intro x h0 h1
  unfold swp
  split
  · exact h _ hi.1 hi.2
  · split
    · exact h _ hj.1 hj.2
    · exact h _ h0 h1
/-- picks of so many numbers -/
def picksOk (n : Int) (p : List Int) : Prop := ∀ k : Nat, k < p.length → 0 ≤ p.getD k 0 ∧ p.getD k 0 ≤ n - k - 1
theorem ply_range {n : Int} {p : List Int} (hp : picksOk n p) : ∀ k, k ≤ p.length → ∀ x, 0 ≤ x → x < n → 0 ≤ ply p k x ∧ ply p k x < n
  | 0, _ => fun x h0 h1 => ⟨h0, h1⟩
  | k + 1, hk => by
    have := hp k (by omega)
    exact swp_range (ply_range hp k (by omega)) (by omega) (by omega)
theorem ply_stays {n : Int} {p : List Int} (hp : picksOk n p) {j : Nat} : ∀ m, m ≤ p.length → j < m → ply p m j = ply p (j + 1) j
  | 0, _, h => absurd h (by omega)
  | m + 1, hm, h => by
    by_cases e : j = m
    · rw [e]
    · rw [← ply_stays hp m (by omega) (by omega)]
      show swp _ _ _ _ = _
      have := hp m (by omega)
      unfold swp
      rw [if_neg (by omega), if_neg (by omega)]
theorem ply_at (p : List Int) (j : Nat) : ply p (j + 1) j = ply p j (j + p.getD j 0) := by
  show swp _ _ _ _ = _
  unfold swp
  by_cases h : ((j : Nat) : Int) = j + p.getD j 0
  · rw [if_pos h]; rw [← h]
  · rw [if_neg h, if_pos rfl]
/-- different numbers below n -/
def diffV (s : List Int) (n : Int) : Prop := s.Nodup ∧ ∀ x ∈ s, 0 ≤ x ∧ x < n
/-- each number stands at its turn or behind it -/
def bckOk (s : List Int) (n : Int) : Prop := ∀ k : Nat, k < s.length → (k : Int) ≤ (bck s k).2 (s.getD k 0) ∧ (bck s k).2 (s.getD k 0) < n
theorem bck_range {s : List Int} {n : Int} : ∀ m : Nat, (∀ k : Nat, k < m → (k : Int) ≤ (bck s k).2 (s.getD k 0) ∧ (bck s k).2 (s.getD k 0) < n) → ∀ x, 0 ≤ x → x < n → 0 ≤ (bck s m).1 x ∧ (bck s m).1 x < n
  | 0, _ => fun x h0 h1 => ⟨h0, h1⟩
  | k + 1, h => by
    have := h k (by omega)
    exact swp_range (bck_range k (fun j hj => h j (by omega))) (by omega) (by omega)
theorem bck_done {s : List Int} {n : Int} : ∀ m : Nat, (∀ k : Nat, k < m → (k : Int) ≤ (bck s k).2 (s.getD k 0) ∧ (bck s k).2 (s.getD k 0) < n) → ∀ j : Nat, j < m → (bck s m).1 j = s.getD j 0
  | 0, _ => fun j hj => absurd hj (by omega)
  | k + 1, h => fun j hj => by
    have hk := h k (by omega)
    show swp _ _ _ _ = _
    unfold swp
    by_cases e : j = k
    · subst e
      by_cases g : (j : Int) = (bck s j).2 (s.getD j 0)
      · rw [if_pos g, g, (bck_inv s j).2]
      · rw [if_neg g, if_pos rfl, (bck_inv s j).2]
    · rw [if_neg (by omega), if_neg (by omega)]
      exact bck_done k (fun i hi => h i (by omega)) j (by omega)
/-- the numbers below n stay below n, backwards too -/
theorem bck_rangeG {s : List Int} {n : Int} (m : Nat) (h : ∀ k : Nat, k < m → (k : Int) ≤ (bck s k).2 (s.getD k 0) ∧ (bck s k).2 (s.getD k 0) < n) (hs : ∀ x ∈ s, 0 ≤ x ∧ x < n) (hm : m ≤ s.length) : ∀ x, 0 ≤ x → x < n → 0 ≤ (bck s m).2 x ∧ (bck s m).2 x < n := by
  induction m with
  | zero => exact fun x h0 h1 => ⟨h0, h1⟩
  | succ k ih =>
    have hr := bck_range k (fun j hj => h j (by omega))
    have hk := h k (by omega)
    exact swp_range (ih (fun j hj => h j (by omega)) (by omega)) (hs _ (mem_getD (by omega))) (hr _ (by omega) (by omega))
theorem nodup_getD {s : List Int} (h : s.Nodup) {i j : Nat} (hi : i < s.length) (hj : j < s.length) (e : s.getD i 0 = s.getD j 0) : i = j := by
  rw [List.getD_eq_getElem?_getD, List.getD_eq_getElem?_getD, List.getElem?_eq_getElem hi, List.getElem?_eq_getElem hj] at e
  have h2 := List.pairwise_iff_getElem.1 h
  rcases Nat.lt_trichotomy i j with g | g | g
  · exact absurd e (h2 i j hi hj g)
  · exact g
  · exact absurd e.symm (h2 j i hj hi g)
theorem nodup_of_getD {s : List Int} (h : ∀ i j, i < s.length → j < s.length → i < j → s.getD i 0 ≠ s.getD j 0) : s.Nodup := by
  rw [List.Nodup, List.pairwise_iff_getElem]
  intro i j hi hj hij
  have := h i j hi hj hij
  rw [List.getD_eq_getElem?_getD, List.getD_eq_getElem?_getD, List.getElem?_eq_getElem hi, List.getElem?_eq_getElem hj] at this
  exact this
theorem diff_ok {s : List Int} {n : Int} (h : diffV s n) : ∀ m : Nat, m ≤ s.length → ∀ k : Nat, k < m → (k : Int) ≤ (bck s k).2 (s.getD k 0) ∧ (bck s k).2 (s.getD k 0) < n
  | 0, _ => fun k hk => absurd hk (by omega)
  | m + 1, hm => fun k hk => by
    have ih := diff_ok h m (by omega)
    by_cases e : k = m
    · subst e
      have hs := h.2 _ (mem_getD (l := s) (k := k) (by omega))
      have hg := bck_rangeG k ih h.2 (by omega) _ hs.1 hs.2
      refine ⟨?_, hg.2⟩
      apply Classical.byContradiction
      intro hlt
      obtain ⟨j, hj⟩ : ∃ j : Nat, (bck s k).2 (s.getD k 0) = j := ⟨((bck s k).2 (s.getD k 0)).toNat, by omega⟩
      have hjk : j < k := by omega
      have h1 := bck_done k ih j hjk
      rw [← hj, (bck_inv s k).2] at h1
      have := nodup_getD h.1 (by omega) (by omega) h1
      omega
    · exact ih k (by omega)
theorem bckOk_iff {s : List Int} {n : Int} : bckOk s n ↔ diffV s n := by
  constructor
  · intro h
    refine ⟨nodup_of_getD fun i j hi hj hij e => ?_, fun x hx => ?_⟩
    · have h1 := bck_done (s.length) h i hi
      have h2 := bck_done (s.length) h j hj
      rw [e] at h1
      have := congrArg (bck s s.length).2 (h1.trans h2.symm)
      rw [(bck_inv s _).1, (bck_inv s _).1] at this
      omega
    · obtain ⟨j, hj, rfl⟩ := List.mem_iff_getElem.1 hx
      have hk := h j hj
      have hr := bck_range j (fun i hi => h i (by omega)) ((bck s j).2 (s.getD j 0)) (by omega) hk.2
      rw [(bck_inv s j).2, List.getD_eq_getElem?_getD, List.getElem?_eq_getElem hj] at hr
      exact hr
  · exact fun h k hk => diff_ok h s.length (Nat.le_refl _) k hk
theorem bckOk_len {s : List Int} {n : Int} (h : bckOk s n) : (s.length : Int) ≤ n ∨ s.length = 0 := by
  rcases Nat.eq_zero_or_pos s.length with e | e
  · exact .inr e
  · left
    have := h (s.length - 1) (by omega)
    omega
theorem bckP_ok {s : List Int} {n : Int} (h : bckOk s n) : picksOk n (bckV s) := by
  intro k hk
  rw [bckV_len] at hk
  rw [bckV_get s hk]
  have := h k hk
  unfold bckP
  omega
theorem ply_bck (s : List Int) : ∀ k, k ≤ s.length → ply (bckV s) k = (bck s k).1
  | 0, _ => rfl
  | k + 1, hk => by
    show swp _ _ _ = swp _ _ _
    rw [ply_bck s k (by omega), bckV_get s (by omega)]
    unfold bckP
    congr 1
    omega
theorem list_ext_getD {a b : List Int} (hl : a.length = b.length) (h : ∀ j, j < a.length → a.getD j 0 = b.getD j 0) : a = b := by
  apply List.ext_getElem hl
  intro j h1 h2
  have := h j h1
  rw [List.getD_eq_getElem?_getD, List.getD_eq_getElem?_getD, List.getElem?_eq_getElem h1, List.getElem?_eq_getElem h2] at this
  exact this
/-- what was told back is played as it was -/
theorem ply_of_bck {s : List Int} {n : Int} (h : bckOk s n) : plyV (bckV s) = s := by
  apply list_ext_getD
  · rw [plyV_len, bckV_len]
  · intro j hj
    rw [plyV_len] at hj
    rw [plyV_get _ hj, bckV_len, ply_bck s _ (Nat.le_refl _)]
    rw [bckV_len] at hj
    exact bck_done s.length h j hj
theorem plyV_at {n : Int} {p : List Int} (hp : picksOk n p) {j : Nat} (hj : j < p.length) : (plyV p).getD j 0 = ply p j (j + p.getD j 0) := by
  rw [plyV_get p hj, ply_stays hp _ (Nat.le_refl _) hj, ply_at]
theorem bck_ply {n : Int} {p : List Int} (hp : picksOk n p) : ∀ k, k ≤ p.length → (bck (plyV p) k).1 = ply p k
  | 0, _ => rfl
  | k + 1, hk => by
    have ih := bck_ply hp k (by omega)
    have hv := (bck_inv (plyV p) k).1 (k + p.getD k 0)
    rw [ih, ← plyV_at hp (by omega)] at hv
    show swp _ _ _ = swp _ _ _
    rw [hv, ih]
theorem bckP_ply {n : Int} {p : List Int} (hp : picksOk n p) {k : Nat} (hk : k < p.length) : (bck (plyV p) k).2 ((plyV p).getD k 0) = k + p.getD k 0 := by
  have hv := (bck_inv (plyV p) k).1 (k + p.getD k 0)
  rwa [bck_ply hp k (by omega), ← plyV_at hp hk] at hv
theorem bck_of_ply {n : Int} {p : List Int} (hp : picksOk n p) : bckV (plyV p) = p ∧ bckOk (plyV p) n := by
  constructor
  · apply list_ext_getD
    · rw [bckV_len, plyV_len]
    · intro j hj
      rw [bckV_len] at hj
      rw [bckV_get _ hj]
      rw [plyV_len] at hj
      unfold bckP
      rw [bckP_ply hp hj]
      omega
  · intro k hk
    rw [plyV_len] at hk
    rw [bckP_ply hp hk]
    have := hp k hk
    omega

/-- picks that are drawn -/
def smp (l : List Int) (t n : Int) : Nat → Nat → Int → List Int → List Int × Int × Int
  | 0, _, a, acc => (acc, a, 0)
  | k + 1, i, a, acc => if (bnd l a (n - i) t).2.2 = 0 then smp l t n k (i + 1) (bnd l a (n - i) t).2.1 (acc ++ [(bnd l a (n - i) t).1]) else ([], 0, (bnd l a (n - i) t).2.2)
theorem smp_pos (l : List Int) (t n : Int) : ∀ (k i : Nat) (a : Int) (acc : List Int), (smp l t n k i a acc).2.2 = 0 → acc.length = i → (i + k : Int) ≤ n → picksOk n acc →
    a + k ≤ (smp l t n k i a acc).2.1 ∧ (smp l t n k i a acc).2.1 ≤ a + k * t ∧ (0 < k → (smp l t n k i a acc).2.1 ≤ l.length) ∧ (smp l t n k i a acc).1.length = i + k ∧ picksOk n (smp l t n k i a acc).1
  | 0, i, a, acc => fun _ h1 _ h3 => ⟨by simp [smp], by simp [smp], by omega, by simp [smp, h1], by simpa [smp] using h3⟩
  | k + 1, i, a, acc => fun h h1 h2 h3 => by
    unfold smp at h ⊢
    by_cases g : (bnd l a (n - i) t).2.2 = 0
    · rw [if_pos g] at h ⊢
      have hp := bnd_pos g
      have hlt := bnd_lt (l := l) (a := a) (n := n - i) (t := t) (by omega)
      have ih := smp_pos l t n k (i + 1) (bnd l a (n - i) t).2.1 (acc ++ [(bnd l a (n - i) t).1]) h (by simp [h1]) (by omega) ?_
      · obtain ⟨q1, q2, q3, q4, q5⟩ := ih
        have hm : ((k + 1 : Nat) : Int) * t = k * t + t := by rw [Int.natCast_add, Int.add_mul]; simp
        refine ⟨by omega, by omega, fun _ => ?_, by omega, q5⟩
        rcases Nat.eq_zero_or_pos k with e | e
        · subst e
          simp only [smp] at q3 ⊢
          exact hp.2.1
        · exact q3 e
      · intro j hj
        rw [List.length_append, List.length_singleton] at hj
        by_cases e : j < acc.length
        · rw [List.getD_eq_getElem?_getD, List.getElem?_append_left e, ← List.getD_eq_getElem?_getD]
          exact h3 j e
        · have hje : j = acc.length := by omega
          rw [List.getD_eq_getElem?_getD, List.getElem?_append_right (by omega), hje]
          simp only [Nat.sub_self, List.getElem?_cons_zero, Option.getD_some]
          omega
    · rw [if_neg g] at h; exact absurd h g
theorem smp_err (l : List Int) (t n : Int) : ∀ (k i : Nat) (a : Int) (acc : List Int), ¬ (smp l t n k i a acc).2.2 = 0 → (smp l t n k i a acc).1 = [] ∧ (smp l t n k i a acc).2.1 = 0
  | 0, i, a, acc => fun h => absurd rfl h
  | k + 1, i, a, acc => fun h => by
    unfold smp at h ⊢
    split
    · rename_i g; rw [if_pos g] at h; exact smp_err l t n k _ _ _ h
    · exact ⟨rfl, rfl⟩
/-- a sample, the place behind, an error -/
def sampV (l : List Int) (a n k t : Int) : List Int × Int × Int :=
  if 0 ≤ n ∧ n ≤ 256 ∧ 0 ≤ k ∧ k ≤ n ∧ 0 ≤ a ∧ 1 ≤ t ∧ t ≤ 64 then (if (smp l t n k.toNat 0 a []).2.2 = 0 then (plyV (smp l t n k.toNat 0 a []).1, (smp l t n k.toNat 0 a []).2.1, 0) else ([], 0, (smp l t n k.toNat 0 a []).2.2)) else ([], 0, 1)
def playOk (n : Int) (p : List Int) : Prop := 0 ≤ n ∧ n ≤ 256 ∧ (p.length : Int) ≤ n ∧ picksOk n p
def backOk (n : Int) (s : List Int) : Prop := 0 ≤ n ∧ n ≤ 256 ∧ diffV s n
end Go.Proofs.YtpoemflclbhekaaGreat
/-! Layer 7: the reference's row, Sample, Play. -/
namespace Go.Proofs.YtpoemflclbhekaaGreat
open Go.RowKit
set_option linter.unusedVariables false
set_option linter.unusedSimpArgs false

/-- the first numbers of a row -/
def upF (f : Int → Int) (k : Nat) : List Int := (List.range k).map (fun (i : Nat) => f i)
theorem upF_len (f : Int → Int) (k : Nat) : (upF f k).length = k := by simp [upF]
theorem upF_succ (f : Int → Int) (k : Nat) : upF f (k + 1) = upF f k ++ [f k] := by simp [upF, List.range_succ]
theorem upF_get (f : Int → Int) {j k : Nat} (h : j < k) : (upF f k).getD j 0 = f j := by simp [upF, List.getD, h]
theorem upF_swap (f : Int → Int) {n i j : Nat} (hi : i < n) (hj : j < n) : ((upF f n).set j (f i)).set i (f j) = upF (swp f i j) n := by
  apply List.ext_getElem (by simp [upF])
  intro x h1 h2
  simp only [upF, List.getElem_set, List.getElem_map, List.getElem_range]
  unfold swp
  by_cases e1 : i = x
  · subst e1
    by_cases e2 : i = j
    · subst e2; simp
    · rw [if_pos rfl, if_neg (by omega), if_pos rfl]
  · rw [if_neg e1]
    by_cases e2 : j = x
    · subst e2; simp
    · rw [if_neg e2, if_neg (by omega), if_neg (by omega)]
theorem upF_take (f : Int → Int) {k n : Nat} (h : k ≤ n) : (upF f n).take k = upF f k := by
  apply List.ext_getElem (by simp [upF]; omega)
  intro x h1 h2
  simp [upF]
theorem plyV_up (p : List Int) {k : Nat} (h : p.length = k) : plyV p = upF (ply p k) k := by subst h; rfl
theorem ply_congr {p q : List Int} : ∀ k, (∀ j, j < k → p.getD j 0 = q.getD j 0) → ply p k = ply q k
  | 0, _ => rfl
  | k + 1, h => by
    show swp _ _ _ = swp _ _ _
    rw [ply_congr k (fun j hj => h j (by omega)), h k (by omega)]
theorem ply_snoc {p : List Int} {k : Nat} (h : p.length = k) (x : Int) : ply (p ++ [x]) (k + 1) = swp (ply p k) k (k + x) := by
  subst h
  show swp _ _ _ = _
  rw [ply_congr (q := p) p.length (fun j hj => by rw [List.getD_eq_getElem?_getD, List.getElem?_append_left hj, ← List.getD_eq_getElem?_getD])]
  congr 2
  simp [List.getD]
theorem picks_snoc {n : Int} {p : List Int} {k : Nat} (h : p.length = k) (hp : picksOk n p) {x : Int} (h0 : 0 ≤ x) (h1 : x ≤ n - k - 1) : picksOk n (p ++ [x]) := by
  intro j hj
  rw [List.length_append, List.length_singleton] at hj
  by_cases e : j < p.length
  · rw [List.getD_eq_getElem?_getD, List.getElem?_append_left e, ← List.getD_eq_getElem?_getD]
    exact hp j e
  · have hje : j = p.length := by omega
    rw [List.getD_eq_getElem?_getD, List.getElem?_append_right (by omega), hje]
    simp only [Nat.sub_self, List.getElem?_cons_zero, Option.getD_some]
    omega
theorem smp_step {l : List Int} {t n : Int} {k i : Nat} {a : Int} {acc : List Int} (h : (bnd l a (n - i) t).2.2 = 0) : smp l t n (k + 1) i a acc = smp l t n k (i + 1) (bnd l a (n - i) t).2.1 (acc ++ [(bnd l a (n - i) t).1]) := by rw [smp, if_pos h]
theorem smp_fail {l : List Int} {t n : Int} {k i : Nat} {a : Int} {acc : List Int} (h : ¬ (bnd l a (n - i) t).2.2 = 0) : smp l t n (k + 1) i a acc = ([], 0, (bnd l a (n - i) t).2.2) := by rw [smp, if_neg h]
theorem bnd_at {l : List Int} {a n t : Int} (hl : (l.length : Int) ≤ 9223372036854775807) (h : (bnd l a n t).2.2 = 0) (ha : 0 ≤ a) : 0 ≤ (bnd l a n t).2.1 ∧ (bnd l a n t).2.1 ≤ 9223372036854775807 := by
  have := bnd_pos h; omega
/-- it gives a new row of these numbers -/
def GivesN (l : List Int) (w : World) (e : Ending) (w' : World) : Prop := ∃ A c, e = .returned (.slice A l.length c) ∧ l.length ≤ c ∧ c ≤ maxLen ∧ Lies w' w'.heap.size A l ∧ New w A ∧ Below w.heap.size w w'
/-- a row, and whether there is one -/
def GivesP (r : List Int × Bool) (w : World) (e : Ending) (w' : World) : Prop :=
  ∃ A c, e = .returned (.tuple #[.slice A r.1.length c, .bool r.2]) ∧ r.1.length ≤ c ∧ c ≤ maxLen ∧ Lies w' w'.heap.size A r.1 ∧ New w A ∧ Below w.heap.size w w'
theorem givesP_nil {w w' : World} {b : Bool} (h : Below w.heap.size w w') : GivesP ([], b) w (.returned (.tuple #[.slice none 0 0, .bool b])) w' :=
  ⟨none, 0, rfl, Nat.le_refl _, by unfold maxLen; omega, fun h1 => absurd h1 (by simp), (fun _ e => by cases e), h⟩
instance (n : Int) (p : List Int) : Decidable (picksOk n p) := by unfold picksOk; exact inferInstance
instance (n : Int) (p : List Int) : Decidable (playOk n p) := by unfold playOk; exact inferInstance
instance (s : List Int) (n : Int) : Decidable (diffV s n) := by unfold diffV; exact inferInstance
instance (n : Int) (s : List Int) : Decidable (backOk n s) := by unfold backOk; exact inferInstance
def playV (n : Int) (p : List Int) : List Int × Bool := if playOk n p then (plyV p, true) else ([], false)
def backV (n : Int) (s : List Int) : List Int × Bool := if backOk n s then (bckV s, true) else ([], false)

/-- the row of the call's own, if it has places -/
def Own7 (w0 : World) (A : Option Addr) (N : Nat) (f : Int → Int) (w : World) : Prop := 0 < N → ∃ g, A = some ⟨g, 0, none⟩ ∧ w0.heap.size ≤ g ∧ OwnI w g (upF f N)
theorem Own7.below {w0 : World} {A : Option Addr} {N : Nat} {f : Int → Int} {w w' : World} (h : Own7 w0 A N f w) (hb : Below w.heap.size w w') : Own7 w0 A N f w' := fun h0 => by
  obtain ⟨g, e, h1, h2⟩ := h h0
  exact ⟨g, e, h1, h2.below hb h2.lt⟩
theorem Own7.lies {w0 : World} {A : Option Addr} {N : Nat} {f : Int → Int} {w : World} (h : Own7 w0 A N f w) {k : Nat} (hk : k ≤ N) : Lies w w.heap.size A (upF f k) := fun h0 => by
  rw [upF_len] at h0
  obtain ⟨g, rfl, h1, h2⟩ := h (by omega)
  obtain ⟨ad, e, hb, hc⟩ := h2.lies (by rw [upF_len]; omega)
  refine ⟨ad, e, hb, fun j hj => ?_⟩
  rw [upF_len] at hj
  rw [hc j (by rw [upF_len]; omega), upF_get f hj, upF_get f (by omega)]
theorem Own7.new {w0 : World} {A : Option Addr} {N : Nat} {f : Int → Int} {w : World} (h : Own7 w0 A N f w) (h0 : 0 < N) : New w0 A := fun ad e => by
  obtain ⟨g, rfl, h1, _⟩ := h h0
  cases e; exact h1

/-- it gives a row of so many places, each with its own number -/
def GivesR (N : Nat) (w : World) (e : Ending) (w' : World) : Prop := ∃ A c, e = .returned (.slice A N c) ∧ N ≤ c ∧ c ≤ maxLen ∧ Own7 w A N (fun x => x) w' ∧ Below w.heap.size w w'
end Go.Proofs.YtpoemflclbhekaaGreat
