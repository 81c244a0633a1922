/- Layer 21 (bin): numbers as bytes: the numbers alone. -/
import Derived.Test.YtpoemflclbhekaaGreatBase
namespace Go.Proofs.YtpoemflclbhekaaGreat
open Go.RowKit
set_option linter.unusedVariables false
set_option linter.unusedSimpArgs false

/-- bytes -/
def byt (l : List Int) : Prop := ∀ x ∈ l, 0 ≤ x ∧ x < 256
theorem byt.getD {l : List Int} (h : byt l) (k : Nat) : 0 ≤ l.getD k 0 ∧ l.getD k 0 < 256 := by
  rw [List.getD_eq_getElem?_getD]
  rcases hk : l[k]? with _ | x
  · simp
  · exact h x (List.mem_of_getElem? hk)
theorem byt.append {a b : List Int} (ha : byt a) (hb : byt b) : byt (a ++ b) := fun x hx => (List.mem_append.1 hx).elim (ha x) (hb x)
theorem byt.drop {a : List Int} (ha : byt a) (n : Nat) : byt (a.drop n) := fun x hx => ha x (List.mem_of_mem_drop hx)
theorem byt.take {a : List Int} (ha : byt a) (n : Nat) : byt (a.take n) := fun x hx => ha x (List.mem_of_mem_take hx)
theorem byt.nil : byt [] := fun x hx => by cases hx
theorem byt.one {x : Int} (h : 0 ≤ x ∧ x < 256) : byt [x] := fun y hy => by rw [List.mem_singleton.1 hy]; exact h
theorem byt.cons {x : Int} {l : List Int} (h : 0 ≤ x ∧ x < 256) (hl : byt l) : byt (x :: l) := fun y hy => (List.mem_cons.1 hy).elim (fun e => e ▸ h) (hl y)
/-- a number's digits to the base 256, the greatest one first -/
def beB (n : Nat) : List Int := if n = 0 then [] else beB (n / 256) ++ [((n % 256 : Nat) : Int)]
termination_by n
decreasing_by omega
theorem beB_0 : beB 0 = [] := by rw [beB, if_pos rfl]
theorem beB_pos {n : Nat} (h : n ≠ 0) : beB n = beB (n / 256) ++ [((n % 256 : Nat) : Int)] := by rw [beB, if_neg h]
theorem beB_byt (n : Nat) : byt (beB n) := by
  induction n using Nat.strongRecOn with
  | _ n ih =>
    by_cases h : n = 0
    · rw [h, beB_0]; exact byt.nil
    · rw [beB_pos h]
      exact (ih (n / 256) (by omega)).append (byt.one (by omega))
theorem beB_le (k n : Nat) : (beB n).length ≤ k ↔ n < 256 ^ k := by
  induction k generalizing n with
  | zero =>
    by_cases h : n = 0
    · rw [h, beB_0]; simp
    · rw [beB_pos h, List.length_append]; simp; omega
  | succ k ih =>
    by_cases h : n = 0
    · rw [h, beB_0]; simp; exact Nat.pos_of_ne_zero (by simp)
    · rw [beB_pos h, List.length_append, List.length_singleton, Nat.pow_succ]
      have := ih (n / 256)
      have := Nat.div_lt_iff_lt_mul (x := n) (y := 256 ^ k) (k := 256) (by omega)
      omega
/-- the bytes of a number -/
def uB (n : Nat) : List Int := if n < 240 then [(n : Int)] else (239 + ((beB n).length : Int)) :: beB n
theorem uB_small {n : Nat} (h : n < 240) : uB n = [(n : Int)] := by unfold uB; rw [if_pos h]
theorem uB_great {n : Nat} (h : ¬ n < 240) : uB n = (239 + ((beB n).length : Int)) :: beB n := by unfold uB; rw [if_neg h]
theorem beB_8 {n : Nat} (h : n < 18446744073709551616) : (beB n).length ≤ 8 := (beB_le 8 n).2 (by omega)
theorem beB_1 {n : Nat} (h : 0 < n) : 1 ≤ (beB n).length := by
  rcases Nat.lt_or_ge 0 (beB n).length with g | g
  · exact g
  · have h2 := (beB_le 0 n).1 g
    rw [Nat.pow_zero] at h2
    omega
theorem uB_byt {n : Nat} (h : n < 18446744073709551616) : byt (uB n) := by
  unfold uB
  split
  · exact byt.one (by omega)
  · exact byt.cons (by have := beB_8 h; omega) (beB_byt n)
theorem uB_len {n : Nat} (h : n < 18446744073709551616) : 1 ≤ (uB n).length ∧ (uB n).length ≤ 9 := by
  unfold uB
  split
  · simp
  · have := beB_8 h; simp; omega
/-- a signed number, folded -/
def fold (i : Int) : Nat := if i < 0 then (-(i + 1) * 2 + 1).toNat else (i * 2).toNat
def unfoldI (n : Nat) : Int := if n % 2 = 1 then -((n / 2 : Nat) : Int) - 1 else ((n / 2 : Nat) : Int)
theorem fold_bd {i : Int} (h : I64 i) : fold i < 18446744073709551616 := by unfold fold I64 at *; split <;> omega
theorem unfold_fold (i : Int) : unfoldI (fold i) = i := by unfold unfoldI fold; split <;> split <;> omega
theorem fold_unfold (n : Nat) : fold (unfoldI n) = n := by unfold unfoldI fold; split <;> split <;> omega
theorem unfold_bd {n : Nat} (h : n < 18446744073709551616) : I64 (unfoldI n) := by unfold unfoldI I64; split <;> omega
def iB (i : Int) : List Int := uB (fold i)
def tB (s : List Int) : List Int := uB s.length ++ s
def lB (l : List Int) : List Int := uB l.length ++ l.flatMap iB
/-- the number that has these digits -/
def joinN (l : List Int) : Nat := l.foldl (fun n c => n * 256 + c.toNat) 0
theorem joinN_snoc (l : List Int) (x : Int) : joinN (l ++ [x]) = joinN l * 256 + x.toNat := by unfold joinN; rw [List.foldl_append]; rfl
theorem joinN_beB (n : Nat) : joinN (beB n) = n := by
  induction n using Nat.strongRecOn with
  | _ n ih =>
    by_cases h : n = 0
    · rw [h, beB_0]; rfl
    · rw [beB_pos h, joinN_snoc, ih (n / 256) (by omega)]
      omega
theorem list_snoc {α : Type} (l : List α) (h : l ≠ []) : ∃ a x, l = a ++ [x] := ⟨l.dropLast, l.getLast h, (List.dropLast_concat_getLast h).symm⟩
theorem joinN_lt (k : Nat) : ∀ l : List Int, l.length = k → byt l → joinN l < 256 ^ k := by
  induction k with
  | zero => intro l hl _; rw [List.length_eq_zero_iff.1 hl]; simp [joinN]
  | succ k ih =>
    intro l hl hb
    obtain ⟨a, x, rfl⟩ := list_snoc l (by intro h; rw [h] at hl; simp at hl)
    have h1 := ih a (by simpa using hl) (fun y hy => hb y (List.mem_append_left _ hy))
    have h2 := hb x (by simp)
    rw [joinN_snoc, Nat.pow_succ]
    omega
theorem joinN_beB_of (k : Nat) : ∀ l : List Int, l.length = k → byt l → 0 < joinN (l.take 1) → beB (joinN l) = l := by
  induction k with
  | zero => intro l hl _ h; rw [List.length_eq_zero_iff.1 hl] at h; simp [joinN] at h
  | succ k ih =>
    intro l hl hb h1
    obtain ⟨a, x, rfl⟩ := list_snoc l (by intro h; rw [h] at hl; simp at hl)
    have h2 := hb x (by simp)
    have hla : a.length = k := by simpa using hl
    rw [joinN_snoc]
    by_cases hk : k = 0
    · obtain rfl : a = [] := List.length_eq_zero_iff.1 (by omega)
      have h3 : 0 < x.toNat := by simpa [joinN] using h1
      rw [show joinN [] * 256 + x.toNat = x.toNat from by simp [joinN], beB_pos (by omega), show x.toNat / 256 = 0 from by omega, beB_0, show x.toNat % 256 = x.toNat from by omega]
      simp; omega
    · have h4 : (a ++ [x]).take 1 = a.take 1 := by rw [List.take_append_of_le_length (by omega)]
      rw [h4] at h1
      have h5 := ih a hla (fun y hy => hb y (List.mem_append_left _ hy)) h1
      have h6 : joinN a ≠ 0 := by
        intro h7
        rw [h7, beB_0] at h5
        rw [← h5] at hla
        simp at hla; omega
      rw [beB_pos (by omega), show (joinN a * 256 + x.toNat) / 256 = joinN a from by omega, h5, show (joinN a * 256 + x.toNat) % 256 = x.toNat from by omega]
      congr 2
      omega
/-- the least number that needs so many bytes -/
def leastN (m : Nat) : Nat := if m = 1 then 240 else 256 ^ (m - 1)
theorem beB_join {l : List Int} (hb : byt l) (h : 256 ^ (l.length - 1) ≤ joinN l) (h0 : 0 < l.length) : beB (joinN l) = l := by
  refine joinN_beB_of l.length l rfl hb ?_
  match l, h0 with
  | x :: r, _ =>
    have hx := hb x (by simp)
    rcases Nat.lt_or_ge 0 x.toNat with g | g
    · simpa [joinN] using g
    · exfalso
      have e : joinN (x :: r) = joinN r := by
        unfold joinN
        rw [List.foldl_cons, show 0 * 256 + x.toNat = 0 from by omega]
      have := joinN_lt r.length r rfl (fun y hy => hb y (by simp [hy]))
      rw [e] at h
      simp at h
      omega
theorem least_canon {l : List Int} (hb : byt l) (h0 : 0 < l.length) (h : leastN l.length ≤ joinN l) : uB (joinN l) = (239 + (l.length : Int)) :: l := by
  have h1 : 256 ^ (l.length - 1) ≤ joinN l := by
    unfold leastN at h
    split at h
    · rename_i e
      rw [e]; simp; omega
    · exact h
  have h2 := beB_join hb h1 h0
  have h3 : ¬ joinN l < 240 := by
    unfold leastN at h
    split at h
    · omega
    · have h4 : 256 ^ 1 ≤ 256 ^ (l.length - 1) := Nat.pow_le_pow_right (by omega) (by omega)
      omega
  rw [uB_great h3, h2]
theorem least_len {l : List Int} (hb : byt l) (h0 : 0 < l.length) : leastN l.length ≤ joinN l ↔ (uB (joinN l)).length = l.length + 1 := by
  constructor
  · intro h
    rw [least_canon hb h0 h]; simp
  · intro h
    unfold uB at h
    split at h
    · rw [List.length_singleton] at h; omega
    · rename_i hn
      rw [List.length_cons] at h
      unfold leastN
      split
      · omega
      · have h1 := not_congr (beB_le (l.length - 1) (joinN l))
        omega
theorem uB_least {n : Nat} (h : ¬ n < 240) : leastN (beB n).length ≤ n := by
  have h1 := least_len (l := beB n) (beB_byt n) (beB_1 (by omega))
  rw [joinN_beB] at h1
  rw [h1, uB_great h]; simp
/-! a reader: a place, an error; what is read -/
def rU (b : List Int) (at_ : Nat) (e : Int) : (Nat × Int) × Nat :=
  if e ≠ 0 then ((at_, e), 0) else if b.length ≤ at_ then ((at_, 210), 0)
  else if b.getD at_ 0 < 240 then ((at_ + 1, 0), (b.getD at_ 0).toNat) else if 247 < b.getD at_ 0 then ((at_, 211), 0)
  else if b.length - at_ - 1 < (b.getD at_ 0).toNat - 239 then ((at_, 210), 0)
  else if joinN ((b.drop (at_ + 1)).take ((b.getD at_ 0).toNat - 239)) < leastN ((b.getD at_ 0).toNat - 239) then ((at_, 211), 0)
  else ((at_ + 1 + ((b.getD at_ 0).toNat - 239), 0), joinN ((b.drop (at_ + 1)).take ((b.getD at_ 0).toNat - 239)))
theorem rU_bd {b : List Int} (hb : byt b) (k : Nat) (e : Int) : (rU b k e).2 < 18446744073709551616 := by
  have hk := hb.getD k
  unfold rU
  split
  · omega
  split
  · omega
  split
  · simp only; omega
  split
  · omega
  split
  · omega
  split
  · omega
  · simp only
    have h1 := joinN_lt _ ((b.drop (k + 1)).take ((b.getD k 0).toNat - 239)) rfl ((hb.drop _).take _)
    have h2 : ((b.drop (k + 1)).take ((b.getD k 0).toNat - 239)).length ≤ 8 := by rw [List.length_take]; omega
    have h3 : 256 ^ ((b.drop (k + 1)).take ((b.getD k 0).toNat - 239)).length ≤ 256 ^ 8 := Nat.pow_le_pow_right (by omega) h2
    omega
/-- what was read is what the bytes say, and in one way -/
theorem rU_ok {b : List Int} (hb : byt b) {k : Nat} (h : (rU b k 0).1.2 = 0) : k < (rU b k 0).1.1 ∧ (rU b k 0).1.1 ≤ b.length ∧ uB (rU b k 0).2 = (b.drop k).take ((rU b k 0).1.1 - k) := by
  have hk := hb.getD k
  unfold rU at h ⊢
  rw [if_neg (by simp)] at h ⊢
  split at h
  · cases h
  rename_i h1
  rw [if_neg h1]
  have hd : b.drop k = b.getD k 0 :: b.drop (k + 1) := by
    rw [List.drop_eq_getElem_cons (by omega), List.getD_eq_getElem?_getD, List.getElem?_eq_getElem (by omega)]; rfl
  split at h
  · rename_i h2
    rw [if_pos h2]
    refine ⟨by simp only; omega, by simp only; omega, ?_⟩
    simp only
    rw [uB_small (by omega), show k + 1 - k = 1 from by omega, hd, List.take_succ_cons, List.take_zero]
    congr 1
    omega
  rename_i h2
  rw [if_neg h2]
  split at h
  · cases h
  rename_i h3
  rw [if_neg h3]
  split at h
  · cases h
  rename_i h4
  rw [if_neg h4]
  split at h
  · cases h
  rename_i h5
  rw [if_neg h5]
  have hl : ((b.drop (k + 1)).take ((b.getD k 0).toNat - 239)).length = (b.getD k 0).toNat - 239 := by
    rw [List.length_take, List.length_drop]; omega
  refine ⟨by simp only; omega, by simp only; omega, ?_⟩
  simp only
  rw [least_canon ((hb.drop _).take _) (by rw [hl]; omega) (by rw [hl]; omega), hl, show k + 1 + ((b.getD k 0).toNat - 239) - k = (b.getD k 0).toNat - 239 + 1 from by omega, hd, List.take_succ_cons]
  exact List.cons_eq_cons.2 ⟨by omega, rfl⟩
theorem rU_back (n : Nat) (hn : n < 18446744073709551616) (p q : List Int) : rU (p ++ uB n ++ q) p.length 0 = ((p.length + (uB n).length, 0), n) := by
  have hg : ∀ j, (p ++ uB n ++ q).getD (p.length + j) 0 = (uB n ++ q).getD j 0 := fun j => by
    rw [List.append_assoc, List.getD_eq_getElem?_getD, List.getElem?_append_right (by omega), show p.length + j - p.length = j from by omega, ← List.getD_eq_getElem?_getD]
  have hd : (p ++ uB n ++ q).drop (p.length + 1) = (uB n ++ q).drop 1 := by
    rw [List.append_assoc, ← List.drop_drop, List.drop_left]
  have h0 := hg 0
  rw [Nat.add_zero] at h0
  have hl := uB_len hn
  unfold rU
  rw [if_neg (by simp), if_neg (by simp; omega), h0, hd]
  by_cases h : n < 240
  · rw [uB_small h]
    simp only [List.cons_append, List.nil_append, List.getD_cons_zero, List.length_singleton]
    rw [if_pos (by omega)]
    simp
  · have h8 := beB_8 hn
    have h1 := beB_1 (n := n) (by omega)
    have hL : (p ++ uB n ++ q).length = p.length + (1 + (beB n).length) + q.length := by rw [uB_great h]; simp; omega
    rw [hL, uB_great h]
    simp only [List.cons_append, List.getD_cons_zero, List.drop_succ_cons, List.drop_zero, List.length_cons]
    rw [if_neg (by omega), if_neg (by omega), show (239 + ((beB n).length : Int)).toNat - 239 = (beB n).length from by omega, if_neg (by omega), List.take_left, joinN_beB, if_neg (by have := uB_least h; omega)]
    simp; omega
/-- with a bound -/
def rN (b : List Int) (k : Nat) (e : Int) (most : Int) : (Nat × Int) × Nat :=
  if (rU b k e).1.2 ≠ 0 then ((rU b k e).1, 0) else if most < 0 ∨ most < ((rU b k e).2 : Int) then ((k, 211), 0) else rU b k e
def rT (b : List Int) (k : Nat) (e : Int) (most : Int) : (Nat × Int) × List Int :=
  if (rN b k e most).1.2 ≠ 0 then ((rN b k e most).1, []) else if b.length - (rN b k e most).1.1 < (rN b k e most).2 then ((k, 210), [])
  else (((rN b k e most).1.1 + (rN b k e most).2, 0), (b.drop (rN b k e most).1.1).take (rN b k e most).2)
/-- so many signed numbers, behind those that were read -/
def rdL (b : List Int) : Nat → Nat × Int → List Int → (Nat × Int) × List Int
  | 0, s, l => (s, l)
  | n + 1, s, l => if s.2 ≠ 0 then (s, l) else rdL b n (rU b s.1 s.2).1 (l ++ [unfoldI (rU b s.1 s.2).2])
def rL (b : List Int) (k : Nat) (e : Int) (most : Int) : (Nat × Int) × List Int :=
  if (rdL b (rN b k e most).2 (rN b k e most).1 []).1.2 ≠ 0 then ((k, (rdL b (rN b k e most).2 (rN b k e most).1 []).1.2), []) else rdL b (rN b k e most).2 (rN b k e most).1 []
theorem rU_err {b : List Int} {k : Nat} {e : Int} (h : (rU b k e).1.2 ≠ 0) : (rU b k e).1.1 = k ∧ (rU b k e).2 = 0 := by
  unfold rU at h ⊢
  by_cases h0 : e ≠ 0
  · rw [if_pos h0]; simp
  rw [if_neg h0] at h ⊢
  by_cases h1 : b.length ≤ k
  · rw [if_pos h1]; simp
  rw [if_neg h1] at h ⊢
  by_cases h2 : b.getD k 0 < 240
  · rw [if_pos h2] at h; simp at h
  rw [if_neg h2] at h ⊢
  by_cases h3 : 247 < b.getD k 0
  · rw [if_pos h3]; simp
  rw [if_neg h3] at h ⊢
  by_cases h4 : b.length - k - 1 < (b.getD k 0).toNat - 239
  · rw [if_pos h4]; simp
  rw [if_neg h4] at h ⊢
  by_cases h5 : joinN ((b.drop (k + 1)).take ((b.getD k 0).toNat - 239)) < leastN ((b.getD k 0).toNat - 239)
  · rw [if_pos h5]; simp
  rw [if_neg h5] at h; simp at h
theorem rU_at {b : List Int} (hb : byt b) {k : Nat} {e : Int} (hk : k ≤ b.length) : (rU b k e).1.1 ≤ b.length := by
  by_cases h : (rU b k e).1.2 = 0
  · by_cases h0 : e = 0
    · subst h0; exact (rU_ok hb h).2.1
    · have : (rU b k e).1.2 = e := by unfold rU; rw [if_pos h0]
      omega
  · rw [(rU_err h).1]; exact hk
theorem rU_e {b : List Int} {k : Nat} {e : Int} (h : e ≠ 0) : rU b k e = ((k, e), 0) := by unfold rU; rw [if_pos h]
end Go.Proofs.YtpoemflclbhekaaGreat
