/- WideW WideC WideI WideS WideJ -/
import Derived.Test.YteenemdiokajbaaBase
import Derived.Deep.RegionHeld3
import Derived.Deep.RegionWith
import Derived.Test.YteenemdiokajbaaBigs
import Derived.IntWalk
import Derived.Outline

/-! Contracts of package wide: Of, Mul, Add, Sub, and of cmp.Compare, cmp.Or. -/
namespace Go.Proofs.Yteenemdiokajbaa
open Go.RowKit

/-- a wide number, or nought if there is none, and whether there is -/
def wfH (n : Int) : Int := if 0 ≤ n ∧ n < 340282366920938463463374607431768211456 then n / 18446744073709551616 else 0
def wfL (n : Int) : Int := if 0 ≤ n ∧ n < 340282366920938463463374607431768211456 then n % 18446744073709551616 else 0
def wfE (n : Int) : Int := if 0 ≤ n ∧ n < 340282366920938463463374607431768211456 then 0 else 10
abbrev wfV (n : Int) : Value := .tuple #[.agg #[.int .u64 (wfH n), .int .u64 (wfL n)], .int .i64 (wfE n)]
/-- what two words say -/
def wv (h l : Int) : Int := h * 18446744073709551616 + l
theorem wfV_in {n h l : Int} (hn : 0 ≤ n ∧ n < 340282366920938463463374607431768211456) (e : h = n / 18446744073709551616) (f : l = n % 18446744073709551616) :
    Ending.returned (.tuple #[.agg #[.int .u64 h, .int .u64 l], .int .i64 0]) = .returned (wfV n) := by
  unfold wfV wfH wfL wfE; rw [if_pos hn, if_pos hn, if_pos hn, e, f]
theorem wfV_out {n : Int} (hn : ¬ (0 ≤ n ∧ n < 340282366920938463463374607431768211456)) :
    Ending.returned (.tuple #[.agg #[.int .u64 0, .int .u64 0], .int .i64 10]) = .returned (wfV n) := by
  unfold wfV wfH wfL wfE; rw [if_neg hn, if_neg hn, if_neg hn]

end Go.Proofs.Yteenemdiokajbaa

/-! Contracts of cmp.Compare and cmp.Or as wide calls them, of wide.Cmp, product and Prods. -/
namespace Go.Proofs.Yteenemdiokajbaa
open Go.RowKit

/-- the first of two that is not 0 -/
def or2 (x y : Int) : Int := if x ≠ 0 then x else y
theorem or_cmp (ah al bh bl : Int) (h2 : U64 al) (h4 : U64 bl) : or2 (cmpI ah bh) (cmpI al bl) = cmpI (wv ah al) (wv bh bl) := by
  unfold U64 at *
  rcases Int.lt_trichotomy ah bh with h | h | h
  · have e1 : cmpI ah bh = -1 := by unfold cmpI; rw [if_pos h]
    have e2 : cmpI (wv ah al) (wv bh bl) = -1 := by unfold cmpI wv; rw [if_pos (by omega)]
    rw [e1, e2]; rfl
  · have e1 : cmpI ah bh = 0 := by unfold cmpI; rw [if_neg (by omega), if_pos h]
    rw [e1]
    subst h
    unfold or2 cmpI wv
    rw [if_neg (by simp)]
    rcases Int.lt_trichotomy al bl with g | g | g
    · rw [if_pos g, if_pos (by omega)]
    · rw [if_neg (by omega), if_pos g, if_neg (by omega), if_pos (by omega)]
    · rw [if_neg (by omega), if_neg (by omega), if_neg (by omega), if_neg (by omega)]
  · have e1 : cmpI ah bh = 1 := by unfold cmpI; rw [if_neg (by omega), if_neg (by omega)]
    have e2 : cmpI (wv ah al) (wv bh bl) = 1 := by unfold cmpI wv; rw [if_neg (by omega), if_neg (by omega)]
    rw [e1, e2]; rfl

/-! ### product, Prods -/
def sg (a : Int) : Int := cmpI a 0
theorem sg_mul (a b : Int) : sg a * sg b = sg (a * b) := by
  unfold sg cmpI
  rcases Int.lt_trichotomy a 0 with h | h | h <;> rcases Int.lt_trichotomy b 0 with g | g | g
  · have := Int.mul_pos_of_neg_of_neg h g
    rw [if_pos h, if_pos g, if_neg (by omega), if_neg (by omega)]; rfl
  · subst g; simp
  · have := Int.mul_neg_of_neg_of_pos h g
    rw [if_pos h, if_neg (by omega), if_neg (by omega), if_pos this]; rfl
  · subst h; simp
  · subst h; simp
  · subst h; simp
  · have := Int.mul_neg_of_pos_of_neg h g
    rw [if_neg (by omega), if_neg (by omega), if_pos g, if_pos this]; rfl
  · subst g; simp
  · have := Int.mul_pos h g
    rw [if_neg (by omega), if_neg (by omega), if_neg (by omega), if_neg (by omega), if_neg (by omega), if_neg (by omega)]; rfl
theorem sg_cases (a : Int) : (a < 0 ∧ sg a = -1) ∨ (a = 0 ∧ sg a = 0) ∨ (0 < a ∧ sg a = 1) := by
  unfold sg cmpI
  rcases Int.lt_trichotomy a 0 with h | h | h
  · exact .inl ⟨h, by rw [if_pos h]⟩
  · exact .inr (.inl ⟨h, by rw [if_neg (by omega), if_pos h]⟩)
  · exact .inr (.inr ⟨h, by rw [if_neg (by omega), if_neg (by omega)]⟩)
theorem cmp_cases (a b : Int) : (a < b ∧ cmpI a b = -1) ∨ (a = b ∧ cmpI a b = 0) ∨ (b < a ∧ cmpI a b = 1) := by
  unfold cmpI
  rcases Int.lt_trichotomy a b with h | h | h
  · exact .inl ⟨h, by rw [if_pos h]⟩
  · exact .inr (.inl ⟨h, by rw [if_neg (by omega), if_pos h]⟩)
  · exact .inr (.inr ⟨h, by rw [if_neg (by omega), if_neg (by omega)]⟩)
theorem prods_ne (P Q : Int) (h : sg P ≠ sg Q) : cmpI (sg P) (sg Q) = cmpI P Q := by
  rcases sg_cases P with ⟨p, e⟩ | ⟨p, e⟩ | ⟨p, e⟩ <;> rcases sg_cases Q with ⟨q, f⟩ | ⟨q, f⟩ | ⟨q, f⟩ <;> rcases cmp_cases P Q with ⟨r, g⟩ | ⟨r, g⟩ | ⟨r, g⟩ <;> rw [e, f] at h ⊢ <;> rw [g] <;> first | rfl | omega | exact absurd rfl h
theorem prods_eq (P Q : Int) (h : sg P = sg Q) : sg P * cmpI P.natAbs Q.natAbs = cmpI P Q := by
  rcases sg_cases P with ⟨p, e⟩ | ⟨p, e⟩ | ⟨p, e⟩ <;> rcases sg_cases Q with ⟨q, f⟩ | ⟨q, f⟩ | ⟨q, f⟩ <;> rcases cmp_cases P Q with ⟨r, g⟩ | ⟨r, g⟩ | ⟨r, g⟩ <;> rcases cmp_cases P.natAbs Q.natAbs with ⟨s, k⟩ | ⟨s, k⟩ | ⟨s, k⟩ <;> rw [e, f] at h <;> rw [e, g, k] <;> first | rfl | omega

theorem size_u64 {a : Int} (h : I64 a) : U64 a.natAbs := by unfold I64 at h; unfold U64; omega
theorem sg_bd (a : Int) : -1 ≤ sg a ∧ sg a ≤ 1 := by rcases sg_cases a with ⟨_, e⟩ | ⟨_, e⟩ | ⟨_, e⟩ <;> rw [e] <;> omega
theorem sg_mul_bd (a b : Int) : -1 ≤ sg a * sg b ∧ sg a * sg b ≤ 1 := by rw [sg_mul]; exact sg_bd _
theorem u64_of_mod (n : Int) : U64 (n % 18446744073709551616) := by unfold U64; omega
theorem wv_split (n : Int) : wv (n / 18446744073709551616) (n % 18446744073709551616) = n := by unfold wv; omega
end Go.Proofs.Yteenemdiokajbaa

/-! The contract of wide.isText. -/
namespace Go.Proofs.Yteenemdiokajbaa
open Go.RowKit

def digB (c : UInt8) : Bool := decide (48 ≤ (c.toNat : Int) ∧ (c.toNat : Int) ≤ 57)
def isTextB (l : List UInt8) : Bool := !l.isEmpty && !(decide (1 < l.length) && l.head? == some 48) && l.all digB
theorem isText_bad {s : ByteArray} (k : Nat) (hk : k < s.size) (h : ¬ (48 ≤ (s[k].toNat : Int) ∧ (s[k].toNat : Int) ≤ 57)) : isTextB s.data.toList = false := by
  unfold isTextB
  have : s.data.toList.all digB = false := by
    rw [List.all_eq_false]
    refine ⟨s[k], ?_, ?_⟩
    · show s.data[k] ∈ s.data.toList
      simp
    · unfold digB; simpa using h
  rw [this, Bool.and_false]
theorem isText_zero {s : ByteArray} (h1 : 1 < s.size) (h : (s[0].toNat : Int) = 48) : isTextB s.data.toList = false := by
  have h2 : s.data.toList.head? = some 48 := by
    have e : s.data.toList.head? = some s[0] := by
      rw [List.head?_eq_getElem?, Array.getElem?_toList, Array.getElem?_eq_getElem (show 0 < s.data.size by have : s.size = s.data.size := rfl; omega)]
      rfl
    rw [e]
    congr 1
    exact UInt8.toNat_inj.1 (by show s[0].toNat = 48; omega)
  unfold isTextB
  rw [h2]
  have : decide (1 < s.data.toList.length) = true := by simpa using h1
  rw [this]; simp
theorem isText_good {s : ByteArray} (h0 : s.size ≠ 0) (hz : 1 < s.size → ∀ h : 0 < s.size, (s[0].toNat : Int) ≠ 48) (h : (s.data.toList.take s.size).all digB = true) : isTextB s.data.toList = true := by
  have hl : s.data.toList.length = s.size := by simp
  unfold isTextB
  rw [← hl, List.take_length] at h
  rw [h]
  have e1 : s.data.toList.isEmpty = false := by
    cases hd : s.data.toList with
    | nil => rw [hd] at hl; exact absurd hl.symm h0
    | cons a b => rfl
  rw [e1]
  have e2 : (decide (1 < s.data.toList.length) && s.data.toList.head? == some 48) = false := by
    by_cases h1 : 1 < s.size
    · have e : s.data.toList.head? = some s[0] := by
        rw [List.head?_eq_getElem?, Array.getElem?_toList, Array.getElem?_eq_getElem (show 0 < s.data.size by have : s.size = s.data.size := rfl; omega)]
        rfl
      rw [e]
      have := hz h1 (by omega)
      have : (some s[0] == some (48 : UInt8)) = false := by
        simp only [Option.some_beq_some, beq_eq_false_iff_ne]
        intro hc; rw [hc] at this; exact this rfl
      rw [this, Bool.and_false]
    · have : decide (1 < s.data.toList.length) = false := by rw [hl]; simpa using h1
      rw [this, Bool.false_and]
  rw [e2]; rfl
theorem digs_snoc (s : ByteArray) (k : Nat) (h : k < s.size) (ha : (s.data.toList.take k).all digB = true) (hd : 48 ≤ (s[k].toNat : Int) ∧ (s[k].toNat : Int) ≤ 57) : (s.data.toList.take (k + 1)).all digB = true := by
  rw [List.take_succ_eq_append_getElem (by simpa using h), List.all_append, ha]
  have : digB s[k] = true := by unfold digB; simpa using hd
  simp only [List.all_cons, List.all_nil, Bool.and_true, Bool.true_and]
  exact this

theorem retb {a b : Bool} (h : a = b) : Ending.returned (.bool a) = .returned (.bool b) := by rw [h]
end Go.Proofs.Yteenemdiokajbaa

/-! The contract of wide.shift: ten times a wide number, and a digit. -/
namespace Go.Proofs.Yteenemdiokajbaa
open Go.RowKit

end Go.Proofs.Yteenemdiokajbaa

/-! The contract of wide.Parse. -/
namespace Go.Proofs.Yteenemdiokajbaa
open Go.RowKit

/-- the number that digits say -/
def dec (l : List UInt8) : Int := l.foldl (fun a c => a * 10 + ((c.toNat : Int) - 48)) 0
theorem dec_append (l : List UInt8) (c : UInt8) : dec (l ++ [c]) = dec l * 10 + ((c.toNat : Int) - 48) := by
  unfold dec; rw [List.foldl_append]; rfl
theorem dec_take (s : ByteArray) (k : Nat) (h : k < s.size) : dec (s.data.toList.take (k + 1)) = dec (s.data.toList.take k) * 10 + ((s[k].toNat : Int) - 48) := by
  rw [List.take_succ_eq_append_getElem (by simpa using h), dec_append]; rfl
theorem digB_bd {c : UInt8} (h : digB c = true) : 48 ≤ (c.toNat : Int) ∧ (c.toNat : Int) ≤ 57 := by
  unfold digB at h; exact of_decide_eq_true h
theorem digB_at {s : ByteArray} (h : s.data.toList.all digB = true) (k : Nat) (hk : k < s.size) : 48 ≤ (s[k].toNat : Int) ∧ (s[k].toNat : Int) ≤ 57 := by
  rw [List.all_eq_true] at h
  exact digB_bd (h s[k] (by show s.data[k] ∈ s.data.toList; simp))
theorem dec_nonneg (s : ByteArray) (h : s.data.toList.all digB = true) (k : Nat) (hk : k ≤ s.size) : 0 ≤ dec (s.data.toList.take k) := by
  induction k with
  | zero => rw [List.take_zero]; exact Int.le_refl 0
  | succ k ih =>
    have := ih (by omega)
    have hd := digB_at h k (by omega)
    rw [dec_take s k (by omega)]; omega
theorem dec_mono (s : ByteArray) (h : s.data.toList.all digB = true) (k n : Nat) (hk : k + n ≤ s.size) : dec (s.data.toList.take k) ≤ dec (s.data.toList.take (k + n)) := by
  induction n with
  | zero => exact Int.le_refl _
  | succ n ih =>
    have h1 := ih (by omega)
    have h2 := dec_nonneg s h (k + n) (by omega)
    have hd := digB_at h (k + n) (by omega)
    rw [show k + (n + 1) = k + n + 1 by omega, dec_take s (k + n) (by omega)]; omega
theorem isText_all {l : List UInt8} (h : isTextB l = true) : l.all digB = true := by
  unfold isTextB at h
  simp only [Bool.and_eq_true] at h
  exact h.2

def psH (l : List UInt8) : Int := if isTextB l = true ∧ l.length ≤ 39 then wfH (dec l) else 0
def psL (l : List UInt8) : Int := if isTextB l = true ∧ l.length ≤ 39 then wfL (dec l) else 0
def psE (l : List UInt8) : Int := if isTextB l = true then (if l.length ≤ 39 then wfE (dec l) else 10) else 20
abbrev psV (l : List UInt8) : Value := .tuple #[.agg #[.int .u64 (psH l), .int .u64 (psL l)], .int .i64 (psE l)]
theorem psV_no {l : List UInt8} (h : isTextB l = false) : Ending.returned (.tuple #[.agg #[.int .u64 0, .int .u64 0], .int .i64 20]) = .returned (psV l) := by
  unfold psV psH psL psE
  rw [h]; rfl
theorem psV_long {l : List UInt8} (h : isTextB l = true) (hl : 39 < l.length) : Ending.returned (.tuple #[.agg #[.int .u64 0, .int .u64 0], .int .i64 10]) = .returned (psV l) := by
  unfold psV psH psL psE
  rw [if_neg (by omega), if_neg (by omega), if_pos h, if_neg (by omega)]
theorem psV_in {l : List UInt8} (h : isTextB l = true) (hl : l.length ≤ 39) : psV l = wfV (dec l) := by
  unfold psV psH psL psE
  rw [if_pos ⟨h, hl⟩, if_pos ⟨h, hl⟩, if_pos h, if_pos hl]

end Go.Proofs.Yteenemdiokajbaa
