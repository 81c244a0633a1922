/- Texts of numbers: which number a text says, and back. -/
import Derived.Test.YtiepfkhbebdkeaaDoorWideU
namespace Go.Proofs.YtiepfkhbebdkeaaDoor
open Go.RowKit

theorem ofNat_digit {n : Nat} (h : n < 10) : ((UInt8.ofNat (48 + n)).toNat : Int) = 48 + n := by
  rw [UInt8.toNat_ofNat_of_lt' (by show _ < 256; omega)]; omega
theorem dec_one (c : UInt8) : dec [c] = (c.toNat : Int) - 48 := by
  show (0 : Int) * 10 + _ = _
  omega
theorem dec_txt (n : Nat) : dec (txt n) = n := by
  induction n using Nat.strongRecOn with
  | _ n ih =>
    by_cases h : n < 10
    · rw [txt_small h, dec_one, ofNat_digit h]; omega
    · rw [txt_big h, dec_append, ih (n / 10) (by omega), ofNat_digit (by omega)]; omega
theorem txt_all (n : Nat) : (txt n).all digB = true := by
  induction n using Nat.strongRecOn with
  | _ n ih =>
    have one : ∀ k : Nat, k < 10 → digB (UInt8.ofNat (48 + k)) = true := by
      intro k hk
      unfold digB
      rw [ofNat_digit hk]
      exact decide_eq_true (by omega)
    by_cases h : n < 10
    · rw [txt_small h]; simp only [List.all_cons, List.all_nil, Bool.and_true]; exact one n h
    · rw [txt_big h, List.all_append, ih (n / 10) (by omega)]
      simp only [List.all_cons, List.all_nil, Bool.and_true, Bool.true_and]
      exact one _ (by omega)
theorem txt_head (n : Nat) (hn : 0 < n) : (txt n).head? ≠ some 48 := by
  induction n using Nat.strongRecOn with
  | _ n ih =>
    by_cases h : n < 10
    · rw [txt_small h]
      intro hc
      have h1 : UInt8.ofNat (48 + n) = 48 := by simpa using hc
      have h2 := ofNat_digit h
      rw [h1] at h2
      have : ((48 : UInt8).toNat : Int) = 48 := rfl
      omega
    · rw [txt_big h, List.head?_append]
      have := ih (n / 10) (by omega) (by omega)
      have hne := txt_ne (n / 10)
      cases hd : txt (n / 10) with
      | nil => exact absurd hd hne
      | cons a b => rw [hd] at this; simpa using this
theorem txt_isText (n : Nat) : isTextB (txt n) = true := by
  unfold isTextB
  rw [txt_all]
  have e1 : (txt n).isEmpty = false := by
    cases h : txt n with
    | nil => exact absurd h (txt_ne n)
    | cons a b => rfl
  rw [e1]
  by_cases h : n = 0
  · rw [h, txt_small (by decide)]; rfl
  · have := txt_head n (by omega)
    have e2 : ((txt n).head? == some 48) = false := by simpa using this
    rw [e2, Bool.and_false]; rfl
theorem txt_dec_pos (m : Nat) : ∀ l : List UInt8, l.length = m → l ≠ [] → l.all digB = true → l.head? ≠ some 48 → 0 < dec l ∧ txt (dec l).toNat = l := by
  induction m with
  | zero => intro l hl hne; exact absurd (List.eq_nil_of_length_eq_zero hl) hne
  | succ m ih =>
    intro l hl hne hall hh
    have hlc := (List.dropLast_concat_getLast hne).symm
    generalize hd : l.dropLast = d at *
    generalize l.getLast hne = c at *
    subst hlc
    rw [List.all_append] at hall
    simp only [List.all_cons, List.all_nil, Bool.and_true, Bool.and_eq_true] at hall
    obtain ⟨ha, hc⟩ := hall
    have hcb := digB_bd hc
    have hcc : c = UInt8.ofNat (48 + ((c.toNat : Int) - 48).toNat) := by
      apply UInt8.toNat_inj.1
      rw [UInt8.toNat_ofNat_of_lt' (by show _ < 256; omega)]; omega
    by_cases hd0 : d = []
    · subst hd0
      have hne48 : (c.toNat : Int) ≠ 48 := by
        intro h
        apply hh
        have : c = 48 := UInt8.toNat_inj.1 (by show c.toNat = 48; omega)
        rw [this]; rfl
      rw [List.nil_append, dec_one]
      refine ⟨by omega, ?_⟩
      rw [txt_small (by omega), ← hcc]
    · have hh2 : d.head? ≠ some 48 := by
        intro h
        apply hh
        rw [List.head?_append, h]; rfl
      obtain ⟨p, e⟩ := ih d (by rw [List.length_append] at hl; simpa using hl) hd0 ha hh2
      rw [dec_append]
      refine ⟨by omega, ?_⟩
      rw [txt_big (by omega)]
      have h1 : (dec d * 10 + ((c.toNat : Int) - 48)).toNat / 10 = (dec d).toNat := by omega
      have h2 : (dec d * 10 + ((c.toNat : Int) - 48)).toNat % 10 = ((c.toNat : Int) - 48).toNat := by omega
      rw [h1, h2, e, ← hcc]
theorem txt_dec {l : List UInt8} (h : isTextB l = true) : txt (dec l).toNat = l := by
  have hall := isText_all h
  unfold isTextB at h
  simp only [Bool.and_eq_true, Bool.not_eq_true'] at h
  obtain ⟨⟨h1, h2⟩, _⟩ := h
  have hne : l ≠ [] := fun hc => by rw [hc] at h1; cases h1
  by_cases hh : l.head? = some 48
  · rw [hh] at h2
    have hl : ¬ 1 < l.length := by simpa using h2
    cases l with
    | nil => exact absurd rfl hne
    | cons a b =>
      obtain rfl : b = [] := by simp at hl; exact hl
      obtain rfl : a = 48 := by simpa using hh
      rw [dec_one]
      exact txt_small (by decide)
  · exact (txt_dec_pos l.length l rfl hne hall hh).2
end Go.Proofs.YtiepfkhbebdkeaaDoor
