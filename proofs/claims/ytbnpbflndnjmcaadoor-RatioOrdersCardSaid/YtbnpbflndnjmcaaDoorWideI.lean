/- The contract of wide.isText. -/
import Derived.Test.YtbnpbflndnjmcaaDoorWideC
namespace Go.Proofs.YtbnpbflndnjmcaaDoor
open Go.RowKit

def digB (c : UInt8) : Bool := decide (48 ≤ (c.toNat : Int) ∧ (c.toNat : Int) ≤ 57)
def isTextB (l : List UInt8) : Bool := !l.isEmpty && !(decide (1 < l.length) && l.head? == some 48) && l.all digB
theorem isText_bad {s : ByteArray} (k : Nat) (hk : k < s.size) (h : ¬ (48 ≤ (s[k].toNat : Int) ∧ (s[k].toNat : Int) ≤ 57)) : isTextB s.data.toList = false := by
  unfold isTextB
  have : s.data.toList.all digB = false := by
    rw [List.all_eq_false]
    refine ⟨s[k], ?_, ?_⟩
    · show s.data[k] ∈ s.data.toList
      simp
    · unfold digB; simpa using h
  rw [this, Bool.and_false]
theorem isText_zero {s : ByteArray} (h1 : 1 < s.size) (h : (s[0].toNat : Int) = 48) : isTextB s.data.toList = false := by
  have h2 : s.data.toList.head? = some 48 := by
    have e : s.data.toList.head? = some s[0] := by
      rw [List.head?_eq_getElem?, Array.getElem?_toList, Array.getElem?_eq_getElem (show 0 < s.data.size by have : s.size = s.data.size := rfl; omega)]
      rfl
    rw [e]
    congr 1
    exact UInt8.toNat_inj.1 (by show s[0].toNat = 48; omega)
  unfold isTextB
  rw [h2]
  have : decide (1 < s.data.toList.length) = true := by simpa using h1
  rw [this]; simp
theorem isText_good {s : ByteArray} (h0 : s.size ≠ 0) (hz : 1 < s.size → ∀ h : 0 < s.size, (s[0].toNat : Int) ≠ 48) (h : (s.data.toList.take s.size).all digB = true) : isTextB s.data.toList = true := by
  have hl : s.data.toList.length = s.size := by simp
  unfold isTextB
  rw [← hl, List.take_length] at h
  rw [h]
  have e1 : s.data.toList.isEmpty = false := by
    cases hd : s.data.toList with
    | nil => rw [hd] at hl; exact absurd hl.symm h0
    | cons a b => rfl
  rw [e1]
  have e2 : (decide (1 < s.data.toList.length) && s.data.toList.head? == some 48) = false := by
    by_cases h1 : 1 < s.size
    · have e : s.data.toList.head? = some s[0] := by
        rw [List.head?_eq_getElem?, Array.getElem?_toList, Array.getElem?_eq_getElem (show 0 < s.data.size by have : s.size = s.data.size := rfl; omega)]
        rfl
      rw [e]
      have := hz h1 (by omega)
      have : (some s[0] == some (48 : UInt8)) = false := by
        simp only [Option.some_beq_some, beq_eq_false_iff_ne]
        intro hc; rw [hc] at this; exact this rfl
      rw [this, Bool.and_false]
    · have : decide (1 < s.data.toList.length) = false := by rw [hl]; simpa using h1
      rw [this, Bool.false_and]
  rw [e2]; rfl
theorem digs_snoc (s : ByteArray) (k : Nat) (h : k < s.size) (ha : (s.data.toList.take k).all digB = true) (hd : 48 ≤ (s[k].toNat : Int) ∧ (s[k].toNat : Int) ≤ 57) : (s.data.toList.take (k + 1)).all digB = true := by
  rw [List.take_succ_eq_append_getElem (by simpa using h), List.all_append, ha]
  have : digB s[k] = true := by unfold digB; simpa using hd
  simp only [List.all_cons, List.all_nil, Bool.and_true, Bool.true_and]
  exact this

theorem retb {a b : Bool} (h : a = b) : Ending.returned (.bool a) = .returned (.bool b) := by rw [h]
set_option maxHeartbeats 1000000 in
theorem wide_isText (s : ByteArray) (hs : s.size ≤ maxLen) (w : World) :
    Calls Tryd.prog 94 #[.string s] w fun e w' => e = .returned (.bool (isTextB s.data.toList)) ∧ w = w' := by
  unfold maxLen at hs
  by_cases h0 : s.size = 0
  · have e0 : s.toList = [] := by
      rw [← List.length_eq_zero_iff, ByteArray.toList_eq]; simpa using h0
    have e1 : s.toList.isEmpty = true := by rw [e0]; rfl
    have HR : Hid (isTextB s.data.toList = false) := by
      show _ = _
      unfold isTextB
      rw [← ByteArray.toList_eq, e1]; rfl
    clear h0
    go_enter Tryd.func94, Tryd.ntmps94
    go_wp2
    go_ret
    exact ⟨retb HR.out.symm, rfl⟩
  · have e0 : ¬ s.toList = [] := by
      rw [← List.length_eq_zero_iff, ByteArray.toList_eq]; simpa using h0
    have e1 : s.toList.isEmpty = false := by
      cases h : s.toList with
      | nil => exact absurd h e0
      | cons a b => rfl
    by_cases hz : ∃ h1 : 1 < s.size, (s[0].toNat : Int) = 48
    · obtain ⟨h1, h2⟩ := hz
      have HR := Lib.hid (isText_zero h1 h2)
      have h3 : ((s[0].toNat : Int) == 48) = true := by simpa using h2
      clear h2
      go_enter Tryd.func94, Tryd.ntmps94
      go_wp2
      go_ret
      exact ⟨retb HR.out.symm, rfl⟩
    · have hz' : 1 < s.size → ∀ h : 0 < s.size, (s[0].toNat : Int) ≠ 48 := fun h1 h hc => hz ⟨h1, hc⟩
      have HG := Lib.hid (isText_good h0 hz')
      by_cases h1 : 1 < s.size
      all_goals
        have h3 : ∀ h : 0 < s.size, ((s[0].toNat : Int) == 48) = false ∨ ¬ 1 < s.size := fun h => by
          by_cases hh : 1 < s.size
          · left; simpa using hz' hh h
          · right; exact hh
        have h4 := h3 (by omega)
        simp only [h1, not_true_eq_false, not_false_eq_true, or_false, or_true] at h4
        clear h3 hz hz'
        go_enter Tryd.func94, Tryd.ntmps94
        go_wp2
        go_loop [18] (fun i => ∃ k : Nat, k ≤ s.size ∧ i = .int .i64 k ∧ Hid ((s.data.toList.take k).all digB = true)) (fun i => s.size - (intOf i).toNat)
        case atStart => exact ⟨0, Nat.zero_le _, rfl, rfl⟩
        case round =>
          obtain ⟨k, hk, rfl, hd⟩ := hrel
          by_cases hlt : k < s.size
          · by_cases hdig : 48 ≤ (s[k].toNat : Int) ∧ (s[k].toNat : Int) ≤ 57
            · have HD := Lib.hid (digs_snoc s k hlt hd.out hdig)
              obtain ⟨hd1, hd2⟩ := hdig
              go_wp2
              go_round
              case rel => exact ⟨k + 1, by omega, by go_num, HD⟩
              case measure => simp [intOf]; omega
            · have HR := Lib.hid (isText_bad k hlt hdig)
              by_cases h48 : (s[k].toNat : Int) < 48
              · clear hdig
                go_wp2
                go_ret
                exact ⟨retb HR.out.symm, rfl⟩
              · have h57 : 57 < (s[k].toNat : Int) := by omega
                clear hdig
                go_wp2
                go_ret
                exact ⟨retb HR.out.symm, rfl⟩
          · obtain rfl : k = s.size := by omega
            have HR := Lib.hid (HG.out hd.out)
            go_wp2
            go_ret
            exact ⟨retb HR.out.symm, rfl⟩
end Go.Proofs.YtbnpbflndnjmcaaDoor
