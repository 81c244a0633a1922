/- strings.Cut at a slash. -/
import Derived.Test.YtbnpbflndnjmcaaDoorRatS
import Derived.Lib.IndexLaws
import Derived.Deep.QuietTactic
import Derived.BigQuiet
namespace Go.Proofs.YtbnpbflndnjmcaaDoor
open Go.RowKit

def cutA (l : List UInt8) : List UInt8 := l.takeWhile (· != 47)
def cutR (l : List UInt8) : List UInt8 := (l.dropWhile (· != 47)).drop 1
def cutF (l : List UInt8) : Bool := l.any (· == 47)
def cutB (l : List UInt8) : List UInt8 := if cutF l = true then cutR l else []
theorem takeWhile_all : ∀ l : List UInt8, (∀ x ∈ l, x ≠ 47) → l.takeWhile (· != 47) = l := by
  intro l
  induction l with
  | nil => intro _; rfl
  | cons a b ih =>
    intro h
    rw [List.takeWhile_cons, if_pos (by simpa using h a List.mem_cons_self), ih fun x hx => h x (List.mem_cons_of_mem _ hx)]
theorem cut_miss {l : List UInt8} (h : ∀ k : Nat, l[k]? ≠ some 47) : cutA l = l ∧ cutF l = false := by
  have hm : ∀ x ∈ l, x ≠ 47 := by
    intro x hx hc
    obtain ⟨k, hk, e⟩ := List.getElem_of_mem hx
    exact h k (by rw [List.getElem?_eq_getElem hk, e, hc])
  refine ⟨?_, ?_⟩
  · exact takeWhile_all l hm
  · unfold cutF
    rw [List.any_eq_false]
    intro x hx
    simpa using hm x hx
theorem cut_hit : ∀ (i : Nat) (l : List UInt8), l[i]? = some 47 → (∀ k, k < i → l[k]? ≠ some 47) → cutA l = l.take i ∧ cutR l = l.drop (i + 1) ∧ cutF l = true := by
  intro i
  induction i with
  | zero =>
    intro l h _
    cases l with
    | nil => simp at h
    | cons a b =>
      obtain rfl : a = 47 := by simpa using h
      refine ⟨by simp [cutA], by simp [cutR], by simp [cutF]⟩
  | succ i ih =>
    intro l h hk
    cases l with
    | nil => simp at h
    | cons a b =>
      have ha : a ≠ 47 := fun hc => hk 0 (by omega) (by rw [hc]; rfl)
      obtain ⟨h1, h2, h3⟩ := ih b (by simpa using h) (fun k hlt => by have := hk (k + 1) (by omega); simpa using this)
      have hb : (a != 47) = true := by simpa using ha
      refine ⟨?_, ?_, ?_⟩
      · unfold cutA at h1 ⊢; rw [List.takeWhile_cons, if_pos hb, h1]; rfl
      · unfold cutR at h2 ⊢; rw [List.dropWhile_cons, if_pos hb, h2]; rfl
      · unfold cutF at h3 ⊢; rw [List.any_cons, h3, Bool.or_true]

set_option maxHeartbeats 2000000 in
theorem lite_cut (s : ByteArray) (hs : s.size ≤ maxLen) (w : World) :
    Calls Tryd.prog 84 #[.string s, .string ⟨#[47]⟩] w fun e w' => e = .returned (.tuple #[.string (bstr (cutA s.data.toList)), .string (bstr (cutB s.data.toList)), .bool (cutF s.data.toList)]) ∧ ∃ n, w' = w.drewN n := by
  unfold maxLen at hs
  have KI := Lib.hid (fun W => Tryd.stringslite_Index_one s 47 W)
  have hge := Lib.indexByte_ge s.data.toList 47
  rcases Int.lt_or_le (Lib.indexByte s.data.toList 47) 0 with hi | hi
  · have e : Lib.indexByte s.data.toList 47 = -1 := by omega
    obtain ⟨h1, h2⟩ := cut_miss (Lib.indexByte_none e)
    rw [e] at KI
    have HR : Hid (Ending.returned (.tuple #[.string s, .string ⟨#[]⟩, .bool false]) = .returned (.tuple #[.string (bstr (cutA s.data.toList)), .string (bstr (cutB s.data.toList)), .bool (cutF s.data.toList)])) := by
      show _ = _
      unfold cutB
      rw [h1, h2]; rfl
    clear hi hge e h1 h2
    generalize bstr (cutA s.data.toList) = ra at *
    generalize bstr (cutB s.data.toList) = rb at *
    generalize cutF s.data.toList = rf at *
    go_enter Tryd.func84, Tryd.ntmps84
    go_wp2_with fail
    refine (KI.out _).mono ?_
    rintro e w1 ⟨rfl, rfl⟩
    go_wp2
    go_ret3
    exact ⟨HR.out, 0, rfl⟩
  · obtain ⟨i, hi2⟩ : ∃ i : Nat, Lib.indexByte s.data.toList 47 = i := ⟨_, (Int.toNat_of_nonneg hi).symm⟩
    obtain ⟨g1, g2⟩ := Lib.indexByte_some hi2
    have hlt : i < s.size := by
      have := (List.getElem?_eq_some_iff.1 g1).1
      simpa using this
    obtain ⟨h1, h2, h3⟩ := cut_hit i _ g1 g2
    rw [hi2] at KI
    have HR : Hid (Ending.returned (.tuple #[.string (s.extract 0 i), .string (s.extract (i + 1) s.size), .bool true]) = .returned (.tuple #[.string (bstr (cutA s.data.toList)), .string (bstr (cutB s.data.toList)), .bool (cutF s.data.toList)])) := by
      show _ = _
      unfold cutB
      rw [h1, h2, h3, if_pos rfl]
      have e1 : s.extract 0 i = bstr (s.data.toList.take i) := ByteArray.ext (Array.toList_inj.1 (by simp))
      have e2 : s.extract (i + 1) s.size = bstr (s.data.toList.drop (i + 1)) := ByteArray.ext (Array.toList_inj.1 (by simp [List.take_of_length_le]))
      rw [e1, e2]
    have c1 : (0 : Int) ≤ (i : Int) := by omega
    have c2 : (i : Int) ≤ (s.size : Int) := by omega
    have c3 : (0 : Int) ≤ (i : Int) + 1 := by omega
    have c4 : (i : Int) + 1 ≤ (s.size : Int) := by omega
    clear hi hge hi2 g1 g2 h1 h2 h3
    generalize bstr (cutA s.data.toList) = ra at *
    generalize bstr (cutB s.data.toList) = rb at *
    generalize cutF s.data.toList = rf at *
    go_enter Tryd.func84, Tryd.ntmps84
    go_wp2_with fail
    refine (KI.out _).mono ?_
    rintro e w1 ⟨rfl, rfl⟩
    go_wp2
    go_region
    all_goals
      go_wp2
      go_ret3
      exact ⟨HR.out, 1, rfl⟩
theorem str_cut (s : ByteArray) (hs : s.size ≤ maxLen) (w : World) :
    Calls Tryd.prog 69 #[.string s, .string ⟨#[47]⟩] w fun e w' => e = .returned (.tuple #[.string (bstr (cutA s.data.toList)), .string (bstr (cutB s.data.toList)), .bool (cutF s.data.toList)]) ∧ ∃ n, w' = w.drewN n := by
  have K := Lib.hid (fun W => lite_cut s hs W)
  generalize bstr (cutA s.data.toList) = ra at *
  generalize bstr (cutB s.data.toList) = rb at *
  generalize cutF s.data.toList = rf at *
  go_enter Tryd.func69, Tryd.ntmps69
  go_wp2_with fail
  refine (K.out _).mono ?_
  rintro e w1 ⟨rfl, n, rfl⟩
  go_wp2
  go_ret3
  exact ⟨rfl, n, rfl⟩
end Go.Proofs.YtbnpbflndnjmcaaDoor
