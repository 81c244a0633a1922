/- RatS RatC RatP RatR RatX -/
import Derived.Test.YtiepfkhbebdkeaaDoorRatA
import Derived.Test.YtiepfkhbebdkeaaDoorShelf
import Derived.Test.YtiepfkhbebdkeaaDoorWideX
import Derived.WalkSmall
import Derived.Lib.AppendIntMem
import Derived.Outline
import Derived.Lib.IndexLaws
import Derived.Deep.QuietTactic
import Derived.BigQuiet
import Derived.Test.YtiepfkhbebdkeaaDoorWideA

/-! Contracts of package ratio: its texts. -/
namespace Go.Proofs.YtiepfkhbebdkeaaDoor
open Go.RowKit

theorem digits_txt (n : Nat) : Lib.decDigits n = txt n := by
  induction n using Nat.strongRecOn with
  | _ n ih =>
    by_cases h : n < 10
    · rw [txt_small h, Lib.decDigits_one h]
    · rw [txt_big h, ← ih (n / 10) (by omega)]
      conv => lhs; rw [Lib.decDigits]
      rw [dif_neg h]
/-- a number's digits, with a minus ahead if it is below 0 -/
def itxt (n : Int) : List UInt8 := if n < 0 then 45 :: txt n.natAbs else txt n.toNat
theorem itoa_txt (n : Int) : Lib.itoa n = itxt n := by
  unfold Lib.itoa itxt
  rw [digits_txt, digits_txt]
/-- the table of the library's own is as the text lays it -/
def Tab (w : World) : Prop := Lib.TabIs Tryd.prog w "internal/strconv.uint64pow10" .u64 Lib.pow10Tab ∧ 3 < w.heap.size
theorem glob_tab : Tryd.prog.globalNamed "internal/strconv.uint64pow10" = some 3 := by kernel_rfl
theorem Tab.below {w w' : World} (h : Tab w) (hb : Below w.heap.size w w') : Tab w' :=
  ⟨var?_below hb glob_tab h.2 h.1, Nat.lt_of_lt_of_le h.2 hb.size⟩
theorem Tab.alloc {w : World} (h : Tab w) (o : Obj) : Tab (w.alloc o) := h.below ((Below.refl _ _).alloc (Nat.le_refl _) _)
theorem Tab.drew {w : World} (h : Tab w) : Tab w.drew := h.below (Below.refl _ _).drew
theorem rat_itoa (n : Int) (hn : I64 n) (w : World) (ht : Tab w) :
    Calls Tryd.prog 35 #[.int .i64 n] w fun e w' => e = .returned (.string ⟨(itxt n).toArray⟩) ∧ Below w.heap.size w w' := by
  refine (Tryd.strconv_Itoa n hn.1 hn.2 w ht.1).mono fun e w' h => ?_
  obtain ⟨he, k, os, rfl⟩ := h
  rw [itoa_txt] at he
  refine ⟨he, ?_⟩
  exact Lib.below_grow _ w (Nat.le_refl _) k os
def rtxt (p q : Int) : List UInt8 := if Valid p q then (if q = 1 then itxt p else itxt p ++ 47 :: itxt q) else []
theorem itxt_len {n : Int} (h : -1073741824 ≤ n ∧ n ≤ 1073741824) : (itxt n).length ≤ 11 := by
  unfold itxt
  split
  · have := txt_len 9 n.natAbs (by show _ < 10 ^ 10; omega)
    simp only [List.length_cons]; omega
  · have := txt_len 9 n.toNat (by show _ < 10 ^ 10; omega)
    omega
theorem retS {a b : ByteArray} (h : a = b) : Ending.returned (.string a) = .returned (.string b) := by rw [h]
abbrev bstr (l : List UInt8) : ByteArray := ⟨l.toArray⟩
theorem bstr_app (a b : List UInt8) : bstr a ++ bstr b = bstr (a ++ b) := ByteArray.ext (by simp)

end Go.Proofs.YtiepfkhbebdkeaaDoor

/-! strings.Cut at a slash. -/
namespace Go.Proofs.YtiepfkhbebdkeaaDoor
open Go.RowKit

def cutA (l : List UInt8) : List UInt8 := l.takeWhile (· != 47)
def cutR (l : List UInt8) : List UInt8 := (l.dropWhile (· != 47)).drop 1
def cutF (l : List UInt8) : Bool := l.any (· == 47)
def cutB (l : List UInt8) : List UInt8 := if cutF l = true then cutR l else []
theorem takeWhile_all : ∀ l : List UInt8, (∀ x ∈ l, x ≠ 47) → l.takeWhile (· != 47) = l := by
  intro l
  induction l with
  | nil => intro _; rfl
  | cons a b ih =>
    intro h
    rw [List.takeWhile_cons, if_pos (by simpa using h a List.mem_cons_self), ih fun x hx => h x (List.mem_cons_of_mem _ hx)]
theorem cut_miss {l : List UInt8} (h : ∀ k : Nat, l[k]? ≠ some 47) : cutA l = l ∧ cutF l = false := by
  have hm : ∀ x ∈ l, x ≠ 47 := by
    intro x hx hc
    obtain ⟨k, hk, e⟩ := List.getElem_of_mem hx
    exact h k (by rw [List.getElem?_eq_getElem hk, e, hc])
  refine ⟨?_, ?_⟩
  · exact takeWhile_all l hm
  · unfold cutF
    rw [List.any_eq_false]
    intro x hx
    simpa using hm x hx
theorem cut_hit : ∀ (i : Nat) (l : List UInt8), l[i]? = some 47 → (∀ k, k < i → l[k]? ≠ some 47) → cutA l = l.take i ∧ cutR l = l.drop (i + 1) ∧ cutF l = true := by
  intro i
  induction i with
  | zero =>
    intro l h _
    cases l with
    | nil => simp at h
    | cons a b =>
      obtain rfl : a = 47 := by simpa using h
      refine ⟨by simp [cutA], by simp [cutR], by simp [cutF]⟩
  | succ i ih =>
    intro l h hk
    cases l with
    | nil => simp at h
    | cons a b =>
      have ha : a ≠ 47 := fun hc => hk 0 (by omega) (by rw [hc]; rfl)
      obtain ⟨h1, h2, h3⟩ := ih b (by simpa using h) (fun k hlt => by have := hk (k + 1) (by omega); simpa using this)
      have hb : (a != 47) = true := by simpa using ha
      refine ⟨?_, ?_, ?_⟩
      · unfold cutA at h1 ⊢; rw [List.takeWhile_cons, if_pos hb, h1]; rfl
      · unfold cutR at h2 ⊢; rw [List.dropWhile_cons, if_pos hb, h2]; rfl
      · unfold cutF at h3 ⊢; rw [List.any_cons, h3, Bool.or_true]

set_option maxHeartbeats 2000000 in
theorem lite_cut (s : ByteArray) (hs : s.size ≤ maxLen) (w : World) :
    Calls Tryd.prog 48 #[.string s, .string ⟨#[47]⟩] w fun e w' => e = .returned (.tuple #[.string (bstr (cutA s.data.toList)), .string (bstr (cutB s.data.toList)), .bool (cutF s.data.toList)]) ∧ ∃ n, w' = w.drewN n := by
  unfold maxLen at hs
  have KI := Lib.hid (fun W => Tryd.stringslite_Index_one s 47 W)
  have hge := Lib.indexByte_ge s.data.toList 47
  rcases Int.lt_or_le (Lib.indexByte s.data.toList 47) 0 with hi | hi
  · have e : Lib.indexByte s.data.toList 47 = -1 := by omega
    obtain ⟨h1, h2⟩ := cut_miss (Lib.indexByte_none e)
    rw [e] at KI
    have HR : Hid (Ending.returned (.tuple #[.string s, .string ⟨#[]⟩, .bool false]) = .returned (.tuple #[.string (bstr (cutA s.data.toList)), .string (bstr (cutB s.data.toList)), .bool (cutF s.data.toList)])) := by
      show _ = _
      unfold cutB
      rw [h1, h2]; rfl
    clear hi hge e h1 h2
    generalize bstr (cutA s.data.toList) = ra at *
    generalize bstr (cutB s.data.toList) = rb at *
    generalize cutF s.data.toList = rf at *
    go_enter Tryd.func48, Tryd.ntmps48
    go_wp2_with fail
    refine (KI.out _).mono ?_
    rintro e w1 ⟨rfl, rfl⟩
    go_wp2
    go_ret3
    exact ⟨HR.out, 0, rfl⟩
  · obtain ⟨i, hi2⟩ : ∃ i : Nat, Lib.indexByte s.data.toList 47 = i := ⟨_, (Int.toNat_of_nonneg hi).symm⟩
    obtain ⟨g1, g2⟩ := Lib.indexByte_some hi2
    have hlt : i < s.size := by
      have := (List.getElem?_eq_some_iff.1 g1).1
      simpa using this
    obtain ⟨h1, h2, h3⟩ := cut_hit i _ g1 g2
    rw [hi2] at KI
    have HR : Hid (Ending.returned (.tuple #[.string (s.extract 0 i), .string (s.extract (i + 1) s.size), .bool true]) = .returned (.tuple #[.string (bstr (cutA s.data.toList)), .string (bstr (cutB s.data.toList)), .bool (cutF s.data.toList)])) := by
      show _ = _
      unfold cutB
      rw [h1, h2, h3, if_pos rfl]
      have e1 : s.extract 0 i = bstr (s.data.toList.take i) := ByteArray.ext (Array.toList_inj.1 (by simp))
      have e2 : s.extract (i + 1) s.size = bstr (s.data.toList.drop (i + 1)) := ByteArray.ext (Array.toList_inj.1 (by simp [List.take_of_length_le]))
      rw [e1, e2]
    have c1 : (0 : Int) ≤ (i : Int) := by omega
    have c2 : (i : Int) ≤ (s.size : Int) := by omega
    have c3 : (0 : Int) ≤ (i : Int) + 1 := by omega
    have c4 : (i : Int) + 1 ≤ (s.size : Int) := by omega
    clear hi hge hi2 g1 g2 h1 h2 h3
    generalize bstr (cutA s.data.toList) = ra at *
    generalize bstr (cutB s.data.toList) = rb at *
    generalize cutF s.data.toList = rf at *
    go_enter Tryd.func48, Tryd.ntmps48
    go_wp2_with fail
    refine (KI.out _).mono ?_
    rintro e w1 ⟨rfl, rfl⟩
    go_wp2
    go_region
    all_goals
      go_wp2
      go_ret3
      exact ⟨HR.out, 1, rfl⟩
theorem str_cut (s : ByteArray) (hs : s.size ≤ maxLen) (w : World) :
    Calls Tryd.prog 36 #[.string s, .string ⟨#[47]⟩] w fun e w' => e = .returned (.tuple #[.string (bstr (cutA s.data.toList)), .string (bstr (cutB s.data.toList)), .bool (cutF s.data.toList)]) ∧ ∃ n, w' = w.drewN n := by
  have K := Lib.hid (fun W => lite_cut s hs W)
  generalize bstr (cutA s.data.toList) = ra at *
  generalize bstr (cutB s.data.toList) = rb at *
  generalize cutF s.data.toList = rf at *
  go_enter Tryd.func36, Tryd.ntmps36
  go_wp2_with fail
  refine (K.out _).mono ?_
  rintro e w1 ⟨rfl, n, rfl⟩
  go_wp2
  go_ret3
  exact ⟨rfl, n, rfl⟩
end Go.Proofs.YtiepfkhbebdkeaaDoor

/-! Contracts of package ratio: readPart, read. -/
namespace Go.Proofs.YtiepfkhbebdkeaaDoor
open Go.RowKit

/-- the digits of a part -/
def Good (l : List UInt8) : Prop := isTextB l = true ∧ dec l ≤ 1073741824
theorem good_dec {l : List UInt8} (h : Good l) : 0 ≤ dec l ∧ psV l = .tuple #[.agg #[.int .u64 0, .int .u64 (dec l)], .int .i64 0] := by
  obtain ⟨h1, h2⟩ := h
  have h0 : 0 ≤ dec l := by
    have := dec_txt (dec l).toNat
    rw [txt_dec h1] at this
    omega
  have hl : l.length ≤ 39 := by
    have := txt_len 9 (dec l).toNat (by show _ < 10 ^ 10; omega)
    rw [txt_dec h1] at this
    omega
  refine ⟨h0, ?_⟩
  rw [psV_in h1 hl]
  exact (Ending.returned.inj (wfV_in (n := dec l) (h := 0) (l := dec l) (by omega) (by omega) (by omega))).symm
theorem good_of {l : List UInt8} (h : psE l = 0) (h2 : wv (psH l) (psL l) ≤ 1073741824) : Good l := by
  have hT : isTextB l = true := by
    cases hc : isTextB l with
    | true => rfl
    | false => unfold psE at h; rw [hc] at h; simp at h
  have hl : l.length ≤ 39 := by
    rcases Nat.lt_or_ge 39 l.length with hc | hc
    · unfold psE at h; rw [if_pos hT, if_neg (by omega)] at h; omega
    · exact hc
  have hE : wfE (dec l) = 0 := by unfold psE at h; rw [if_pos hT, if_pos hl] at h; exact h
  have hn : 0 ≤ dec l ∧ dec l < 340282366920938463463374607431768211456 := by
    unfold wfE at hE
    split at hE
    · assumption
    · omega
  have e1 : psH l = dec l / 18446744073709551616 := by unfold psH wfH; rw [if_pos ⟨hT, hl⟩, if_pos hn]
  have e2 : psL l = dec l % 18446744073709551616 := by unfold psL wfL; rw [if_pos ⟨hT, hl⟩, if_pos hn]
  rw [e1, e2, wv_split] at h2
  exact ⟨hT, h2⟩
theorem psH_u64 (l : List UInt8) : U64 (psH l) ∧ U64 (psL l) := by
  have h : ∀ n, U64 (wfH n) ∧ U64 (wfL n) := by
    intro n
    unfold wfH wfL U64
    split <;> omega
  have := h (dec l)
  unfold psH psL
  refine ⟨?_, ?_⟩ <;> split
  · exact this.1
  · unfold U64; omega
  · exact this.2
  · unfold U64; omega

end Go.Proofs.YtiepfkhbebdkeaaDoor

/-! The contract of ratio.read. -/
namespace Go.Proofs.YtiepfkhbebdkeaaDoor
open Go.RowKit

def negB (l : List UInt8) : Bool := Lib.hasPrefix l [45]
def szL (l : List UInt8) : List UInt8 := Lib.trimPrefix l [45]
def rdA (l : List UInt8) : List UInt8 := cutA (szL l)
def rdB (l : List UInt8) : List UInt8 := if cutF (szL l) = true then cutB (szL l) else [49]
def rdP (l : List UInt8) : Int := if negB l = true then -dec (rdA l) else dec (rdA l)
def RdGood (l : List UInt8) : Prop := Good (rdA l) ∧ Good (rdB l)
theorem szL_len (l : List UInt8) : (szL l).length ≤ l.length := by
  unfold szL Lib.trimPrefix
  split
  · rw [List.length_drop]; omega
  · exact Nat.le_refl _
theorem cutA_len (l : List UInt8) : (cutA l).length ≤ l.length := by
  unfold cutA
  exact (List.takeWhile_sublist _).length_le
theorem cutB_len (l : List UInt8) : (cutB l).length ≤ l.length := by
  unfold cutB cutR
  split
  · rw [List.length_drop]
    have := (List.dropWhile_sublist (l := l) (· != 47)).length_le
    omega
  · simp
theorem bstr_size (l : List UInt8) : (⟨l.toArray⟩ : ByteArray).size = l.length := by show l.toArray.size = _; simp

def endB (F : Bool) (sB : ByteArray) : ByteArray := match F with | true => sB | false => ⟨#[49]⟩
theorem endB_is (l : List UInt8) : endB (cutF (szL l)) ⟨(cutB (szL l)).toArray⟩ = ⟨(rdB l).toArray⟩ := by
  unfold rdB
  cases cutF (szL l) <;> rfl
theorem rdA_size (s : ByteArray) (hs : s.size ≤ maxLen) : (⟨(rdA s.data.toList).toArray⟩ : ByteArray).size ≤ maxLen ∧ (⟨(rdB s.data.toList).toArray⟩ : ByteArray).size ≤ maxLen := by
  have hl : s.data.toList.length = s.size := by simp
  have z1 := szL_len s.data.toList
  have z2 := cutA_len (szL s.data.toList)
  have z3 := cutB_len (szL s.data.toList)
  rw [bstr_size, bstr_size]
  refine ⟨by show (cutA _).length ≤ _; omega, ?_⟩
  unfold rdB
  split
  · omega
  · unfold maxLen; simp
end Go.Proofs.YtiepfkhbebdkeaaDoor

/-! What is read of a ratio's text. And the contract of ratio.Parse. -/
namespace Go.Proofs.YtiepfkhbebdkeaaDoor
open Go.RowKit

theorem txt_no (n : Nat) (c : UInt8) (hc : digB c = false) : ∀ x ∈ txt n, x ≠ c := by
  intro x hx he
  have := txt_all n
  rw [List.all_eq_true] at this
  rw [← he, this x hx] at hc
  cases hc
theorem good_txt (n : Nat) (h : n ≤ 1073741824) : Good (txt n) := ⟨txt_isText n, by rw [dec_txt]; omega⟩
theorem cut_txt (n : Nat) (r : List UInt8) : cutA (txt n ++ 47 :: r) = txt n ∧ cutB (txt n ++ 47 :: r) = r ∧ cutF (txt n ++ 47 :: r) = true := by
  have h := cut_hit (txt n).length (txt n ++ 47 :: r) (by rw [List.getElem?_append_right (Nat.le_refl _)]; simp) (by
    intro k hk he
    rw [List.getElem?_append_left hk] at he
    exact txt_no n 47 (by decide) 47 (List.mem_of_getElem? he) rfl)
  refine ⟨?_, ?_, h.2.2⟩
  · rw [h.1]; simp
  · unfold cutB
    rw [if_pos h.2.2, h.2.1, List.drop_append]
    simp
theorem cut_txt0 (n : Nat) : cutA (txt n) = txt n ∧ cutF (txt n) = false :=
  cut_miss fun k he => txt_no n 47 (by decide) 47 (List.mem_of_getElem? he) rfl
theorem pre_txt (n : Nat) (r : List UInt8) : negB (45 :: (txt n ++ r)) = true ∧ szL (45 :: (txt n ++ r)) = txt n ++ r := by
  have h : negB (45 :: (txt n ++ r)) = true := by
    unfold negB Lib.hasPrefix
    simp [List.isPrefixOf]
  refine ⟨h, ?_⟩
  unfold szL Lib.trimPrefix
  have h2 : Lib.hasPrefix (45 :: (txt n ++ r)) [45] = true := h
  rw [if_pos h2]; rfl
theorem pre_txt0 (n : Nat) (r : List UInt8) : negB (txt n ++ r) = false ∧ szL (txt n ++ r) = txt n ++ r := by
  have h : negB (txt n ++ r) = false := by
    unfold negB Lib.hasPrefix
    cases hd : txt n with
    | nil => exact absurd hd (txt_ne n)
    | cons a b =>
      have := txt_no n 45 (by decide) a (by rw [hd]; exact List.mem_cons_self)
      have h2 : ((45 : UInt8) == a) = false := by simpa using Ne.symm this
      simp [List.isPrefixOf, h2]
  refine ⟨h, ?_⟩
  unfold szL Lib.trimPrefix
  have h2 : Lib.hasPrefix (txt n ++ r) [45] = false := h
  rw [h2]; rfl
theorem txt_1 : txt 1 = [49] := txt_small (by decide)
theorem itxt_pos {q : Int} (h : 0 < q) : itxt q = txt q.toNat := by unfold itxt; rw [if_neg (by omega)]
/-- what is read of it -/
theorem rd_rtxt {p q : Int} (hv : Valid p q) : RdGood (rtxt p q) ∧ rdP (rtxt p q) = p ∧ dec (rdB (rtxt p q)) = q := by
  have hq := hv.1
  have hp := hv.2.1
  have key : ∀ r : List UInt8, cutA (txt p.natAbs ++ r) = txt p.natAbs → rtxt p q = itxt p ++ r → rdA (rtxt p q) = txt p.natAbs ∧ rdP (rtxt p q) = p ∧ szL (rtxt p q) = txt p.natAbs ++ r := by
    intro r hc hr
    rw [hr]
    unfold itxt
    by_cases hn : p < 0
    · rw [if_pos hn, List.cons_append]
      obtain ⟨h1, h2⟩ := pre_txt p.natAbs r
      have h3 : rdA (45 :: (txt p.natAbs ++ r)) = txt p.natAbs := by unfold rdA; rw [h2, hc]
      refine ⟨h3, ?_, h2⟩
      unfold rdP
      rw [if_pos h1, h3, dec_txt]; omega
    · rw [if_neg hn]
      have e : p.toNat = p.natAbs := by omega
      rw [e]
      obtain ⟨h1, h2⟩ := pre_txt0 p.natAbs r
      have h3 : rdA (txt p.natAbs ++ r) = txt p.natAbs := by unfold rdA; rw [h2, hc]
      refine ⟨h3, ?_, h2⟩
      unfold rdP
      rw [h1, h3, dec_txt]
      show (p.natAbs : Int) = p
      omega
  have gp := good_txt p.natAbs (by omega)
  have gq := good_txt q.toNat (by omega)
  by_cases h1 : q = 1
  · obtain ⟨c1, c2⟩ := cut_txt0 p.natAbs
    obtain ⟨k1, k2, k3⟩ := key [] (by rw [List.append_nil]; exact c1) (by unfold rtxt; rw [if_pos hv, if_pos h1, List.append_nil])
    have hB : rdB (rtxt p q) = txt 1 := by unfold rdB; rw [k3, List.append_nil, c2, txt_1]; rfl
    refine ⟨⟨by rw [k1]; exact gp, by rw [hB]; exact good_txt 1 (by decide)⟩, k2, ?_⟩
    rw [hB, dec_txt, h1]; rfl
  · obtain ⟨c1, c2, c3⟩ := cut_txt p.natAbs (itxt q)
    obtain ⟨k1, k2, k3⟩ := key (47 :: itxt q) c1 (by unfold rtxt; rw [if_pos hv, if_neg h1])
    have hB : rdB (rtxt p q) = txt q.toNat := by unfold rdB; rw [k3, c3, if_pos rfl, c2, itxt_pos (by omega)]
    refine ⟨⟨by rw [k1]; exact gp, by rw [hB]; exact gq⟩, k2, ?_⟩
    rw [hB, dec_txt]; omega
theorem rtxt_ne {p q : Int} (hv : Valid p q) : rtxt p q ≠ [] := by
  intro h
  obtain ⟨⟨h1, _⟩, _, _⟩ := rd_rtxt hv
  rw [h] at h1
  have : isTextB (rdA []) = true := h1.1
  exact absurd this (by decide)
/-- it is the text of a ratio: of this one -/
def PrOk (l : List UInt8) : Prop := RdGood l ∧ rtxt (rdP l) (dec (rdB l)) = l
theorem prOk_valid {l : List UInt8} (h : PrOk l) : Valid (rdP l) (dec (rdB l)) := by
  by_cases hv : Valid (rdP l) (dec (rdB l))
  · exact hv
  · exfalso
    obtain ⟨⟨h1, _⟩, h2⟩ := h
    unfold rtxt at h2
    rw [if_neg hv] at h2
    rw [← h2] at h1
    have : isTextB (rdA []) = true := h1.1
    exact absurd this (by decide)
theorem prOk_of {p q : Int} {l : List UInt8} (hv : Valid p q) (h : rtxt p q = l) : PrOk l ∧ rdP l = p ∧ dec (rdB l) = q := by
  obtain ⟨h1, h2, h3⟩ := rd_rtxt hv
  rw [h] at h1 h2 h3
  exact ⟨⟨h1, by rw [h2, h3, h]⟩, h2, h3⟩
theorem rdP_bd {l : List UInt8} (h : RdGood l) : (-1073741824 ≤ rdP l ∧ rdP l ≤ 1073741824) ∧ (0 ≤ dec (rdB l) ∧ dec (rdB l) ≤ 1073741824) := by
  have h1 := (good_dec h.1).1
  have h2 := (good_dec h.2).1
  have h3 := h.1.2
  have h4 := h.2.2
  unfold rdP
  refine ⟨?_, by omega, by omega⟩
  split <;> omega
instance (l : List UInt8) : Decidable (Good l) := by unfold Good; infer_instance
instance (l : List UInt8) : Decidable (RdGood l) := by unfold RdGood; infer_instance
instance (l : List UInt8) : Decidable (PrOk l) := by unfold PrOk; infer_instance
def prP (l : List UInt8) : Int := if PrOk l then rdP l else 0
def prQ (l : List UInt8) : Int := if PrOk l then dec (rdB l) else 0
def prE (l : List UInt8) : Int := if PrOk l then 0 else 30
abbrev prV (l : List UInt8) : Value := .tuple #[.agg #[.int .i64 (prP l), .int .i64 (prQ l)], .int .i64 (prE l)]
theorem prV_ok {l : List UInt8} (h : PrOk l) : prV l = .tuple #[.agg #[.int .i64 (rdP l), .int .i64 (dec (rdB l))], .int .i64 0] := by
  unfold prV prP prQ prE; rw [if_pos h, if_pos h, if_pos h]
theorem prV_no {l : List UInt8} (h : ¬ PrOk l) : prV l = .tuple #[.agg #[.int .i64 0, .int .i64 0], .int .i64 30] := by
  unfold prV prP prQ prE; rw [if_neg h, if_neg h, if_neg h]

end Go.Proofs.YtiepfkhbebdkeaaDoor
