/- RatS RatC RatP RatR RatX -/
import Derived.Test.YtbnpbflndnjmcaaDoorRatA
import Derived.Test.YtbnpbflndnjmcaaDoorShelf
import Derived.Test.YtbnpbflndnjmcaaDoorWideX
import Derived.WalkSmall
import Derived.Lib.AppendIntMem
import Derived.Outline
import Derived.Lib.IndexLaws
import Derived.Deep.QuietTactic
import Derived.BigQuiet
import Derived.Test.YtbnpbflndnjmcaaDoorWideA

/-! Contracts of package ratio: its texts. -/
namespace Go.Proofs.YtbnpbflndnjmcaaDoor
open Go.RowKit

theorem digits_txt (n : Nat) : Lib.decDigits n = txt n := by
  induction n using Nat.strongRecOn with
  | _ n ih =>
    by_cases h : n < 10
    · rw [txt_small h, Lib.decDigits_one h]
    · rw [txt_big h, ← ih (n / 10) (by omega)]
      conv => lhs; rw [Lib.decDigits]
      rw [dif_neg h]
/-- a number's digits, with a minus ahead if it is below 0 -/
def itxt (n : Int) : List UInt8 := if n < 0 then 45 :: txt n.natAbs else txt n.toNat
theorem itoa_txt (n : Int) : Lib.itoa n = itxt n := by
  unfold Lib.itoa itxt
  rw [digits_txt, digits_txt]
/-- the table of the library's own is as the text lays it -/
def Tab (w : World) : Prop := Lib.TabIs Tryd.prog w "internal/strconv.uint64pow10" .u64 Lib.pow10Tab ∧ 0 < w.heap.size
theorem glob_tab : Tryd.prog.globalNamed "internal/strconv.uint64pow10" = some 0 := by kernel_rfl
theorem Tab.below {w w' : World} (h : Tab w) (hb : Below w.heap.size w w') : Tab w' :=
  ⟨var?_below hb glob_tab h.2 h.1, Nat.lt_of_lt_of_le h.2 hb.size⟩
theorem Tab.alloc {w : World} (h : Tab w) (o : Obj) : Tab (w.alloc o) := h.below ((Below.refl _ _).alloc (Nat.le_refl _) _)
theorem Tab.drew {w : World} (h : Tab w) : Tab w.drew := h.below (Below.refl _ _).drew
theorem rat_itoa (n : Int) (hn : I64 n) (w : World) (ht : Tab w) :
    Calls Tryd.prog 50 #[.int .i64 n] w fun e w' => e = .returned (.string ⟨(itxt n).toArray⟩) ∧ Below w.heap.size w w' := by
  refine (Tryd.strconv_Itoa n hn.1 hn.2 w ht.1).mono fun e w' h => ?_
  obtain ⟨he, k, os, rfl⟩ := h
  rw [itoa_txt] at he
  refine ⟨he, ?_⟩
  exact Lib.below_grow _ w (Nat.le_refl _) k os
def rtxt (p q : Int) : List UInt8 := if Valid p q then (if q = 1 then itxt p else itxt p ++ 47 :: itxt q) else []
theorem itxt_len {n : Int} (h : -1073741824 ≤ n ∧ n ≤ 1073741824) : (itxt n).length ≤ 11 := by
  unfold itxt
  split
  · have := txt_len 9 n.natAbs (by show _ < 10 ^ 10; omega)
    simp only [List.length_cons]; omega
  · have := txt_len 9 n.toNat (by show _ < 10 ^ 10; omega)
    omega
theorem retS {a b : ByteArray} (h : a = b) : Ending.returned (.string a) = .returned (.string b) := by rw [h]
abbrev bstr (l : List UInt8) : ByteArray := ⟨l.toArray⟩
theorem bstr_app (a b : List UInt8) : bstr a ++ bstr b = bstr (a ++ b) := ByteArray.ext (by simp)

set_option maxHeartbeats 2000000 in
theorem rat_text (p q : Int) (hp : I64 p) (hq : I64 q) (w : World) (ht : Tab w) :
    Calls Tryd.prog 29 #[.agg #[.int .i64 p, .int .i64 q]] w fun e w' => e = .returned (.string (bstr (rtxt p q))) ∧ Below w.heap.size w w' := by
  have KI := Lib.hid (fun W => rat_is p q hp hq W)
  have J0 := Lib.hid ((Keeps.start w).alloc #[.int .i64 p, .int .i64 q] 23)
  have T0 := Lib.hid (ht.alloc (.cells #[.int .i64 p, .int .i64 q] 23))
  by_cases hv : Valid p q
  · rw [isB_of hv] at KI
    have lp := itxt_len hv.2.1
    have lq := itxt_len (n := q) (by have := hv.1; omega)
    have KP := Lib.hid (fun W hT => rat_itoa p hp W hT)
    have KQ := Lib.hid (fun W hT => rat_itoa q hq W hT)
    by_cases h1 : q = 1
    · have HR : Hid (bstr (itxt p) = bstr (rtxt p q)) := by show _ = _; unfold rtxt; rw [if_pos hv, if_pos h1]
      have hb : (q == 1) = true := by simpa using h1
      have HH := Lib.hid h1
      clear h1
      go_enter Tryd.func29, Tryd.ntmps29
      go_wp2_with fail
      refine (KI.out _).mono ?_
      rintro e w1 ⟨rfl, b1⟩
      have J1 := Lib.hid (J0.out.below b1)
      have T1 := Lib.hid (T0.out.below b1)
      obtain ⟨x0, x1, _, _⟩ := J1.out.head.two
      clear b1
      go_wp2_with fail
      refine (KP.out _ T1.out).mono ?_
      rintro e w2 ⟨rfl, b2⟩
      go_wp2
      go_ret
      exact ⟨retS HR.out, (J1.out.below b2).2.1⟩
    · have HR : Hid (((⟨(itxt p).toArray⟩ : ByteArray) ++ ⟨#[47]⟩) ++ ⟨(itxt q).toArray⟩ = bstr (rtxt p q)) := by
        show _ = _
        unfold rtxt; rw [if_pos hv, if_neg h1]
        exact ByteArray.ext (by simp)
      have hb : (q == 1) = false := by simpa using h1
      have sp : (⟨(itxt p).toArray⟩ : ByteArray).size ≤ 11 := by show (itxt p).toArray.size ≤ 11; simpa using lp
      have sq : (⟨(itxt q).toArray⟩ : ByteArray).size ≤ 11 := by show (itxt q).toArray.size ≤ 11; simpa using lq
      have c1 : ∀ W : World, (Op.stringOp .add (⟨(itxt p).toArray⟩ : ByteArray) ⟨#[47]⟩).run Tryd.prog W = .ok (.string (⟨(itxt p).toArray⟩ ++ ⟨#[47]⟩)) W := fun W => run_string_add_sum _ _ _ (by have : (⟨#[47]⟩ : ByteArray).size = 1 := rfl; omega)
      have c2 : ∀ W : World, (Op.stringOp .add ((⟨(itxt p).toArray⟩ : ByteArray) ++ ⟨#[47]⟩) ⟨(itxt q).toArray⟩).run Tryd.prog W = .ok (.string ((⟨(itxt p).toArray⟩ ++ ⟨#[47]⟩) ++ ⟨(itxt q).toArray⟩)) W := fun W => run_string_add_sum _ _ _ (by rw [ByteArray.size_append]; have : (⟨#[47]⟩ : ByteArray).size = 1 := rfl; omega)
      clear sp sq
      generalize (⟨(itxt p).toArray⟩ : ByteArray) = tp at *
      generalize (⟨(itxt q).toArray⟩ : ByteArray) = tq at *
      have HH := Lib.hid h1
      clear h1
      go_enter Tryd.func29, Tryd.ntmps29
      go_wp2_with fail
      refine (KI.out _).mono ?_
      rintro e w1 ⟨rfl, b1⟩
      obtain ⟨x0, x1, _, _⟩ := (J0.out.below b1).head.two
      have J1 := Lib.hid (J0.out.below b1).drew
      have T1 := Lib.hid (T0.out.below b1).drew
      clear b1
      go_wp2
      obtain ⟨x0, x1, _, _⟩ := J1.out.head.two
      go_region_held3 (fun wr => wr.cell? ⟨w.heap.size, 0, none⟩ = some (.int .i64 p) ∧ wr.cell? ⟨w.heap.size, 1, none⟩ = some (.int .i64 q)) (go_keep)
        (first
          | (go_at_call 50; ((with_reducible refine (KP.out _ T1.out).mono ?_); rintro e w2 ⟨rfl, b2⟩; have J1 := Lib.hid (J1.out.below b2); have T1 := Lib.hid (T1.out.below b2); obtain ⟨x0, x1, _, _⟩ := J1.out.head.two; clear b2))
          | (go_at_call 50; ((with_reducible refine (KQ.out _ T1.out).mono ?_); rintro e w2 ⟨rfl, b2⟩; have J1 := Lib.hid (J1.out.below b2); have T1 := Lib.hid (T1.out.below b2); obtain ⟨x0, x1, _, _⟩ := J1.out.head.two; clear b2)))
      all_goals
        go_wp2
        go_ret
        exact ⟨retS HR.out, J1.out.2.1⟩
  · have hb : isB p q = false := decide_eq_false hv
    have HR : Hid (bstr [] = bstr (rtxt p q)) := by show _ = _; unfold rtxt; rw [if_neg hv]
    rw [hb] at KI
    clear hb
    go_enter Tryd.func29, Tryd.ntmps29
    go_wp2_with fail
    refine (KI.out _).mono ?_
    rintro e w1 ⟨rfl, b1⟩
    go_wp2
    go_ret
    exact ⟨retS HR.out, (J0.out.below b1).2.1⟩
end Go.Proofs.YtbnpbflndnjmcaaDoor

/-! strings.Cut at a slash. -/
namespace Go.Proofs.YtbnpbflndnjmcaaDoor
open Go.RowKit

def cutA (l : List UInt8) : List UInt8 := l.takeWhile (· != 47)
def cutR (l : List UInt8) : List UInt8 := (l.dropWhile (· != 47)).drop 1
def cutF (l : List UInt8) : Bool := l.any (· == 47)
def cutB (l : List UInt8) : List UInt8 := if cutF l = true then cutR l else []
theorem takeWhile_all : ∀ l : List UInt8, (∀ x ∈ l, x ≠ 47) → l.takeWhile (· != 47) = l := by
  intro l
  induction l with
  | nil => intro _; rfl
  | cons a b ih =>
    intro h
    rw [List.takeWhile_cons, if_pos (by simpa using h a List.mem_cons_self), ih fun x hx => h x (List.mem_cons_of_mem _ hx)]
theorem cut_miss {l : List UInt8} (h : ∀ k : Nat, l[k]? ≠ some 47) : cutA l = l ∧ cutF l = false := by
  have hm : ∀ x ∈ l, x ≠ 47 := by
    intro x hx hc
    obtain ⟨k, hk, e⟩ := List.getElem_of_mem hx
    exact h k (by rw [List.getElem?_eq_getElem hk, e, hc])
  refine ⟨?_, ?_⟩
  · exact takeWhile_all l hm
  · unfold cutF
    rw [List.any_eq_false]
    intro x hx
    simpa using hm x hx
theorem cut_hit : ∀ (i : Nat) (l : List UInt8), l[i]? = some 47 → (∀ k, k < i → l[k]? ≠ some 47) → cutA l = l.take i ∧ cutR l = l.drop (i + 1) ∧ cutF l = true := by
  intro i
  induction i with
  | zero =>
    intro l h _
    cases l with
    | nil => simp at h
    | cons a b =>
      obtain rfl : a = 47 := by simpa using h
      refine ⟨by simp [cutA], by simp [cutR], by simp [cutF]⟩
  | succ i ih =>
    intro l h hk
    cases l with
    | nil => simp at h
    | cons a b =>
      have ha : a ≠ 47 := fun hc => hk 0 (by omega) (by rw [hc]; rfl)
      obtain ⟨h1, h2, h3⟩ := ih b (by simpa using h) (fun k hlt => by have := hk (k + 1) (by omega); simpa using this)
      have hb : (a != 47) = true := by simpa using ha
      refine ⟨?_, ?_, ?_⟩
      · unfold cutA at h1 ⊢; rw [List.takeWhile_cons, if_pos hb, h1]; rfl
      · unfold cutR at h2 ⊢; rw [List.dropWhile_cons, if_pos hb, h2]; rfl
      · unfold cutF at h3 ⊢; rw [List.any_cons, h3, Bool.or_true]

set_option maxHeartbeats 2000000 in
theorem lite_cut (s : ByteArray) (hs : s.size ≤ maxLen) (w : World) :
    Calls Tryd.prog 84 #[.string s, .string ⟨#[47]⟩] w fun e w' => e = .returned (.tuple #[.string (bstr (cutA s.data.toList)), .string (bstr (cutB s.data.toList)), .bool (cutF s.data.toList)]) ∧ ∃ n, w' = w.drewN n := by
  unfold maxLen at hs
  have KI := Lib.hid (fun W => Tryd.stringslite_Index_one s 47 W)
  have hge := Lib.indexByte_ge s.data.toList 47
  rcases Int.lt_or_le (Lib.indexByte s.data.toList 47) 0 with hi | hi
  · have e : Lib.indexByte s.data.toList 47 = -1 := by omega
    obtain ⟨h1, h2⟩ := cut_miss (Lib.indexByte_none e)
    rw [e] at KI
    have HR : Hid (Ending.returned (.tuple #[.string s, .string ⟨#[]⟩, .bool false]) = .returned (.tuple #[.string (bstr (cutA s.data.toList)), .string (bstr (cutB s.data.toList)), .bool (cutF s.data.toList)])) := by
      show _ = _
      unfold cutB
      rw [h1, h2]; rfl
    clear hi hge e h1 h2
    generalize bstr (cutA s.data.toList) = ra at *
    generalize bstr (cutB s.data.toList) = rb at *
    generalize cutF s.data.toList = rf at *
    go_enter Tryd.func84, Tryd.ntmps84
    go_wp2_with fail
    refine (KI.out _).mono ?_
    rintro e w1 ⟨rfl, rfl⟩
    go_wp2
    go_ret3
    exact ⟨HR.out, 0, rfl⟩
  · obtain ⟨i, hi2⟩ : ∃ i : Nat, Lib.indexByte s.data.toList 47 = i := ⟨_, (Int.toNat_of_nonneg hi).symm⟩
    obtain ⟨g1, g2⟩ := Lib.indexByte_some hi2
    have hlt : i < s.size := by
      have := (List.getElem?_eq_some_iff.1 g1).1
      simpa using this
    obtain ⟨h1, h2, h3⟩ := cut_hit i _ g1 g2
    rw [hi2] at KI
    have HR : Hid (Ending.returned (.tuple #[.string (s.extract 0 i), .string (s.extract (i + 1) s.size), .bool true]) = .returned (.tuple #[.string (bstr (cutA s.data.toList)), .string (bstr (cutB s.data.toList)), .bool (cutF s.data.toList)])) := by
      show _ = _
      unfold cutB
      rw [h1, h2, h3, if_pos rfl]
      have e1 : s.extract 0 i = bstr (s.data.toList.take i) := ByteArray.ext (Array.toList_inj.1 (by simp))
      have e2 : s.extract (i + 1) s.size = bstr (s.data.toList.drop (i + 1)) := ByteArray.ext (Array.toList_inj.1 (by simp [List.take_of_length_le]))
      rw [e1, e2]
    have c1 : (0 : Int) ≤ (i : Int) := by omega
    have c2 : (i : Int) ≤ (s.size : Int) := by omega
    have c3 : (0 : Int) ≤ (i : Int) + 1 := by omega
    have c4 : (i : Int) + 1 ≤ (s.size : Int) := by omega
    clear hi hge hi2 g1 g2 h1 h2 h3
    generalize bstr (cutA s.data.toList) = ra at *
    generalize bstr (cutB s.data.toList) = rb at *
    generalize cutF s.data.toList = rf at *
    go_enter Tryd.func84, Tryd.ntmps84
    go_wp2_with fail
    refine (KI.out _).mono ?_
    rintro e w1 ⟨rfl, rfl⟩
    go_wp2
    go_region
    all_goals
      go_wp2
      go_ret3
      exact ⟨HR.out, 1, rfl⟩
theorem str_cut (s : ByteArray) (hs : s.size ≤ maxLen) (w : World) :
    Calls Tryd.prog 69 #[.string s, .string ⟨#[47]⟩] w fun e w' => e = .returned (.tuple #[.string (bstr (cutA s.data.toList)), .string (bstr (cutB s.data.toList)), .bool (cutF s.data.toList)]) ∧ ∃ n, w' = w.drewN n := by
  have K := Lib.hid (fun W => lite_cut s hs W)
  generalize bstr (cutA s.data.toList) = ra at *
  generalize bstr (cutB s.data.toList) = rb at *
  generalize cutF s.data.toList = rf at *
  go_enter Tryd.func69, Tryd.ntmps69
  go_wp2_with fail
  refine (K.out _).mono ?_
  rintro e w1 ⟨rfl, n, rfl⟩
  go_wp2
  go_ret3
  exact ⟨rfl, n, rfl⟩
end Go.Proofs.YtbnpbflndnjmcaaDoor

/-! Contracts of package ratio: readPart, read. -/
namespace Go.Proofs.YtbnpbflndnjmcaaDoor
open Go.RowKit

/-- the digits of a part -/
def Good (l : List UInt8) : Prop := isTextB l = true ∧ dec l ≤ 1073741824
theorem good_dec {l : List UInt8} (h : Good l) : 0 ≤ dec l ∧ psV l = .tuple #[.agg #[.int .u64 0, .int .u64 (dec l)], .int .i64 0] := by
  obtain ⟨h1, h2⟩ := h
  have h0 : 0 ≤ dec l := by
    have := dec_txt (dec l).toNat
    rw [txt_dec h1] at this
    omega
  have hl : l.length ≤ 39 := by
    have := txt_len 9 (dec l).toNat (by show _ < 10 ^ 10; omega)
    rw [txt_dec h1] at this
    omega
  refine ⟨h0, ?_⟩
  rw [psV_in h1 hl]
  exact (Ending.returned.inj (wfV_in (n := dec l) (h := 0) (l := dec l) (by omega) (by omega) (by omega))).symm
theorem good_of {l : List UInt8} (h : psE l = 0) (h2 : wv (psH l) (psL l) ≤ 1073741824) : Good l := by
  have hT : isTextB l = true := by
    cases hc : isTextB l with
    | true => rfl
    | false => unfold psE at h; rw [hc] at h; simp at h
  have hl : l.length ≤ 39 := by
    rcases Nat.lt_or_ge 39 l.length with hc | hc
    · unfold psE at h; rw [if_pos hT, if_neg (by omega)] at h; omega
    · exact hc
  have hE : wfE (dec l) = 0 := by unfold psE at h; rw [if_pos hT, if_pos hl] at h; exact h
  have hn : 0 ≤ dec l ∧ dec l < 340282366920938463463374607431768211456 := by
    unfold wfE at hE
    split at hE
    · assumption
    · omega
  have e1 : psH l = dec l / 18446744073709551616 := by unfold psH wfH; rw [if_pos ⟨hT, hl⟩, if_pos hn]
  have e2 : psL l = dec l % 18446744073709551616 := by unfold psL wfL; rw [if_pos ⟨hT, hl⟩, if_pos hn]
  rw [e1, e2, wv_split] at h2
  exact ⟨hT, h2⟩
theorem psH_u64 (l : List UInt8) : U64 (psH l) ∧ U64 (psL l) := by
  have h : ∀ n, U64 (wfH n) ∧ U64 (wfL n) := by
    intro n
    unfold wfH wfL U64
    split <;> omega
  have := h (dec l)
  unfold psH psL
  refine ⟨?_, ?_⟩ <;> split
  · exact this.1
  · unfold U64; omega
  · exact this.2
  · unfold U64; omega

set_option maxHeartbeats 2000000 in
theorem rat_part_good (s : ByteArray) (hs : s.size ≤ maxLen) (hg : Good s.data.toList) (w : World) :
    Calls Tryd.prog 70 #[.string s] w fun e w' => e = .returned (.tuple #[.int .i64 (dec s.data.toList), .int .i64 0]) ∧ Below w.heap.size w w' := by
  obtain ⟨h0, hp⟩ := good_dec hg
  have h1 := hg.2
  have KP : Hid (∀ W, Calls Tryd.prog 85 #[.string s] W fun e w' => e = .returned (.tuple #[.agg #[.int .u64 0, .int .u64 (dec s.data.toList)], .int .i64 0]) ∧ Below W.heap.size W w') := by
    intro W
    have := wide_parse s hs W
    rw [hp] at this
    exact this
  clear hp hg
  generalize dec s.data.toList = n at *
  have KO := Lib.hid (fun W => wide_of 1073741824 W)
  have KC : Hid (∀ W, Calls Tryd.prog 63 #[.agg #[.int .u64 0, .int .u64 n], .agg #[.int .u64 0, .int .u64 1073741824]] W fun e w' => e = .returned (.int .i64 (cmpI n 1073741824)) ∧ Below W.heap.size W w') := by
    intro W
    have := wide_cmp 0 n 0 1073741824 (by unfold U64; omega) (by unfold U64; omega) W
    have e1 : wv 0 n = n := by unfold wv; omega
    have e2 : wv 0 1073741824 = 1073741824 := by unfold wv; omega
    rw [e1, e2] at this
    exact this
  have hc : cmpI n 1073741824 ≤ 0 := by rcases cmp_cases n 1073741824 with ⟨_, e⟩ | ⟨_, e⟩ | ⟨_, e⟩ <;> rw [e] <;> omega
  generalize cmpI n 1073741824 = c at *
  go_enter Tryd.func70, Tryd.ntmps70
  go_wp2_with fail
  refine (KP.out _).mono ?_
  rintro e w1 ⟨rfl, b1⟩
  have J1 := Lib.hid (((Keeps.start w).below b1).alloc #[.int .u64 0, .int .u64 n] 71).drew
  clear b1
  go_wp2
  obtain ⟨x0, x1, _, _⟩ := J1.out.head.two
  go_region_held3 (fun wr => wr.cell? ⟨w1.heap.size, 0, none⟩ = some (.int .u64 0) ∧ wr.cell? ⟨w1.heap.size, 1, none⟩ = some (.int .u64 n)) (go_keep)
    (first
      | (go_at_call 86; ((with_reducible refine (KO.out _).mono ?_); rintro e w2 ⟨rfl, b2⟩; have J1 := Lib.hid (J1.out.below b2); obtain ⟨x0, x1, _, _⟩ := J1.out.head.two; clear b2))
      | (go_at_call 63; ((with_reducible refine (KC.out _).mono ?_); rintro e w2 ⟨rfl, b2⟩; have J1 := Lib.hid (J1.out.below b2); obtain ⟨x0, x1, _, _⟩ := J1.out.head.two; clear b2)))
  all_goals
    go_wp2
    go_ret2
    exact ⟨rfl, J1.out.2.1⟩
set_option maxHeartbeats 2000000 in
theorem rat_part_bad (s : ByteArray) (hs : s.size ≤ maxLen) (hg : ¬ Good s.data.toList) (w : World) :
    Calls Tryd.prog 70 #[.string s] w fun e w' => ∃ c : Int, (c != 0) = true ∧ e = .returned (.tuple #[.int .i64 0, .int .i64 c]) ∧ Below w.heap.size w w' := by
  have KP : Hid (∀ W, Calls Tryd.prog 85 #[.string s] W fun e w' => e = .returned (.tuple #[.agg #[.int .u64 (psH s.data.toList), .int .u64 (psL s.data.toList)], .int .i64 (psE s.data.toList)]) ∧ Below W.heap.size W w') := fun W => wide_parse s hs W
  have hu := psH_u64 s.data.toList
  have hcase : psE s.data.toList = 0 → 1073741824 < wv (psH s.data.toList) (psL s.data.toList) := fun he => by
    rcases Int.lt_or_le 1073741824 (wv (psH s.data.toList) (psL s.data.toList)) with h | h
    · exact h
    · exact absurd (good_of he h) hg
  clear hg
  generalize psH s.data.toList = h at *
  generalize psL s.data.toList = l at *
  generalize psE s.data.toList = e at *
  by_cases he : e = 0
  · have hlt := hcase he
    have KO := Lib.hid (fun W => wide_of 1073741824 W)
    have KC : Hid (∀ W, Calls Tryd.prog 63 #[.agg #[.int .u64 h, .int .u64 l], .agg #[.int .u64 0, .int .u64 1073741824]] W fun e w' => e = .returned (.int .i64 1) ∧ Below W.heap.size W w') := by
      intro W
      have := wide_cmp h l 0 1073741824 hu.2 (by unfold U64; omega) W
      have e2 : wv 0 1073741824 = 1073741824 := by unfold wv; omega
      have e3 : cmpI (wv h l) 1073741824 = 1 := by unfold cmpI; rw [if_neg (by omega), if_neg (by omega)]
      rw [e2, e3] at this
      exact this
    obtain rfl := he
    clear hcase hlt hu
    go_enter Tryd.func70, Tryd.ntmps70
    go_wp2_with fail
    refine (KP.out _).mono ?_
    rintro e w1 ⟨rfl, b1⟩
    have J1 := Lib.hid (((Keeps.start w).below b1).alloc #[.int .u64 h, .int .u64 l] 71).drew
    clear b1
    go_wp2
    obtain ⟨x0, x1, _, _⟩ := J1.out.head.two
    go_region_held3 (fun wr => wr.cell? ⟨w1.heap.size, 0, none⟩ = some (.int .u64 h) ∧ wr.cell? ⟨w1.heap.size, 1, none⟩ = some (.int .u64 l)) (go_keep)
      (first
        | (go_at_call 86; ((with_reducible refine (KO.out _).mono ?_); rintro e w2 ⟨rfl, b2⟩; have J1 := Lib.hid (J1.out.below b2); obtain ⟨x0, x1, _, _⟩ := J1.out.head.two; clear b2))
        | (go_at_call 63; ((with_reducible refine (KC.out _).mono ?_); rintro e w2 ⟨rfl, b2⟩; have J1 := Lib.hid (J1.out.below b2); obtain ⟨x0, x1, _, _⟩ := J1.out.head.two; clear b2)))
    all_goals
      go_wp2
      go_ret2
      exact ⟨10, rfl, rfl, J1.out.2.1⟩
  · have hb : (e != 0) = true := by simpa using he
    have HB := Lib.hid hb
    clear hcase hu he
    go_enter Tryd.func70, Tryd.ntmps70
    go_wp2_with fail
    refine (KP.out _).mono ?_
    rintro e w1 ⟨rfl, b1⟩
    go_wp2
    go_ret2
    exact ⟨_, HB.out, rfl, b1.alloc b1.size _⟩
end Go.Proofs.YtbnpbflndnjmcaaDoor

/-! The contract of ratio.read. -/
namespace Go.Proofs.YtbnpbflndnjmcaaDoor
open Go.RowKit

def negB (l : List UInt8) : Bool := Lib.hasPrefix l [45]
def szL (l : List UInt8) : List UInt8 := Lib.trimPrefix l [45]
def rdA (l : List UInt8) : List UInt8 := cutA (szL l)
def rdB (l : List UInt8) : List UInt8 := if cutF (szL l) = true then cutB (szL l) else [49]
def rdP (l : List UInt8) : Int := if negB l = true then -dec (rdA l) else dec (rdA l)
def RdGood (l : List UInt8) : Prop := Good (rdA l) ∧ Good (rdB l)
theorem szL_len (l : List UInt8) : (szL l).length ≤ l.length := by
  unfold szL Lib.trimPrefix
  split
  · rw [List.length_drop]; omega
  · exact Nat.le_refl _
theorem cutA_len (l : List UInt8) : (cutA l).length ≤ l.length := by
  unfold cutA
  exact (List.takeWhile_sublist _).length_le
theorem cutB_len (l : List UInt8) : (cutB l).length ≤ l.length := by
  unfold cutB cutR
  split
  · rw [List.length_drop]
    have := (List.dropWhile_sublist (l := l) (· != 47)).length_le
    omega
  · simp
theorem bstr_size (l : List UInt8) : (⟨l.toArray⟩ : ByteArray).size = l.length := by show l.toArray.size = _; simp

/-- what the pieces of read answer -/
structure RdK (s sZ sA sB : ByteArray) (nb F : Bool) : Prop where
  k1 : ∀ W, Calls Tryd.prog 68 #[.string s, .string ⟨#[45]⟩] W fun e w' => e = .returned (.tuple #[.string sZ, .bool nb]) ∧ W = w'
  k2 : ∀ W, Calls Tryd.prog 69 #[.string sZ, .string ⟨#[47]⟩] W fun e w' => e = .returned (.tuple #[.string sA, .string sB, .bool F]) ∧ Below W.heap.size W w'
def endB (F : Bool) (sB : ByteArray) : ByteArray := match F with | true => sB | false => ⟨#[49]⟩
def PartIs (s : ByteArray) (n : Int) : Prop := (0 ≤ n ∧ n ≤ 1073741824) ∧ ∀ W, Calls Tryd.prog 70 #[.string s] W fun e w' => e = .returned (.tuple #[.int .i64 n, .int .i64 0]) ∧ Below W.heap.size W w'
def PartNo (s : ByteArray) : Prop := ∀ W, Calls Tryd.prog 70 #[.string s] W fun e w' => ∃ c : Int, (c != 0) = true ∧ e = .returned (.tuple #[.int .i64 0, .int .i64 c]) ∧ Below W.heap.size W w'

set_option maxHeartbeats 4000000 in
theorem read_gg (s sZ sA sB : ByteArray) (nb F : Bool) (p q : Int) (K : RdK s sZ sA sB nb F) (K3 : PartIs sA p) (K4 : PartIs (endB F sB) q) (w : World) :
    Calls Tryd.prog 51 #[.string s] w fun e w' => e = .returned (.tuple #[.agg #[.int .i64 (if nb = true then -p else p), .int .i64 q], .int .i64 0]) ∧ Below w.heap.size w w' := by
  have J0 := Lib.hid ((Keeps.start w).alloc #[.int .i64 0, .int .i64 0] 23)
  have K1 := Lib.hid K.k1
  have K2 := Lib.hid K.k2
  have p0 := K3.1
  have q0 := K4.1
  have KP := Lib.hid K3.2
  have KQ := Lib.hid K4.2
  clear K K3 K4
  obtain ⟨p1, p2⟩ := p0
  obtain ⟨q1, q2⟩ := q0
  obtain ⟨r, hr⟩ : ∃ r, r = (if nb = true then -p else p) := ⟨_, rfl⟩
  rw [← hr]
  have HR := Lib.hid hr
  clear hr
  cases F <;> cases nb
  all_goals
    unfold endB at KQ
    go_enter Tryd.func51, Tryd.ntmps51
    go_wp2_with fail
    refine (K1.out _).mono ?_
    rintro e w1 ⟨rfl, rfl⟩
    go_wp2_with fail
    refine (K2.out _).mono ?_
    rintro e w2 ⟨rfl, b2⟩
    have J2 := Lib.hid (J0.out.below b2)
    clear b2
    go_wp2_with fail
    refine (KP.out _).mono ?_
    rintro e w3 ⟨rfl, b3⟩
    have J3 := Lib.hid (J2.out.below b3)
    clear b3
    go_wp2_with fail
    refine (KQ.out _).mono ?_
    rintro e w4 ⟨rfl, b4⟩
    have J4 := Lib.hid (J3.out.below b4)
    obtain ⟨r0, r1, r2, r3⟩ := J4.out.head.two
    clear b4
    go_wp2
  · have hr2 : r = p := HR.out
    subst hr2
    have Z := J4.out.head.set2 (.int .i64 (r)) (.int .i64 q)
    obtain ⟨k0, k1, _, _⟩ := Z.two
    refine bodyPost_ret (v := .tuple #[.agg #[.int .i64 (r), .int .i64 q], .int .i64 0]) ?_ rfl ⟨rfl, (J4.out.2.1.setCell (p := ⟨w.heap.size, 0, none⟩) (by simp) _).setCell (p := ⟨w.heap.size, 1, none⟩) (by simp) _⟩
    simp [results, Tryd.results51, go_sem, k0, k1]
  · have hr2 : r = -p := HR.out
    subst hr2
    have Z := J4.out.head.set2 (.int .i64 (-p)) (.int .i64 q)
    obtain ⟨k0, k1, _, _⟩ := Z.two
    refine bodyPost_ret (v := .tuple #[.agg #[.int .i64 (-p), .int .i64 q], .int .i64 0]) ?_ rfl ⟨rfl, (J4.out.2.1.setCell (p := ⟨w.heap.size, 0, none⟩) (by simp) _).setCell (p := ⟨w.heap.size, 1, none⟩) (by simp) _⟩
    simp [results, Tryd.results51, go_sem, k0, k1]
  · have hr2 : r = p := HR.out
    subst hr2
    have Z := J4.out.head.set2 (.int .i64 (r)) (.int .i64 q)
    obtain ⟨k0, k1, _, _⟩ := Z.two
    refine bodyPost_ret (v := .tuple #[.agg #[.int .i64 (r), .int .i64 q], .int .i64 0]) ?_ rfl ⟨rfl, (J4.out.2.1.setCell (p := ⟨w.heap.size, 0, none⟩) (by simp) _).setCell (p := ⟨w.heap.size, 1, none⟩) (by simp) _⟩
    simp [results, Tryd.results51, go_sem, k0, k1]
  · have hr2 : r = -p := HR.out
    subst hr2
    have Z := J4.out.head.set2 (.int .i64 (-p)) (.int .i64 q)
    obtain ⟨k0, k1, _, _⟩ := Z.two
    refine bodyPost_ret (v := .tuple #[.agg #[.int .i64 (-p), .int .i64 q], .int .i64 0]) ?_ rfl ⟨rfl, (J4.out.2.1.setCell (p := ⟨w.heap.size, 0, none⟩) (by simp) _).setCell (p := ⟨w.heap.size, 1, none⟩) (by simp) _⟩
    simp [results, Tryd.results51, go_sem, k0, k1]

set_option maxHeartbeats 4000000 in
theorem read_b (s sZ sA sB : ByteArray) (nb F : Bool) (K : RdK s sZ sA sB nb F) (K3 : PartNo sA) (w : World) :
    Calls Tryd.prog 51 #[.string s] w fun e w' => ∃ c : Int, (c != 0) = true ∧ e = .returned (.tuple #[.agg #[.int .i64 0, .int .i64 0], .int .i64 c]) ∧ Below w.heap.size w w' := by
  have J0 := Lib.hid ((Keeps.start w).alloc #[.int .i64 0, .int .i64 0] 23)
  have K1 := Lib.hid K.k1
  have K2 := Lib.hid K.k2
  have KP := Lib.hid K3
  clear K K3
  cases F
  all_goals
    go_enter Tryd.func51, Tryd.ntmps51
    go_wp2_with fail
    refine (K1.out _).mono ?_
    rintro e w1 ⟨rfl, rfl⟩
    go_wp2_with fail
    refine (K2.out _).mono ?_
    rintro e w2 ⟨rfl, b2⟩
    have J2 := Lib.hid (J0.out.below b2)
    clear b2
    go_wp2_with fail
    refine (KP.out _).mono ?_
    rintro e w3 hh
    obtain ⟨c, hc, rfl, b3⟩ := hh
    have J3 := Lib.hid (J2.out.below b3)
    obtain ⟨r0, r1, r2, r3⟩ := J3.out.head.two
    clear b3
    have HC := Lib.hid hc
    go_wp2
    have Z := J3.out.head.set2 (.int .i64 0) (.int .i64 0)
    obtain ⟨k0, k1, _, _⟩ := Z.two
    refine bodyPost_ret (v := .tuple #[.agg #[.int .i64 0, .int .i64 0], .int .i64 c]) ?_ rfl ⟨c, HC.out, rfl, (J3.out.2.1.setCell (p := ⟨w.heap.size, 0, none⟩) (by simp) _).setCell (p := ⟨w.heap.size, 1, none⟩) (by simp) _⟩
    simp [results, Tryd.results51, go_sem, k0, k1]

set_option maxHeartbeats 4000000 in
theorem read_gb (s sZ sA sB : ByteArray) (nb F : Bool) (p : Int) (K : RdK s sZ sA sB nb F) (K3 : PartIs sA p) (K4 : PartNo (endB F sB)) (w : World) :
    Calls Tryd.prog 51 #[.string s] w fun e w' => ∃ c : Int, (c != 0) = true ∧ e = .returned (.tuple #[.agg #[.int .i64 0, .int .i64 0], .int .i64 c]) ∧ Below w.heap.size w w' := by
  have J0 := Lib.hid ((Keeps.start w).alloc #[.int .i64 0, .int .i64 0] 23)
  have K1 := Lib.hid K.k1
  have K2 := Lib.hid K.k2
  have KP := Lib.hid K3.2
  have KQ := Lib.hid K4
  clear K K3 K4
  cases F
  all_goals
    unfold endB at KQ
    go_enter Tryd.func51, Tryd.ntmps51
    go_wp2_with fail
    refine (K1.out _).mono ?_
    rintro e w1 ⟨rfl, rfl⟩
    go_wp2_with fail
    refine (K2.out _).mono ?_
    rintro e w2 ⟨rfl, b2⟩
    have J2 := Lib.hid (J0.out.below b2)
    clear b2
    go_wp2_with fail
    refine (KP.out _).mono ?_
    rintro e w3 ⟨rfl, b3⟩
    have J3 := Lib.hid (J2.out.below b3)
    clear b3
    go_wp2_with fail
    refine (KQ.out _).mono ?_
    rintro e w4 hh
    obtain ⟨c, hc, rfl, b4⟩ := hh
    have J4 := Lib.hid (J3.out.below b4)
    obtain ⟨r0, r1, r2, r3⟩ := J4.out.head.two
    clear b4
    have HC := Lib.hid hc
    go_wp2
    have Z := J4.out.head.set2 (.int .i64 0) (.int .i64 0)
    obtain ⟨k0, k1, _, _⟩ := Z.two
    refine bodyPost_ret (v := .tuple #[.agg #[.int .i64 0, .int .i64 0], .int .i64 c]) ?_ rfl ⟨c, HC.out, rfl, (J4.out.2.1.setCell (p := ⟨w.heap.size, 0, none⟩) (by simp) _).setCell (p := ⟨w.heap.size, 1, none⟩) (by simp) _⟩
    simp [results, Tryd.results51, go_sem, k0, k1]

theorem rdK (s : ByteArray) (hs : s.size ≤ maxLen) : RdK s ⟨(szL s.data.toList).toArray⟩ ⟨(rdA s.data.toList).toArray⟩ ⟨(cutB (szL s.data.toList)).toArray⟩ (negB s.data.toList) (cutF (szL s.data.toList)) := by
  have hl : s.data.toList.length = s.size := by simp
  have z1 := szL_len s.data.toList
  exact ⟨fun W => (Tryd.strings_CutPrefix s ⟨#[45]⟩ W).mono fun e w' h => ⟨h.1, h.2.symm⟩, fun W => (str_cut ⟨(szL s.data.toList).toArray⟩ (by rw [bstr_size]; omega) W).mono fun e w' h => ⟨h.1, drew_below h.2⟩⟩
theorem endB_is (l : List UInt8) : endB (cutF (szL l)) ⟨(cutB (szL l)).toArray⟩ = ⟨(rdB l).toArray⟩ := by
  unfold rdB
  cases cutF (szL l) <;> rfl
theorem rdA_size (s : ByteArray) (hs : s.size ≤ maxLen) : (⟨(rdA s.data.toList).toArray⟩ : ByteArray).size ≤ maxLen ∧ (⟨(rdB s.data.toList).toArray⟩ : ByteArray).size ≤ maxLen := by
  have hl : s.data.toList.length = s.size := by simp
  have z1 := szL_len s.data.toList
  have z2 := cutA_len (szL s.data.toList)
  have z3 := cutB_len (szL s.data.toList)
  rw [bstr_size, bstr_size]
  refine ⟨by show (cutA _).length ≤ _; omega, ?_⟩
  unfold rdB
  split
  · omega
  · unfold maxLen; simp
theorem rat_read_good (s : ByteArray) (hs : s.size ≤ maxLen) (hg : RdGood s.data.toList) (w : World) :
    Calls Tryd.prog 51 #[.string s] w fun e w' => e = .returned (.tuple #[.agg #[.int .i64 (rdP s.data.toList), .int .i64 (dec (rdB s.data.toList))], .int .i64 0]) ∧ Below w.heap.size w w' := by
  have hz := rdA_size s hs
  refine read_gg s _ _ _ _ _ (dec (rdA s.data.toList)) (dec (rdB s.data.toList)) (rdK s hs) ⟨⟨(good_dec hg.1).1, hg.1.2⟩, fun W => rat_part_good _ hz.1 hg.1 W⟩ ?_ w
  rw [endB_is]
  exact ⟨⟨(good_dec hg.2).1, hg.2.2⟩, fun W => rat_part_good _ hz.2 hg.2 W⟩
theorem rat_read_bad (s : ByteArray) (hs : s.size ≤ maxLen) (hg : ¬ RdGood s.data.toList) (w : World) :
    Calls Tryd.prog 51 #[.string s] w fun e w' => ∃ c : Int, (c != 0) = true ∧ e = .returned (.tuple #[.agg #[.int .i64 0, .int .i64 0], .int .i64 c]) ∧ Below w.heap.size w w' := by
  have hz := rdA_size s hs
  by_cases hA : Good (rdA s.data.toList)
  · refine read_gb s _ _ _ _ _ (dec (rdA s.data.toList)) (rdK s hs) ⟨⟨(good_dec hA).1, hA.2⟩, fun W => rat_part_good _ hz.1 hA W⟩ ?_ w
    rw [endB_is]
    exact fun W => rat_part_bad _ hz.2 (fun hB => hg ⟨hA, hB⟩) W
  · exact read_b s _ _ _ _ _ (rdK s hs) (fun W => rat_part_bad _ hz.1 hA W) w
end Go.Proofs.YtbnpbflndnjmcaaDoor

/-! What is read of a ratio's text. And the contract of ratio.Parse. -/
namespace Go.Proofs.YtbnpbflndnjmcaaDoor
open Go.RowKit

theorem txt_no (n : Nat) (c : UInt8) (hc : digB c = false) : ∀ x ∈ txt n, x ≠ c := by
  intro x hx he
  have := txt_all n
  rw [List.all_eq_true] at this
  rw [← he, this x hx] at hc
  cases hc
theorem good_txt (n : Nat) (h : n ≤ 1073741824) : Good (txt n) := ⟨txt_isText n, by rw [dec_txt]; omega⟩
theorem cut_txt (n : Nat) (r : List UInt8) : cutA (txt n ++ 47 :: r) = txt n ∧ cutB (txt n ++ 47 :: r) = r ∧ cutF (txt n ++ 47 :: r) = true := by
  have h := cut_hit (txt n).length (txt n ++ 47 :: r) (by rw [List.getElem?_append_right (Nat.le_refl _)]; simp) (by
    intro k hk he
    rw [List.getElem?_append_left hk] at he
    exact txt_no n 47 (by decide) 47 (List.mem_of_getElem? he) rfl)
  refine ⟨?_, ?_, h.2.2⟩
  · rw [h.1]; simp
  · unfold cutB
    rw [if_pos h.2.2, h.2.1, List.drop_append]
    simp
theorem cut_txt0 (n : Nat) : cutA (txt n) = txt n ∧ cutF (txt n) = false :=
  cut_miss fun k he => txt_no n 47 (by decide) 47 (List.mem_of_getElem? he) rfl
theorem pre_txt (n : Nat) (r : List UInt8) : negB (45 :: (txt n ++ r)) = true ∧ szL (45 :: (txt n ++ r)) = txt n ++ r := by
  have h : negB (45 :: (txt n ++ r)) = true := by
    unfold negB Lib.hasPrefix
    simp [List.isPrefixOf]
  refine ⟨h, ?_⟩
  unfold szL Lib.trimPrefix
  have h2 : Lib.hasPrefix (45 :: (txt n ++ r)) [45] = true := h
  rw [if_pos h2]; rfl
theorem pre_txt0 (n : Nat) (r : List UInt8) : negB (txt n ++ r) = false ∧ szL (txt n ++ r) = txt n ++ r := by
  have h : negB (txt n ++ r) = false := by
    unfold negB Lib.hasPrefix
    cases hd : txt n with
    | nil => exact absurd hd (txt_ne n)
    | cons a b =>
      have := txt_no n 45 (by decide) a (by rw [hd]; exact List.mem_cons_self)
      have h2 : ((45 : UInt8) == a) = false := by simpa using Ne.symm this
      simp [List.isPrefixOf, h2]
  refine ⟨h, ?_⟩
  unfold szL Lib.trimPrefix
  have h2 : Lib.hasPrefix (txt n ++ r) [45] = false := h
  rw [h2]; rfl
theorem txt_1 : txt 1 = [49] := txt_small (by decide)
theorem itxt_pos {q : Int} (h : 0 < q) : itxt q = txt q.toNat := by unfold itxt; rw [if_neg (by omega)]
/-- what is read of it -/
theorem rd_rtxt {p q : Int} (hv : Valid p q) : RdGood (rtxt p q) ∧ rdP (rtxt p q) = p ∧ dec (rdB (rtxt p q)) = q := by
  have hq := hv.1
  have hp := hv.2.1
  have key : ∀ r : List UInt8, cutA (txt p.natAbs ++ r) = txt p.natAbs → rtxt p q = itxt p ++ r → rdA (rtxt p q) = txt p.natAbs ∧ rdP (rtxt p q) = p ∧ szL (rtxt p q) = txt p.natAbs ++ r := by
    intro r hc hr
    rw [hr]
    unfold itxt
    by_cases hn : p < 0
    · rw [if_pos hn, List.cons_append]
      obtain ⟨h1, h2⟩ := pre_txt p.natAbs r
      have h3 : rdA (45 :: (txt p.natAbs ++ r)) = txt p.natAbs := by unfold rdA; rw [h2, hc]
      refine ⟨h3, ?_, h2⟩
      unfold rdP
      rw [if_pos h1, h3, dec_txt]; omega
    · rw [if_neg hn]
      have e : p.toNat = p.natAbs := by omega
      rw [e]
      obtain ⟨h1, h2⟩ := pre_txt0 p.natAbs r
      have h3 : rdA (txt p.natAbs ++ r) = txt p.natAbs := by unfold rdA; rw [h2, hc]
      refine ⟨h3, ?_, h2⟩
      unfold rdP
      rw [h1, h3, dec_txt]
      show (p.natAbs : Int) = p
      omega
  have gp := good_txt p.natAbs (by omega)
  have gq := good_txt q.toNat (by omega)
  by_cases h1 : q = 1
  · obtain ⟨c1, c2⟩ := cut_txt0 p.natAbs
    obtain ⟨k1, k2, k3⟩ := key [] (by rw [List.append_nil]; exact c1) (by unfold rtxt; rw [if_pos hv, if_pos h1, List.append_nil])
    have hB : rdB (rtxt p q) = txt 1 := by unfold rdB; rw [k3, List.append_nil, c2, txt_1]; rfl
    refine ⟨⟨by rw [k1]; exact gp, by rw [hB]; exact good_txt 1 (by decide)⟩, k2, ?_⟩
    rw [hB, dec_txt, h1]; rfl
  · obtain ⟨c1, c2, c3⟩ := cut_txt p.natAbs (itxt q)
    obtain ⟨k1, k2, k3⟩ := key (47 :: itxt q) c1 (by unfold rtxt; rw [if_pos hv, if_neg h1])
    have hB : rdB (rtxt p q) = txt q.toNat := by unfold rdB; rw [k3, c3, if_pos rfl, c2, itxt_pos (by omega)]
    refine ⟨⟨by rw [k1]; exact gp, by rw [hB]; exact gq⟩, k2, ?_⟩
    rw [hB, dec_txt]; omega
theorem rtxt_ne {p q : Int} (hv : Valid p q) : rtxt p q ≠ [] := by
  intro h
  obtain ⟨⟨h1, _⟩, _, _⟩ := rd_rtxt hv
  rw [h] at h1
  have : isTextB (rdA []) = true := h1.1
  exact absurd this (by decide)
/-- it is the text of a ratio: of this one -/
def PrOk (l : List UInt8) : Prop := RdGood l ∧ rtxt (rdP l) (dec (rdB l)) = l
theorem prOk_valid {l : List UInt8} (h : PrOk l) : Valid (rdP l) (dec (rdB l)) := by
  by_cases hv : Valid (rdP l) (dec (rdB l))
  · exact hv
  · exfalso
    obtain ⟨⟨h1, _⟩, h2⟩ := h
    unfold rtxt at h2
    rw [if_neg hv] at h2
    rw [← h2] at h1
    have : isTextB (rdA []) = true := h1.1
    exact absurd this (by decide)
theorem prOk_of {p q : Int} {l : List UInt8} (hv : Valid p q) (h : rtxt p q = l) : PrOk l ∧ rdP l = p ∧ dec (rdB l) = q := by
  obtain ⟨h1, h2, h3⟩ := rd_rtxt hv
  rw [h] at h1 h2 h3
  exact ⟨⟨h1, by rw [h2, h3, h]⟩, h2, h3⟩
theorem rdP_bd {l : List UInt8} (h : RdGood l) : (-1073741824 ≤ rdP l ∧ rdP l ≤ 1073741824) ∧ (0 ≤ dec (rdB l) ∧ dec (rdB l) ≤ 1073741824) := by
  have h1 := (good_dec h.1).1
  have h2 := (good_dec h.2).1
  have h3 := h.1.2
  have h4 := h.2.2
  unfold rdP
  refine ⟨?_, by omega, by omega⟩
  split <;> omega
instance (l : List UInt8) : Decidable (Good l) := by unfold Good; infer_instance
instance (l : List UInt8) : Decidable (RdGood l) := by unfold RdGood; infer_instance
instance (l : List UInt8) : Decidable (PrOk l) := by unfold PrOk; infer_instance
def prP (l : List UInt8) : Int := if PrOk l then rdP l else 0
def prQ (l : List UInt8) : Int := if PrOk l then dec (rdB l) else 0
def prE (l : List UInt8) : Int := if PrOk l then 0 else 30
abbrev prV (l : List UInt8) : Value := .tuple #[.agg #[.int .i64 (prP l), .int .i64 (prQ l)], .int .i64 (prE l)]
theorem prV_ok {l : List UInt8} (h : PrOk l) : prV l = .tuple #[.agg #[.int .i64 (rdP l), .int .i64 (dec (rdB l))], .int .i64 0] := by
  unfold prV prP prQ prE; rw [if_pos h, if_pos h, if_pos h]
theorem prV_no {l : List UInt8} (h : ¬ PrOk l) : prV l = .tuple #[.agg #[.int .i64 0, .int .i64 0], .int .i64 30] := by
  unfold prV prP prQ prE; rw [if_neg h, if_neg h, if_neg h]

set_option maxHeartbeats 4000000 in
theorem rat_parse (s : ByteArray) (hs : s.size ≤ maxLen) (w : World) (ht : Tab w) :
    Calls Tryd.prog 30 #[.string s] w fun e w' => e = .returned (prV s.data.toList) ∧ Below w.heap.size w w' := by
  have J0 := Lib.hid ((Keeps.start w).alloc #[.int .i64 0, .int .i64 0] 23)
  have T0 := Lib.hid (ht.alloc (.cells #[.int .i64 0, .int .i64 0] 23))
  by_cases hg : RdGood s.data.toList
  · have KR := Lib.hid (fun W => rat_read_good s hs hg W)
    obtain ⟨⟨p1, p2⟩, q1, q2⟩ := rdP_bd hg
    have KT := Lib.hid (fun W hT => rat_text (rdP s.data.toList) (dec (rdB s.data.toList)) (by unfold I64; omega) (by unfold I64; omega) W hT)
    by_cases he : rtxt (rdP s.data.toList) (dec (rdB s.data.toList)) = s.data.toList
    · have HV := Lib.hid (prV_ok (l := s.data.toList) ⟨hg, he⟩)
      have KT : Hid (∀ W, Tab W → Calls Tryd.prog 29 #[.agg #[.int .i64 (rdP s.data.toList), .int .i64 (dec (rdB s.data.toList))]] W fun e w' => e = .returned (.string s) ∧ Below W.heap.size W w') := by
        intro W hT
        have := KT.out W hT
        rw [he] at this
        exact this
      clear he hg p1 p2 q1 q2
      rw [HV.out]
      generalize rdP s.data.toList = p at *
      generalize dec (rdB s.data.toList) = q at *
      go_enter Tryd.func30, Tryd.ntmps30
      go_wp2_with fail
      refine (KR.out _).mono ?_
      rintro e w1 ⟨rfl, b1⟩
      have J1 := Lib.hid ((J0.out.below b1).alloc #[.int .i64 p, .int .i64 q] 23)
      have T1 := Lib.hid ((T0.out.below b1).alloc (.cells #[.int .i64 p, .int .i64 q] 23))
      clear b1
      go_wp2_with fail
      refine (KT.out _ T1.out).mono ?_
      rintro e w2 ⟨rfl, b2⟩
      have J2 := Lib.hid (J1.out.below b2)
      obtain ⟨x0, x1, _, _⟩ := J2.out.head.two
      obtain ⟨r0, r1, r2, r3⟩ := J2.out.tail.head.two
      clear b2
      go_wp2
      have Z := J2.out.tail.head.set2 (.int .i64 p) (.int .i64 q)
      obtain ⟨k0, k1, _, _⟩ := Z.two
      refine bodyPost_ret (v := .tuple #[.agg #[.int .i64 p, .int .i64 q], .int .i64 0]) ?_ rfl ⟨rfl, (J2.out.2.1.setCell (p := ⟨w.heap.size, 0, none⟩) (by simp) _).setCell (p := ⟨w.heap.size, 1, none⟩) (by simp) _⟩
      simp [results, Tryd.results30, go_sem, k0, k1]
    · have HV := Lib.hid (prV_no (l := s.data.toList) fun h => he h.2)
      have hne : bstr (rtxt (rdP s.data.toList) (dec (rdB s.data.toList))) ≠ s := fun h => he (by have := congrArg (fun b : ByteArray => b.data.toList) h; simpa using this)
      have hnb : ((bstr (rtxt (rdP s.data.toList) (dec (rdB s.data.toList)))).toList == s.toList) = false := by
        rw [ByteArray.toList_eq, ByteArray.toList_eq]
        simpa using he
      clear he hg p1 p2 q1 q2
      rw [HV.out]
      generalize bstr (rtxt (rdP s.data.toList) (dec (rdB s.data.toList))) = T at *
      generalize rdP s.data.toList = p at *
      generalize dec (rdB s.data.toList) = q at *
      go_enter Tryd.func30, Tryd.ntmps30
      go_wp2_with fail
      refine (KR.out _).mono ?_
      rintro e w1 ⟨rfl, b1⟩
      have J1 := Lib.hid ((J0.out.below b1).alloc #[.int .i64 p, .int .i64 q] 23)
      have T1 := Lib.hid ((T0.out.below b1).alloc (.cells #[.int .i64 p, .int .i64 q] 23))
      clear b1
      go_wp2_with fail
      refine (KT.out _ T1.out).mono ?_
      rintro e w2 ⟨rfl, b2⟩
      have J2 := Lib.hid (J1.out.below b2)
      obtain ⟨x0, x1, _, _⟩ := J2.out.head.two
      obtain ⟨r0, r1, r2, r3⟩ := J2.out.tail.head.two
      clear b2
      go_wp2
      have Z := J2.out.tail.head.set2 (.int .i64 0) (.int .i64 0)
      obtain ⟨k0, k1, _, _⟩ := Z.two
      refine bodyPost_ret (v := .tuple #[.agg #[.int .i64 0, .int .i64 0], .int .i64 30]) ?_ rfl ⟨rfl, (J2.out.2.1.setCell (p := ⟨w.heap.size, 0, none⟩) (by simp) _).setCell (p := ⟨w.heap.size, 1, none⟩) (by simp) _⟩
      simp [results, Tryd.results30, go_sem, k0, k1]
  · have HV := Lib.hid (prV_no (l := s.data.toList) fun h => hg h.1)
    have KR := Lib.hid (fun W => rat_read_bad s hs hg W)
    clear hg
    rw [HV.out]
    go_enter Tryd.func30, Tryd.ntmps30
    go_wp2_with fail
    refine (KR.out _).mono ?_
    rintro e w1 hh
    obtain ⟨c, hc, rfl, b1⟩ := hh
    have J1 := Lib.hid (J0.out.below b1)
    obtain ⟨r0, r1, r2, r3⟩ := J1.out.head.two
    have hs := J1.out.2.2
    have HC := Lib.hid hc
    have hlt : w.heap.size < w1.heap.size := J1.out.head.lt
    clear b1
    go_wp2
    have Z := (J1.out.head.set2 (.int .i64 0) (.int .i64 0)).alloc (.cells #[.int .i64 0, .int .i64 0] 23)
    obtain ⟨k0, k1, _, _⟩ := Z.two
    refine bodyPost_ret (v := .tuple #[.agg #[.int .i64 0, .int .i64 0], .int .i64 30]) ?_ rfl ⟨rfl, ((J1.out.2.1.setCell (p := ⟨w.heap.size, 0, none⟩) (by simp) _).setCell (p := ⟨w.heap.size, 1, none⟩) (by simp) _).alloc (by simp; omega) _⟩
    simp [results, Tryd.results30, go_sem, k0, k1]
end Go.Proofs.YtbnpbflndnjmcaaDoor
