/- Contracts of copseref03: Digits, count. -/
import Derived.Test.YtbnpbflndnjmcaaDoorRatK
import Derived.Test.YtbnpbflndnjmcaaDoorRatB
namespace Go.Proofs.YtbnpbflndnjmcaaDoor
open Go.RowKit

set_option maxHeartbeats 2000000 in
theorem ref3_digits (n : Int) (hn : -1073741824 ≤ n ∧ n ≤ 1073741824) (w : World) :
    Calls Tryd.prog 53 #[.int .i64 n] w fun e w' => e = .returned (.string ⟨(itxt n).toArray⟩) ∧ Below w.heap.size w w' := by
  have HN := Lib.hid hn
  obtain ⟨hn1, hn2⟩ := hn
  go_enter Tryd.func53, Tryd.ntmps53
  go_wp2
  go_loopw [3, 4] (fun sv mv wr => ∃ (m : Int) (suf : List UInt8) (b : ByteArray), mv = .int .i64 m ∧ (-1073741824 ≤ m ∧ m ≤ 1073741824) ∧ Hid (TextInv n.natAbs m.natAbs suf) ∧ sv = .string b ∧ Hid (b = ⟨suf.toArray⟩) ∧ Hid (Below w.heap.size w wr)) (fun _ mv _ => (intOf mv).natAbs)
  case atStart =>
    refine ⟨n, [], _, rfl, HN.out, ?_, rfl, rfl, Below.refl _ _⟩
    have h := HN.out
    refine ⟨by omega, ?_, fun hh => ⟨hh, rfl⟩, fun hh => by rw [if_neg (by omega), List.append_nil]⟩
    have h3 := pw_mono (show 9 ≤ 40 by omega)
    have h4 : pw 9 = 22300745198530623141535718272648361505980416 := by unfold pw; rfl
    omega
  case round =>
    obtain ⟨m, suf, b, rfl, ⟨hm1, hm2⟩, HI, rfl, Hb, HJ⟩ := hrel
    by_cases hm0 : m = 0
    · subst hm0
      have HE := Lib.hid (textInv_end HI.out (by omega))
      by_cases hneg : n < 0
      · have hne : suf ≠ [] := by
          intro hc
          have h1 := HE.out
          rw [if_pos hc] at h1
          have h2 := dec_txt ((n.natAbs : Int).toNat)
          rw [h1] at h2
          have h3 : dec [48] = 0 := by decide
          omega
        have hsz : b.size ≤ 40 := by
          have h1 := HE.out
          rw [if_neg hne] at h1
          have h2 := txt_len 38 (n.natAbs : Int).toNat (by omega)
          rw [h1] at h2
          have h3 : b.size = suf.length := by rw [Hb.out]; exact bstr_size suf
          omega
        have HR : Hid ((⟨#[45]⟩ : ByteArray) ++ b = bstr (itxt n)) := by
          have h1 := HE.out
          rw [if_neg hne] at h1
          show _ = _
          unfold itxt
          rw [if_pos hneg, Hb.out]
          have : (n.natAbs : Int).toNat = n.natAbs := by omega
          rw [this] at h1
          rw [h1]
          exact ByteArray.ext (by simp)
        clear hne
        go_wp2
        go_ret
        exact ⟨retS HR.out, HJ.out⟩
      · have hit : itxt n = txt (n.natAbs : Int).toNat := by unfold itxt; rw [if_neg hneg]; congr 1; omega
        by_cases hs : suf = []
        · have hs1 : b.toList = [] := by rw [Hb.out, ByteArray.toList_eq, hs]
          have hs2 : b.toList.isEmpty = true := by rw [hs1]; rfl
          have HR : Hid (bstr [48] = bstr (itxt n)) := by
            have h1 := HE.out
            rw [if_pos hs] at h1
            show _ = _
            rw [hit, h1]
          clear hs hit
          go_wp2
          go_ret
          exact ⟨retS HR.out, HJ.out⟩
        · have hs1 : ¬ b.toList = [] := by rw [Hb.out, ByteArray.toList_eq]; simpa using hs
          have hs2 : b.toList.isEmpty = false := by
            cases h : b.toList with
            | nil => exact absurd h hs1
            | cons a b => rfl
          have HR : Hid (b = bstr (itxt n)) := by
            have h1 := HE.out
            rw [if_neg hs] at h1
            show _ = _
            rw [hit, h1, Hb.out]
          clear hs hit
          go_wp2
          go_ret
          exact ⟨retS HR.out, HJ.out⟩
    · have hmb : (m != 0) = true := by simpa using hm0
      have hmb2 : (m == 0) = false := by simpa using hm0
      have HLN := Lib.hid (textInv_len HI.out (by omega) (by omega))
      have hbs : b.size < 39 := by
        have h3 : b.size = suf.length := by rw [Hb.out]; exact bstr_size suf
        have := HLN.out
        omega
      have ea : ((m.tdiv 10).natAbs : Int) = (m.natAbs : Int) / 10 := by rw [Int.natAbs_tdiv]; rfl
      have eb : ((m.tmod 10).natAbs : Int) = (m.natAbs : Int) % 10 := by rw [Int.natAbs_tmod]; rfl
      have hr : 0 ≤ ((m.tmod 10).natAbs : Int) ∧ ((m.tmod 10).natAbs : Int) ≤ 9 := by omega
      have HS := Lib.hid (textInv_step HI.out (by omega) (UInt8.ofNat (48 + ((m.tmod 10).natAbs : Int).toNat)) (by rw [UInt8.toNat_ofNat_of_lt' (by show _ < 256; omega)]; omega))
      rw [← ea] at HS
      have hq : -1073741824 ≤ m.tdiv 10 ∧ m.tdiv 10 ≤ 1073741824 := by omega
      have HQ := Lib.hid hq
      have hdec : (m.tdiv 10).natAbs < m.natAbs := by omega
      have HD := Lib.hid hdec
      have hsl := fun W => slice_digit ((m.tmod 10).natAbs : Int) hr W
      by_cases hneg : m.tmod 10 < 0
      · have e1 : ((m.tmod 10).natAbs : Int) = -(m.tmod 10) := by omega
        rw [e1] at hsl HS hr
        obtain ⟨hr1, hr2⟩ := hr
        clear ea eb hq hdec e1
        have hb1 : -9 ≤ m.tmod 10 := by omega
        generalize UInt8.ofNat (48 + (-(m.tmod 10)).toNat) = c at *
        go_wp2
        exact ⟨⟨_, c :: suf, _, rfl, HQ.out, HS, rfl, (by show _ = _; rw [Hb.out]; exact ByteArray.ext (by simp)), HJ⟩, HD.out⟩
      · have e1 : ((m.tmod 10).natAbs : Int) = m.tmod 10 := by omega
        rw [e1] at hsl HS hr
        obtain ⟨hr1, hr2⟩ := hr
        clear ea eb hq hdec e1
        generalize UInt8.ofNat (48 + (m.tmod 10).toNat) = c at *
        go_wp2
        exact ⟨⟨_, c :: suf, _, rfl, HQ.out, HS, rfl, (by show _ = _; rw [Hb.out]; exact ByteArray.ext (by simp)), HJ⟩, HD.out⟩
def cntB (l : List UInt8) : Bool := !l.isEmpty && decide (l.length ≤ 10) && l.all digB
def cntN (l : List UInt8) : Int := if cntB l = true then dec l else 0
theorem cnt_no {l : List UInt8} (h : cntB l = false) : Ending.returned (.tuple #[.int .i64 0, .bool false]) = .returned (.tuple #[.int .i64 (cntN l), .bool (cntB l)]) := by
  unfold cntN; rw [h]; rfl
theorem cnt_yes {l : List UInt8} (h : cntB l = true) : Ending.returned (.tuple #[.int .i64 (dec l), .bool true]) = .returned (.tuple #[.int .i64 (cntN l), .bool (cntB l)]) := by
  unfold cntN; rw [h]; rfl
theorem cnt_bad {s : ByteArray} (k : Nat) (hk : k < s.size) (h : ¬ (48 ≤ (s[k].toNat : Int) ∧ (s[k].toNat : Int) ≤ 57)) : cntB s.data.toList = false := by
  unfold cntB
  have : s.data.toList.all digB = false := by
    rw [List.all_eq_false]
    refine ⟨s[k], ?_, ?_⟩
    · exact List.getElem_mem (by simpa using hk)
    · unfold digB
      simpa using h
  rw [this]; simp
theorem ten_lt (s : ByteArray) {k : Nat} (h : (s.data.toList.take k).all digB = true) (hk : k ≤ s.size) : dec (s.data.toList.take k) < 10 ^ k := by
  have hz : s.data.toList.length = s.size := by simp
  have h1 := dec_lt ⟨(s.data.toList.take k).toArray⟩ (by simpa using h) k (by rw [bstr_size, List.length_take]; omega)
  have e : (⟨(s.data.toList.take k).toArray⟩ : ByteArray).data.toList.take k = s.data.toList.take k := by
    show (s.data.toList.take k).toArray.toList.take k = _
    rw [List.toList_toArray, List.take_take, Nat.min_self]
  rw [e] at h1
  exact h1
set_option maxHeartbeats 2000000 in
theorem ref3_count (s : ByteArray) (hs : s.size ≤ maxLen) (w : World) :
    Calls Tryd.prog 52 #[.string s] w fun e w' => e = .returned (.tuple #[.int .i64 (cntN s.data.toList), .bool (cntB s.data.toList)]) ∧ Below w.heap.size w w' := by
  have HL : Hid (s.data.toList.length = s.size) := by show _ = _; simp
  unfold maxLen at hs
  by_cases h0 : s.size = 0
  · have e0 : s.toList = [] := by
      rw [← List.length_eq_zero_iff, ByteArray.toList_eq]; simpa using h0
    have e1 : s.toList.isEmpty = true := by rw [e0]; rfl
    have HR := Lib.hid (cnt_no (l := s.data.toList) (by unfold cntB; rw [← ByteArray.toList_eq, e1]; rfl))
    clear h0
    go_enter Tryd.func52, Tryd.ntmps52
    go_wp2
    go_ret2
    exact ⟨HR.out, Below.refl _ _⟩
  have e0 : ¬ s.toList = [] := by
    rw [← List.length_eq_zero_iff, ByteArray.toList_eq]; simpa using h0
  have e1 : s.toList.isEmpty = false := by
    cases h : s.toList with
    | nil => exact absurd h e0
    | cons a b => rfl
  by_cases h10 : 10 < s.size
  · have HR := Lib.hid (cnt_no (l := s.data.toList) (by unfold cntB; rw [decide_eq_false (by rw [HL.out]; omega)]; simp))
    go_enter Tryd.func52, Tryd.ntmps52
    go_wp2
    go_ret2
    exact ⟨HR.out, Below.refl _ _⟩
  go_enter Tryd.func52, Tryd.ntmps52
  go_wp2
  go_loopw [4, 5] (fun nv iv wr => ∃ (k : Nat) (n : Int), k ≤ s.size ∧ nv = .int .i64 n ∧ (0 ≤ n ∧ n ≤ 9999999999) ∧ (k < 10 → n ≤ 999999999) ∧ iv = .int .i64 k ∧ Hid (n = dec (s.data.toList.take k)) ∧ Hid ((s.data.toList.take k).all digB = true) ∧ Hid (Below w.heap.size w wr)) (fun _ iv _ => s.size - (intOf iv).toNat)
  case atStart => exact ⟨0, 0, Nat.zero_le _, rfl, by omega, by omega, rfl, rfl, rfl, Below.refl _ _⟩
  case round =>
    obtain ⟨k, n, hk, rfl, ⟨hn0, hn1⟩, hn2, rfl, HE, hd, HJ⟩ := hrel
    by_cases hlt : k < s.size
    · have hn3 := hn2 (by omega)
      by_cases hdig : 48 ≤ (s[k].toNat : Int) ∧ (s[k].toNat : Int) ≤ 57
      · have HD := Lib.hid (digs_snoc s k hlt hd.out hdig)
        have HT := Lib.hid (dec_take s k hlt)
        obtain ⟨hd1, hd2⟩ := hdig
        clear hn2
        have HX : Hid (k + 1 < 10 → n * 10 + (s[k].toNat : Int) - 48 ≤ 999999999) := fun hk9 => by
          have h1 := HT.out
          have h2 := ten_lt s HD.out (by omega)
          rw [h1, ← HE.out] at h2
          have h3 := ten_mono (show k + 1 ≤ 9 by omega)
          have h5 : (10 : Int) ^ 9 = 1000000000 := by rfl
          omega
        go_wp2
        go_roundw
        case rel => exact ⟨k + 1, _, by omega, rfl, by omega, HX.out, by go_num, (by show _ = _; rw [HT.out, ← HE.out]; omega), HD, HJ⟩
        case measure => simp [intOf]; omega
      · have HR := Lib.hid (cnt_no (l := s.data.toList) (cnt_bad k hlt hdig))
        by_cases h48 : (s[k].toNat : Int) < 48
        · clear hdig hn2
          go_wp2
          go_ret2
          exact ⟨HR.out, HJ.out⟩
        · have h57 : 57 < (s[k].toNat : Int) := by omega
          clear hdig hn2
          go_wp2
          go_ret2
          exact ⟨HR.out, HJ.out⟩
    · obtain rfl : k = s.size := by omega
      have HF : Hid (n = dec s.data.toList) := by show _ = _; rw [HE.out, ← HL.out, List.take_length]
      have HB : Hid (cntB s.data.toList = true) := by
        have h1 := hd.out
        rw [← HL.out, List.take_length] at h1
        show _ = _
        unfold cntB
        rw [h1, ← ByteArray.toList_eq, e1, decide_eq_true (by rw [ByteArray.toList_eq, HL.out]; omega)]; rfl
      have HR := Lib.hid (cnt_yes HB.out)
      rw [← HF.out] at HR
      clear hn2
      go_wp2
      go_ret2
      exact ⟨HR.out, HJ.out⟩
end Go.Proofs.YtbnpbflndnjmcaaDoor
