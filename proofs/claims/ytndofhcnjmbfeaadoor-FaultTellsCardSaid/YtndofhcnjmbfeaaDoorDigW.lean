/- The reference's Digits, of every int (a seat without layer 3's own texts). -/
import Derived.Test.YtndofhcnjmbfeaaDoorWideT
import Derived.Lib.AppendIntMem
import Derived.Lib.ItoaLen
namespace Go.Proofs.YtndofhcnjmbfeaaDoor
open Go.RowKit
set_option linter.unusedVariables false
set_option linter.unusedSimpArgs false
set_option maxRecDepth 100000

theorem txt_len (k : Nat) : ∀ n : Nat, n < 10 ^ (k + 1) → (txt n).length ≤ k + 1 := by
  induction k with
  | zero => intro n h; rw [txt_small (by simpa using h)]; simp
  | succ k ih =>
    intro n h
    by_cases hs : n < 10
    · rw [txt_small hs]; simp
    · rw [txt_big hs, List.length_append]
      have := ih (n / 10) (by rw [Nat.pow_succ] at h; omega)
      simp only [List.length_cons, List.length_nil]; omega
theorem txt_ne (n : Nat) : txt n ≠ [] := by
  by_cases hs : n < 10
  · rw [txt_small hs]; simp
  · rw [txt_big hs]; simp
/-- what is still to be told, and what is told already, of n -/
def TextInv (N V : Int) (suf : List UInt8) : Prop := 0 ≤ V ∧ V < pw 40 ∧ (N = 0 → V = 0 ∧ suf = []) ∧ (0 < N → txt N.toNat = (if V = 0 then [] else txt V.toNat) ++ suf)
theorem textInv_step {N V : Int} {suf : List UInt8} (h : TextInv N V suf) (hV : 0 < V) (c : UInt8) (hc : (c.toNat : Int) = 48 + V % 10) : TextInv N (V / 10) (c :: suf) := by
  obtain ⟨h0, h1, h2, h3⟩ := h
  have hN : N ≠ 0 := fun hc => by have := (h2 hc).1; omega
  refine ⟨by omega, by omega, fun h => absurd h hN, fun hp => ?_⟩
  rw [h3 hp, if_neg (by omega)]
  have ec : c = UInt8.ofNat (48 + V.toNat % 10) := by
    apply UInt8.toNat_inj.1
    rw [UInt8.toNat_ofNat_of_lt' (by show _ < 256; omega)]; omega
  by_cases hs : V < 10
  · rw [if_pos (by omega), txt_small (by omega), ec]
    have : V.toNat % 10 = V.toNat := by omega
    rw [this]; rfl
  · rw [if_neg (by omega), txt_big (by omega), ec]
    have : (V / 10).toNat = V.toNat / 10 := by omega
    rw [this, List.append_assoc]; rfl
theorem textInv_len {N V : Int} {suf : List UInt8} (h : TextInv N V suf) (hV : 0 < V) (hN : 0 ≤ N ∧ N < 1000000000000000000000000000000000000000) : suf.length < 39 := by
  obtain ⟨h0, h1, h2, h3⟩ := h
  have hp : 0 < N := by
    rcases Int.lt_or_le 0 N with h | h
    · exact h
    · have := (h2 (by omega)).1; omega
  have h4 := h3 hp
  rw [if_neg (by omega)] at h4
  have h5 := txt_len 38 N.toNat (by show _ < 10 ^ 39; omega)
  have h6 := List.length_pos_iff.2 (txt_ne V.toNat)
  rw [h4, List.length_append] at h5
  omega
theorem textInv_end {N : Int} {suf : List UInt8} (h : TextInv N 0 suf) (hN : 0 ≤ N) : txt N.toNat = (if suf = [] then [48] else suf) := by
  obtain ⟨h0, h1, h2, h3⟩ := h
  by_cases hz : N = 0
  · rw [(h2 hz).2, if_pos rfl, hz]; exact txt_small (by decide)
  · have h4 := h3 (by omega)
    rw [if_pos rfl, List.nil_append] at h4
    have := txt_ne N.toNat
    rw [h4] at this
    rw [h4, if_neg this]

set_option maxRecDepth 100000 in
theorem slice_digit (r : Int) (hr : 0 ≤ r ∧ r ≤ 9) (W : World) : (Instr.slice 9 (.string ⟨#[48, 49, 50, 51, 52, 53, 54, 55, 56, 57]⟩) (some (.int .i64 r)) (some (.int .i64 (r + 1))) none).run Tryd.prog W = .ok (.string ⟨#[UInt8.ofNat (48 + r.toNat)]⟩) W := by
  have h : r = 0 ∨ r = 1 ∨ r = 2 ∨ r = 3 ∨ r = 4 ∨ r = 5 ∨ r = 6 ∨ r = 7 ∨ r = 8 ∨ r = 9 := by omega
  rcases h with rfl | rfl | rfl | rfl | rfl | rfl | rfl | rfl | rfl | rfl <;> rfl
theorem ofNat_digit {n : Nat} (h : n < 10) : ((UInt8.ofNat (48 + n)).toNat : Int) = 48 + n := by
  rw [UInt8.toNat_ofNat_of_lt' (by show _ < 256; omega)]; omega
theorem dec_one (c : UInt8) : dec [c] = (c.toNat : Int) - 48 := by
  show (0 : Int) * 10 + _ = _
  omega
theorem dec_txt (n : Nat) : dec (txt n) = n := by
  induction n using Nat.strongRecOn with
  | _ n ih =>
    by_cases h : n < 10
    · rw [txt_small h, dec_one, ofNat_digit h]; omega
    · rw [txt_big h, dec_append, ih (n / 10) (by omega), ofNat_digit (by omega)]; omega
theorem digits_txt (n : Nat) : Lib.decDigits n = txt n := by
  induction n using Nat.strongRecOn with
  | _ n ih =>
    by_cases h : n < 10
    · rw [txt_small h, Lib.decDigits_one h]
    · rw [txt_big h, ← ih (n / 10) (by omega)]
      conv => lhs; rw [Lib.decDigits]
      rw [dif_neg h]
/-- a number's digits, with a minus ahead if it is below 0 -/
def itxt (n : Int) : List UInt8 := if n < 0 then 45 :: txt n.natAbs else txt n.toNat
theorem itoa_txt (n : Int) : Lib.itoa n = itxt n := by
  unfold Lib.itoa itxt
  rw [digits_txt, digits_txt]
theorem bstr_size (l : List UInt8) : (⟨l.toArray⟩ : ByteArray).size = l.length := by show l.toArray.size = _; simp
theorem retS {a b : ByteArray} (h : a = b) : Ending.returned (.string a) = .returned (.string b) := by rw [h]
abbrev bstr (l : List UInt8) : ByteArray := ⟨l.toArray⟩
theorem bstr_app (a b : List UInt8) : bstr a ++ bstr b = bstr (a ++ b) := ByteArray.ext (by simp)

set_option maxHeartbeats 2000000 in
theorem ref3_digitsW (n : Int) (hn : -9223372036854775808 ≤ n ∧ n ≤ 9223372036854775807) (w : World) :
    Calls Tryd.prog 28 #[.int .i64 n] w fun e w' => e = .returned (.string ⟨(itxt n).toArray⟩) ∧ Below w.heap.size w w' := by
  have HN := Lib.hid hn
  obtain ⟨hn1, hn2⟩ := hn
  go_enter Tryd.func28, Tryd.ntmps28
  go_wp2
  go_loopw [3, 4] (fun sv mv wr => ∃ (m : Int) (suf : List UInt8) (b : ByteArray), mv = .int .i64 m ∧ (-9223372036854775808 ≤ m ∧ m ≤ 9223372036854775807) ∧ Hid (TextInv n.natAbs m.natAbs suf) ∧ sv = .string b ∧ Hid (b = ⟨suf.toArray⟩) ∧ Hid (Below w.heap.size w wr)) (fun _ mv _ => (intOf mv).natAbs)
  case atStart =>
    refine ⟨n, [], _, rfl, HN.out, ?_, rfl, rfl, Below.refl _ _⟩
    have h := HN.out
    refine ⟨by omega, ?_, fun hh => ⟨hh, rfl⟩, fun hh => by rw [if_neg (by omega), List.append_nil]⟩
    have h3 := pw_mono (show 9 ≤ 40 by omega)
    have h4 : pw 9 = 22300745198530623141535718272648361505980416 := by unfold pw; rfl
    omega
  case round =>
    obtain ⟨m, suf, b, rfl, ⟨hm1, hm2⟩, HI, rfl, Hb, HJ⟩ := hrel
    by_cases hm0 : m = 0
    · subst hm0
      have HE := Lib.hid (textInv_end HI.out (by omega))
      by_cases hneg : n < 0
      · have hne : suf ≠ [] := by
          intro hc
          have h1 := HE.out
          rw [if_pos hc] at h1
          have h2 := dec_txt ((n.natAbs : Int).toNat)
          rw [h1] at h2
          have h3 : dec [48] = 0 := by decide
          omega
        have hsz : b.size ≤ 40 := by
          have h1 := HE.out
          rw [if_neg hne] at h1
          have h2 := txt_len 38 (n.natAbs : Int).toNat (by omega)
          rw [h1] at h2
          have h3 : b.size = suf.length := by rw [Hb.out]; exact bstr_size suf
          omega
        have HR : Hid ((⟨#[45]⟩ : ByteArray) ++ b = bstr (itxt n)) := by
          have h1 := HE.out
          rw [if_neg hne] at h1
          show _ = _
          unfold itxt
          rw [if_pos hneg, Hb.out]
          have : (n.natAbs : Int).toNat = n.natAbs := by omega
          rw [this] at h1
          rw [h1]
          exact ByteArray.ext (by simp)
        clear hne
        go_wp2
        go_ret
        exact ⟨retS HR.out, HJ.out⟩
      · have hit : itxt n = txt (n.natAbs : Int).toNat := by unfold itxt; rw [if_neg hneg]; congr 1; omega
        by_cases hs : suf = []
        · have hs1 : b.toList = [] := by rw [Hb.out, ByteArray.toList_eq, hs]
          have hs2 : b.toList.isEmpty = true := by rw [hs1]; rfl
          have HR : Hid (bstr [48] = bstr (itxt n)) := by
            have h1 := HE.out
            rw [if_pos hs] at h1
            show _ = _
            rw [hit, h1]
          clear hs hit
          go_wp2
          go_ret
          exact ⟨retS HR.out, HJ.out⟩
        · have hs1 : ¬ b.toList = [] := by rw [Hb.out, ByteArray.toList_eq]; simpa using hs
          have hs2 : b.toList.isEmpty = false := by
            cases h : b.toList with
            | nil => exact absurd h hs1
            | cons a b => rfl
          have HR : Hid (b = bstr (itxt n)) := by
            have h1 := HE.out
            rw [if_neg hs] at h1
            show _ = _
            rw [hit, h1, Hb.out]
          clear hs hit
          go_wp2
          go_ret
          exact ⟨retS HR.out, HJ.out⟩
    · have hmb : (m != 0) = true := by simpa using hm0
      have hmb2 : (m == 0) = false := by simpa using hm0
      have HLN := Lib.hid (textInv_len HI.out (by omega) (by omega))
      have hbs : b.size < 39 := by
        have h3 : b.size = suf.length := by rw [Hb.out]; exact bstr_size suf
        have := HLN.out
        omega
      have ea : ((m.tdiv 10).natAbs : Int) = (m.natAbs : Int) / 10 := by rw [Int.natAbs_tdiv]; rfl
      have eb : ((m.tmod 10).natAbs : Int) = (m.natAbs : Int) % 10 := by rw [Int.natAbs_tmod]; rfl
      have hr : 0 ≤ ((m.tmod 10).natAbs : Int) ∧ ((m.tmod 10).natAbs : Int) ≤ 9 := by omega
      have HS := Lib.hid (textInv_step HI.out (by omega) (UInt8.ofNat (48 + ((m.tmod 10).natAbs : Int).toNat)) (by rw [UInt8.toNat_ofNat_of_lt' (by show _ < 256; omega)]; omega))
      rw [← ea] at HS
      have hq : -9223372036854775808 ≤ m.tdiv 10 ∧ m.tdiv 10 ≤ 9223372036854775807 := by omega
      have HQ := Lib.hid hq
      have hdec : (m.tdiv 10).natAbs < m.natAbs := by omega
      have HD := Lib.hid hdec
      have hsl := fun W => slice_digit ((m.tmod 10).natAbs : Int) hr W
      by_cases hneg : m.tmod 10 < 0
      · have e1 : ((m.tmod 10).natAbs : Int) = -(m.tmod 10) := by omega
        rw [e1] at hsl HS hr
        obtain ⟨hr1, hr2⟩ := hr
        clear ea eb hq hdec e1
        have hb1 : -9 ≤ m.tmod 10 := by omega
        generalize UInt8.ofNat (48 + (-(m.tmod 10)).toNat) = c at *
        go_wp2
        exact ⟨⟨_, c :: suf, _, rfl, HQ.out, HS, rfl, (by show _ = _; rw [Hb.out]; exact ByteArray.ext (by simp)), HJ⟩, HD.out⟩
      · have e1 : ((m.tmod 10).natAbs : Int) = m.tmod 10 := by omega
        rw [e1] at hsl HS hr
        obtain ⟨hr1, hr2⟩ := hr
        clear ea eb hq hdec e1
        generalize UInt8.ofNat (48 + (m.tmod 10).toNat) = c at *
        go_wp2
        exact ⟨⟨_, c :: suf, _, rfl, HQ.out, HS, rfl, (by show _ = _; rw [Hb.out]; exact ByteArray.ext (by simp)), HJ⟩, HD.out⟩
theorem ref3_digitsI (n : Int) (hn : -9223372036854775808 ≤ n ∧ n ≤ 9223372036854775807) (w : World) :
    Calls Tryd.prog 28 #[.int .i64 n] w fun e w' => e = .returned (.string ⟨(Lib.itoa n).toArray⟩) ∧ Below w.heap.size w w' := by
  rw [itoa_txt]
  exact ref3_digitsW n hn w
end Go.Proofs.YtndofhcnjmbfeaaDoor
