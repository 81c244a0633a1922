/- Texts of scores: Digits of every int, Text, numerals that are read. -/
import Derived.Test.YtiepfkhbebdkeaaDoorScoC
import Derived.Test.YtiepfkhbebdkeaaDoorRatB
import Derived.Deep.RegionHeld3
namespace Go.Proofs.YtiepfkhbebdkeaaDoor
open Go.RowKit
set_option linter.unusedVariables false
set_option linter.unusedSimpArgs false
set_option maxRecDepth 100000

set_option maxHeartbeats 2000000 in
theorem ref3_digitsW (n : Int) (hn : -9223372036854775808 ≤ n ∧ n ≤ 9223372036854775807) (w : World) :
    Calls Tryd.prog 39 #[.int .i64 n] w fun e w' => e = .returned (.string ⟨(itxt n).toArray⟩) ∧ Below w.heap.size w w' := by
  have HN := Lib.hid hn
  obtain ⟨hn1, hn2⟩ := hn
  go_enter Tryd.func39, Tryd.ntmps39
  go_wp2
  go_loopw [3, 4] (fun sv mv wr => ∃ (m : Int) (suf : List UInt8) (b : ByteArray), mv = .int .i64 m ∧ (-9223372036854775808 ≤ m ∧ m ≤ 9223372036854775807) ∧ Hid (TextInv n.natAbs m.natAbs suf) ∧ sv = .string b ∧ Hid (b = ⟨suf.toArray⟩) ∧ Hid (Below w.heap.size w wr)) (fun _ mv _ => (intOf mv).natAbs)
  case atStart =>
    refine ⟨n, [], _, rfl, HN.out, ?_, rfl, rfl, Below.refl _ _⟩
    have h := HN.out
    refine ⟨by omega, ?_, fun hh => ⟨hh, rfl⟩, fun hh => by rw [if_neg (by omega), List.append_nil]⟩
    have h3 := pw_mono (show 9 ≤ 40 by omega)
    have h4 : pw 9 = 22300745198530623141535718272648361505980416 := by unfold pw; rfl
    omega
  case round =>
    obtain ⟨m, suf, b, rfl, ⟨hm1, hm2⟩, HI, rfl, Hb, HJ⟩ := hrel
    by_cases hm0 : m = 0
    · subst hm0
      have HE := Lib.hid (textInv_end HI.out (by omega))
      by_cases hneg : n < 0
      · have hne : suf ≠ [] := by
          intro hc
          have h1 := HE.out
          rw [if_pos hc] at h1
          have h2 := dec_txt ((n.natAbs : Int).toNat)
          rw [h1] at h2
          have h3 : dec [48] = 0 := by decide
          omega
        have hsz : b.size ≤ 40 := by
          have h1 := HE.out
          rw [if_neg hne] at h1
          have h2 := txt_len 38 (n.natAbs : Int).toNat (by omega)
          rw [h1] at h2
          have h3 : b.size = suf.length := by rw [Hb.out]; exact bstr_size suf
          omega
        have HR : Hid ((⟨#[45]⟩ : ByteArray) ++ b = bstr (itxt n)) := by
          have h1 := HE.out
          rw [if_neg hne] at h1
          show _ = _
          unfold itxt
          rw [if_pos hneg, Hb.out]
          have : (n.natAbs : Int).toNat = n.natAbs := by omega
          rw [this] at h1
          rw [h1]
          exact ByteArray.ext (by simp)
        clear hne
        go_wp2
        go_ret
        exact ⟨retS HR.out, HJ.out⟩
      · have hit : itxt n = txt (n.natAbs : Int).toNat := by unfold itxt; rw [if_neg hneg]; congr 1; omega
        by_cases hs : suf = []
        · have hs1 : b.toList = [] := by rw [Hb.out, ByteArray.toList_eq, hs]
          have hs2 : b.toList.isEmpty = true := by rw [hs1]; rfl
          have HR : Hid (bstr [48] = bstr (itxt n)) := by
            have h1 := HE.out
            rw [if_pos hs] at h1
            show _ = _
            rw [hit, h1]
          clear hs hit
          go_wp2
          go_ret
          exact ⟨retS HR.out, HJ.out⟩
        · have hs1 : ¬ b.toList = [] := by rw [Hb.out, ByteArray.toList_eq]; simpa using hs
          have hs2 : b.toList.isEmpty = false := by
            cases h : b.toList with
            | nil => exact absurd h hs1
            | cons a b => rfl
          have HR : Hid (b = bstr (itxt n)) := by
            have h1 := HE.out
            rw [if_neg hs] at h1
            show _ = _
            rw [hit, h1, Hb.out]
          clear hs hit
          go_wp2
          go_ret
          exact ⟨retS HR.out, HJ.out⟩
    · have hmb : (m != 0) = true := by simpa using hm0
      have hmb2 : (m == 0) = false := by simpa using hm0
      have HLN := Lib.hid (textInv_len HI.out (by omega) (by omega))
      have hbs : b.size < 39 := by
        have h3 : b.size = suf.length := by rw [Hb.out]; exact bstr_size suf
        have := HLN.out
        omega
      have ea : ((m.tdiv 10).natAbs : Int) = (m.natAbs : Int) / 10 := by rw [Int.natAbs_tdiv]; rfl
      have eb : ((m.tmod 10).natAbs : Int) = (m.natAbs : Int) % 10 := by rw [Int.natAbs_tmod]; rfl
      have hr : 0 ≤ ((m.tmod 10).natAbs : Int) ∧ ((m.tmod 10).natAbs : Int) ≤ 9 := by omega
      have HS := Lib.hid (textInv_step HI.out (by omega) (UInt8.ofNat (48 + ((m.tmod 10).natAbs : Int).toNat)) (by rw [UInt8.toNat_ofNat_of_lt' (by show _ < 256; omega)]; omega))
      rw [← ea] at HS
      have hq : -9223372036854775808 ≤ m.tdiv 10 ∧ m.tdiv 10 ≤ 9223372036854775807 := by omega
      have HQ := Lib.hid hq
      have hdec : (m.tdiv 10).natAbs < m.natAbs := by omega
      have HD := Lib.hid hdec
      have hsl := fun W => slice_digit ((m.tmod 10).natAbs : Int) hr W
      by_cases hneg : m.tmod 10 < 0
      · have e1 : ((m.tmod 10).natAbs : Int) = -(m.tmod 10) := by omega
        rw [e1] at hsl HS hr
        obtain ⟨hr1, hr2⟩ := hr
        clear ea eb hq hdec e1
        have hb1 : -9 ≤ m.tmod 10 := by omega
        generalize UInt8.ofNat (48 + (-(m.tmod 10)).toNat) = c at *
        go_wp2
        exact ⟨⟨_, c :: suf, _, rfl, HQ.out, HS, rfl, (by show _ = _; rw [Hb.out]; exact ByteArray.ext (by simp)), HJ⟩, HD.out⟩
      · have e1 : ((m.tmod 10).natAbs : Int) = m.tmod 10 := by omega
        rw [e1] at hsl HS hr
        obtain ⟨hr1, hr2⟩ := hr
        clear ea eb hq hdec e1
        generalize UInt8.ofNat (48 + (m.tmod 10).toNat) = c at *
        go_wp2
        exact ⟨⟨_, c :: suf, _, rfl, HQ.out, HS, rfl, (by show _ = _; rw [Hb.out]; exact ByteArray.ext (by simp)), HJ⟩, HD.out⟩

/-- a score's text -/
def stx (p q : Int) : List UInt8 := if ScoOk p q then itxt p ++ 47 :: itxt q else []
theorem itxt_small {n : Int} (h : 0 ≤ n ∧ n ≤ 274877906944) : (itxt n).length ≤ 12 := by
  unfold itxt
  rw [if_neg (by omega)]
  have := txt_len 11 n.toNat (by show _ < 10 ^ 12; omega)
  omega
theorem stx_len (p q : Int) : (stx p q).length ≤ 25 := by
  unfold stx
  split
  · rename_i h
    obtain ⟨h1, h2, h3, h4, -⟩ := h
    have := itxt_small ⟨h3, h4⟩
    have := itxt_small (n := q) ⟨by omega, by omega⟩
    simp; omega
  · simp
theorem bstr_size' (l : List UInt8) : (bstr l).size = l.length := by show l.toArray.size = _; simp
set_option maxHeartbeats 1000000 in
theorem sco_text (p q : Int) (hp : I64 p) (hq : I64 q) (w : World) (ht : Tab w) :
    Calls Tryd.prog 23 #[.agg #[.int .i64 p, .int .i64 q]] w fun e w' => e = .returned (.string (bstr (stx p q))) ∧ Below w.heap.size w w' := by
  have KI := Lib.hid (fun W => sco_is p q hp hq W)
  have J0 := Lib.hid ((Keeps.start w).alloc #[.int .i64 p, .int .i64 q] 23)
  have T0 := Lib.hid (ht.alloc (.cells #[.int .i64 p, .int .i64 q] 23))
  by_cases hv : ScoOk p q
  · rw [scoB_of hv] at KI
    have lp := itxt_small (n := p) ⟨hv.2.2.1, hv.2.2.2.1⟩
    have lq := itxt_small (n := q) ⟨by have := hv.1; omega, by have := hv.2.1; omega⟩
    have KP := Lib.hid (fun W hT => rat_itoa p hp W hT)
    have KQ := Lib.hid (fun W hT => rat_itoa q hq W hT)
    have HR : Hid (((⟨(itxt p).toArray⟩ : ByteArray) ++ ⟨#[47]⟩) ++ ⟨(itxt q).toArray⟩ = bstr (stx p q)) := by
      show _ = _
      unfold stx; rw [if_pos hv]
      exact ByteArray.ext (by simp)
    have sp : (⟨(itxt p).toArray⟩ : ByteArray).size ≤ 12 := by show (itxt p).toArray.size ≤ 12; simpa using lp
    have sq : (⟨(itxt q).toArray⟩ : ByteArray).size ≤ 12 := by show (itxt q).toArray.size ≤ 12; simpa using lq
    have c1 : ∀ W : World, (Op.stringOp .add (⟨(itxt p).toArray⟩ : ByteArray) ⟨#[47]⟩).run Tryd.prog W = .ok (.string (⟨(itxt p).toArray⟩ ++ ⟨#[47]⟩)) W := fun W => run_string_add_sum _ _ _ (by have : (⟨#[47]⟩ : ByteArray).size = 1 := rfl; omega)
    have c2 : ∀ W : World, (Op.stringOp .add ((⟨(itxt p).toArray⟩ : ByteArray) ++ ⟨#[47]⟩) ⟨(itxt q).toArray⟩).run Tryd.prog W = .ok (.string ((⟨(itxt p).toArray⟩ ++ ⟨#[47]⟩) ++ ⟨(itxt q).toArray⟩)) W := fun W => run_string_add_sum _ _ _ (by rw [ByteArray.size_append]; have : (⟨#[47]⟩ : ByteArray).size = 1 := rfl; omega)
    clear sp sq lp lq hv
    generalize (⟨(itxt p).toArray⟩ : ByteArray) = tp at *
    generalize (⟨(itxt q).toArray⟩ : ByteArray) = tq at *
    go_enter Tryd.func23, Tryd.ntmps23
    obtain ⟨x0, x1, _, _⟩ := J0.out.head.two
    go_wp2_with fail
    refine (KI.out _).mono ?_
    rintro e w1 ⟨rfl, b1⟩
    clear x0 x1
    obtain ⟨x0, x1, _, _⟩ := (J0.out.below b1).head.two
    have J1 := Lib.hid (J0.out.below b1).drew
    have T1 := Lib.hid (T0.out.below b1).drew
    clear b1
    go_wp2
    obtain ⟨x0, x1, _, _⟩ := J1.out.head.two
    go_region_held3 (fun wr => wr.cell? ⟨w.heap.size, 0, none⟩ = some (.int .i64 p) ∧ wr.cell? ⟨w.heap.size, 1, none⟩ = some (.int .i64 q)) (go_keep)
      (first
        | (go_at_call 35; ((with_reducible refine (KP.out _ T1.out).mono ?_); rintro e w2 ⟨rfl, b2⟩; have J1 := Lib.hid (J1.out.below b2); have T1 := Lib.hid (T1.out.below b2); obtain ⟨x0, x1, _, _⟩ := J1.out.head.two; clear b2))
        | (go_at_call 35; ((with_reducible refine (KQ.out _ T1.out).mono ?_); rintro e w2 ⟨rfl, b2⟩; have J1 := Lib.hid (J1.out.below b2); have T1 := Lib.hid (T1.out.below b2); obtain ⟨x0, x1, _, _⟩ := J1.out.head.two; clear b2)))
    all_goals
      go_wp2
      go_ret
      exact ⟨retS HR.out, J1.out.2.1⟩
  · rw [scoB_no hv] at KI
    have HR : Hid (bstr [] = bstr (stx p q)) := by show _ = _; unfold stx; rw [if_neg hv]
    clear hv
    go_enter Tryd.func23, Tryd.ntmps23
    obtain ⟨x0, x1, _, _⟩ := J0.out.head.two
    go_wp2_with fail
    refine (KI.out _).mono ?_
    rintro e w1 ⟨rfl, b1⟩
    go_wp2
    go_ret
    exact ⟨retS HR.out, (J0.out.below b1).2.1⟩
set_option maxHeartbeats 1000000 in
theorem ref13_text (p q : Int) (hp : I64 p) (hq : I64 q) (w : World) :
    Calls Tryd.prog 26 #[.agg #[.int .i64 p, .int .i64 q]] w fun e w' => e = .returned (.string (bstr (stx p q))) ∧ Below w.heap.size w w' := by
  have KI := Lib.hid (fun W => ref13_is p q W)
  have J0 := Lib.hid ((Keeps.start w).alloc #[.int .i64 p, .int .i64 q] 23)
  by_cases hv : ScoOk p q
  · rw [scoB_of hv] at KI
    have lp := itxt_small (n := p) ⟨hv.2.2.1, hv.2.2.2.1⟩
    have lq := itxt_small (n := q) ⟨by have := hv.1; omega, by have := hv.2.1; omega⟩
    have KP := Lib.hid (fun W => ref3_digitsW p hp W)
    have KQ := Lib.hid (fun W => ref3_digitsW q hq W)
    have HR : Hid (((⟨(itxt p).toArray⟩ : ByteArray) ++ ⟨#[47]⟩) ++ ⟨(itxt q).toArray⟩ = bstr (stx p q)) := by
      show _ = _
      unfold stx; rw [if_pos hv]
      exact ByteArray.ext (by simp)
    have sp : (⟨(itxt p).toArray⟩ : ByteArray).size ≤ 12 := by show (itxt p).toArray.size ≤ 12; simpa using lp
    have sq : (⟨(itxt q).toArray⟩ : ByteArray).size ≤ 12 := by show (itxt q).toArray.size ≤ 12; simpa using lq
    have c1 : ∀ W : World, (Op.stringOp .add (⟨(itxt p).toArray⟩ : ByteArray) ⟨#[47]⟩).run Tryd.prog W = .ok (.string (⟨(itxt p).toArray⟩ ++ ⟨#[47]⟩)) W := fun W => run_string_add_sum _ _ _ (by have : (⟨#[47]⟩ : ByteArray).size = 1 := rfl; omega)
    have c2 : ∀ W : World, (Op.stringOp .add ((⟨(itxt p).toArray⟩ : ByteArray) ++ ⟨#[47]⟩) ⟨(itxt q).toArray⟩).run Tryd.prog W = .ok (.string ((⟨(itxt p).toArray⟩ ++ ⟨#[47]⟩) ++ ⟨(itxt q).toArray⟩)) W := fun W => run_string_add_sum _ _ _ (by rw [ByteArray.size_append]; have : (⟨#[47]⟩ : ByteArray).size = 1 := rfl; omega)
    clear sp sq lp lq hv
    generalize (⟨(itxt p).toArray⟩ : ByteArray) = tp at *
    generalize (⟨(itxt q).toArray⟩ : ByteArray) = tq at *
    go_enter Tryd.func26, Tryd.ntmps26
    obtain ⟨x0, x1, _, _⟩ := J0.out.head.two
    go_wp2_with fail
    refine (KI.out _).mono ?_
    rintro e w1 ⟨rfl, b1⟩
    clear x0 x1
    obtain ⟨x0, x1, _, _⟩ := (J0.out.below b1).head.two
    have J1 := Lib.hid (J0.out.below b1).drew
    clear b1
    go_wp2
    obtain ⟨x0, x1, _, _⟩ := J1.out.head.two
    go_region_held3 (fun wr => wr.cell? ⟨w.heap.size, 0, none⟩ = some (.int .i64 p) ∧ wr.cell? ⟨w.heap.size, 1, none⟩ = some (.int .i64 q)) (go_keep)
      (first
        | (go_at_call 39; ((with_reducible refine (KP.out _).mono ?_); rintro e w2 ⟨rfl, b2⟩; have J1 := Lib.hid (J1.out.below b2); obtain ⟨x0, x1, _, _⟩ := J1.out.head.two; clear b2))
        | (go_at_call 39; ((with_reducible refine (KQ.out _).mono ?_); rintro e w2 ⟨rfl, b2⟩; have J1 := Lib.hid (J1.out.below b2); obtain ⟨x0, x1, _, _⟩ := J1.out.head.two; clear b2)))
    all_goals
      go_wp2
      go_ret
      exact ⟨retS HR.out, J1.out.2.1⟩
  · rw [scoB_no hv] at KI
    have HR : Hid (bstr [] = bstr (stx p q)) := by show _ = _; unfold stx; rw [if_neg hv]
    clear hv
    go_enter Tryd.func26, Tryd.ntmps26
    obtain ⟨x0, x1, _, _⟩ := J0.out.head.two
    go_wp2_with fail
    refine (KI.out _).mono ?_
    rintro e w1 ⟨rfl, b1⟩
    go_wp2
    go_ret
    exact ⟨retS HR.out, (J0.out.below b1).2.1⟩
end Go.Proofs.YtiepfkhbebdkeaaDoor
