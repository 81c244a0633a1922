/- The contract of wide.Parse. -/
import Derived.Test.YtbnpbflndnjmcaaDoorWideI
import Derived.Test.YtbnpbflndnjmcaaDoorWideS
import Derived.IntWalk
import Derived.Outline
namespace Go.Proofs.YtbnpbflndnjmcaaDoor
open Go.RowKit

/-- the number that digits say -/
def dec (l : List UInt8) : Int := l.foldl (fun a c => a * 10 + ((c.toNat : Int) - 48)) 0
theorem dec_append (l : List UInt8) (c : UInt8) : dec (l ++ [c]) = dec l * 10 + ((c.toNat : Int) - 48) := by
  unfold dec; rw [List.foldl_append]; rfl
theorem dec_take (s : ByteArray) (k : Nat) (h : k < s.size) : dec (s.data.toList.take (k + 1)) = dec (s.data.toList.take k) * 10 + ((s[k].toNat : Int) - 48) := by
  rw [List.take_succ_eq_append_getElem (by simpa using h), dec_append]; rfl
theorem digB_bd {c : UInt8} (h : digB c = true) : 48 ≤ (c.toNat : Int) ∧ (c.toNat : Int) ≤ 57 := by
  unfold digB at h; exact of_decide_eq_true h
theorem digB_at {s : ByteArray} (h : s.data.toList.all digB = true) (k : Nat) (hk : k < s.size) : 48 ≤ (s[k].toNat : Int) ∧ (s[k].toNat : Int) ≤ 57 := by
  rw [List.all_eq_true] at h
  exact digB_bd (h s[k] (by show s.data[k] ∈ s.data.toList; simp))
theorem dec_nonneg (s : ByteArray) (h : s.data.toList.all digB = true) (k : Nat) (hk : k ≤ s.size) : 0 ≤ dec (s.data.toList.take k) := by
  induction k with
  | zero => rw [List.take_zero]; exact Int.le_refl 0
  | succ k ih =>
    have := ih (by omega)
    have hd := digB_at h k (by omega)
    rw [dec_take s k (by omega)]; omega
theorem dec_mono (s : ByteArray) (h : s.data.toList.all digB = true) (k n : Nat) (hk : k + n ≤ s.size) : dec (s.data.toList.take k) ≤ dec (s.data.toList.take (k + n)) := by
  induction n with
  | zero => exact Int.le_refl _
  | succ n ih =>
    have h1 := ih (by omega)
    have h2 := dec_nonneg s h (k + n) (by omega)
    have hd := digB_at h (k + n) (by omega)
    rw [show k + (n + 1) = k + n + 1 by omega, dec_take s (k + n) (by omega)]; omega
theorem isText_all {l : List UInt8} (h : isTextB l = true) : l.all digB = true := by
  unfold isTextB at h
  simp only [Bool.and_eq_true] at h
  exact h.2

def psH (l : List UInt8) : Int := if isTextB l = true ∧ l.length ≤ 39 then wfH (dec l) else 0
def psL (l : List UInt8) : Int := if isTextB l = true ∧ l.length ≤ 39 then wfL (dec l) else 0
def psE (l : List UInt8) : Int := if isTextB l = true then (if l.length ≤ 39 then wfE (dec l) else 10) else 20
abbrev psV (l : List UInt8) : Value := .tuple #[.agg #[.int .u64 (psH l), .int .u64 (psL l)], .int .i64 (psE l)]
theorem psV_no {l : List UInt8} (h : isTextB l = false) : Ending.returned (.tuple #[.agg #[.int .u64 0, .int .u64 0], .int .i64 20]) = .returned (psV l) := by
  unfold psV psH psL psE
  rw [h]; rfl
theorem psV_long {l : List UInt8} (h : isTextB l = true) (hl : 39 < l.length) : Ending.returned (.tuple #[.agg #[.int .u64 0, .int .u64 0], .int .i64 10]) = .returned (psV l) := by
  unfold psV psH psL psE
  rw [if_neg (by omega), if_neg (by omega), if_pos h, if_neg (by omega)]
theorem psV_in {l : List UInt8} (h : isTextB l = true) (hl : l.length ≤ 39) : psV l = wfV (dec l) := by
  unfold psV psH psL psE
  rw [if_pos ⟨h, hl⟩, if_pos ⟨h, hl⟩, if_pos h, if_pos hl]

theorem shift_in (h l d n : Int) (hh : U64 h) (hl : U64 l) (hd : 0 ≤ d ∧ d ≤ 9) (e : wv h l * 10 + d = n) (hn : 0 ≤ n ∧ n < 340282366920938463463374607431768211456) (w : World) :
    Calls Tryd.prog 95 #[.agg #[.int .u64 h, .int .u64 l], .int .u64 d] w fun e w' => e = .returned (.tuple #[.agg #[.int .u64 (n / 18446744073709551616), .int .u64 (n % 18446744073709551616)], .int .i64 0]) ∧ Below w.heap.size w w' := by
  have h := wide_shift h l d hh hl (by unfold U64; omega) w
  rw [e] at h
  rw [wfV_in hn rfl rfl]; exact h
theorem shift_out (h l d n : Int) (hh : U64 h) (hl : U64 l) (hd : 0 ≤ d ∧ d ≤ 9) (e : wv h l * 10 + d = n) (hn : 340282366920938463463374607431768211456 ≤ n) (w : World) :
    Calls Tryd.prog 95 #[.agg #[.int .u64 h, .int .u64 l], .int .u64 d] w fun e w' => e = .returned (.tuple #[.agg #[.int .u64 0, .int .u64 0], .int .i64 10]) ∧ Below w.heap.size w w' := by
  have h := wide_shift h l d hh hl (by unfold U64; omega) w
  rw [e] at h
  rw [wfV_out (n := n) (by omega)]; exact h

set_option maxHeartbeats 2000000 in
theorem wide_parse (s : ByteArray) (hs : s.size ≤ maxLen) (w : World) :
    Calls Tryd.prog 85 #[.string s] w fun e w' => e = .returned (psV s.data.toList) ∧ Below w.heap.size w w' := by
  have KT := Lib.hid (fun W => wide_isText s hs W)
  have HL : Hid (s.data.toList.length = s.size) := by show _ = _; simp
  unfold maxLen at hs
  have hX := Box.new w #[.int .u64 0, .int .u64 0] 71
  have hW := (Below.refl w.heap.size w).alloc (Nat.le_refl _) (.cells #[.int .u64 0, .int .u64 0] 71)
  obtain ⟨x0, x1, x2, x3⟩ := hX.two
  have HX := Lib.hid hX
  have HW := Lib.hid hW
  clear hX hW
  cases hT : isTextB s.data.toList with
  | false =>
    have HR := Lib.hid (psV_no hT)
    rw [hT] at KT
    clear hT
    go_enter Tryd.func85, Tryd.ntmps85
    go_wp2_with fail
    refine (KT.out _).mono ?_
    rintro e w1 ⟨rfl, rfl⟩
    go_wp2
    refine bodyPost_ret (v := .tuple #[.agg #[.int .u64 0, .int .u64 0], .int .i64 20]) ?_ rfl ⟨HR.out, HW.out⟩
    simp [results, Tryd.results85, go_sem, x0, x1]
  | true =>
    rw [hT] at KT
    by_cases h39 : 39 < s.size
    · have HR := Lib.hid (psV_long hT (by rw [HL.out]; exact h39))
      clear hT
      go_enter Tryd.func85, Tryd.ntmps85
      go_wp2_with fail
      refine (KT.out _).mono ?_
      rintro e w1 ⟨rfl, rfl⟩
      go_wp2
      refine bodyPost_ret (v := .tuple #[.agg #[.int .u64 0, .int .u64 0], .int .i64 10]) ?_ rfl ⟨HR.out, HW.out⟩
      simp [results, Tryd.results85, go_sem, x0, x1]
    · have HV := Lib.hid (psV_in hT (by rw [HL.out]; omega))
      have HA := Lib.hid (isText_all hT)
      clear hT
      go_enter Tryd.func85, Tryd.ntmps85
      go_wp2_with fail
      refine (KT.out _).mono ?_
      rintro e w1 ⟨rfl, rfl⟩
      go_wp2
      clear x0 x1 x2 x3
      go_loopw [17] (fun i wr => ∃ (k : Nat) (h l : Int), k ≤ s.size ∧ i = .int .i64 k ∧ U64 h ∧ U64 l ∧ Hid (wv h l = dec (s.data.toList.take k)) ∧ Box wr w.heap.size #[.int .u64 0, .int .u64 0] 71 ∧ Box wr (w.heap.size + 1) #[.int .u64 h, .int .u64 l] 71 ∧ Below w.heap.size w wr) (fun i _ => s.size - (intOf i).toNat)
      case atStart =>
        refine ⟨0, 0, 0, Nat.zero_le _, rfl, by unfold U64; omega, by unfold U64; omega, rfl, HX.out.alloc _, ?_, HW.out.alloc (by simp) _⟩
        have := Box.new (w.alloc (.cells #[.int .u64 0, .int .u64 0] 71)) #[.int .u64 0, .int .u64 0] 71
        rw [alloc_size'] at this
        exact this
      case round =>
        obtain ⟨k, h, l, hk, rfl, uh, ul, hv, hR, hB, hb⟩ := hrel
        obtain ⟨x0, x1, x2, x3⟩ := hB.two
        obtain ⟨y0, y1, y2, y3⟩ := hR.two
        have XB := Lib.hid hB
        have XR := Lib.hid hR
        have XW := Lib.hid hb
        clear hR hB hb
        by_cases hlt : k < s.size
        · have hdig := digB_at HA.out k hlt
          have e1 : IntKind.u8.wrap ((s[k].toNat : Int) - 48) = (s[k].toNat : Int) - 48 := by unfold IntKind.wrap; simp [IntKind.signed, IntKind.bits]; omega
          have e2 : IntKind.u64.wrap ((s[k].toNat : Int) - 48) = (s[k].toNat : Int) - 48 := by unfold IntKind.wrap; simp [IntKind.signed, IntKind.bits]; omega
          have hN := dec_nonneg s HA.out (k + 1) (by omega)
          have HE : Hid (wv h l * 10 + ((s[k].toNat : Int) - 48) = dec (s.data.toList.take (k + 1))) := by show _ = _; rw [hv.out, dec_take s k hlt]
          by_cases hn : dec (s.data.toList.take (k + 1)) < 340282366920938463463374607431768211456
          · have HU : Hid (U64 (dec (s.data.toList.take (k + 1)) / 18446744073709551616) ∧ U64 (dec (s.data.toList.take (k + 1)) % 18446744073709551616) ∧ True) := ⟨by unfold U64; omega, by unfold U64; omega, trivial⟩
            have KS := Lib.hid (fun W => shift_in h l ((s[k].toNat : Int) - 48) _ uh ul (by omega) HE.out ⟨hN, hn⟩ W)
            clear hdig hN hn hv
            have UH : U64 (dec (s.data.toList.take (k + 1)) / 18446744073709551616) := HU.out.1
            have UL : U64 (dec (s.data.toList.take (k + 1)) % 18446744073709551616) := HU.out.2.1
            generalize hnH : dec (s.data.toList.take (k + 1)) / 18446744073709551616 = nH at *
            generalize hnL : dec (s.data.toList.take (k + 1)) % 18446744073709551616 = nL at *
            have HNN : Hid (wv nH nL = dec (s.data.toList.take (k + 1))) := by show wv _ _ = _; rw [← hnH, ← hnL]; exact wv_split _
            clear hnH hnL HU
            go_wp2
            go_region_with (go_at_call 95; ((with_reducible refine (KS.out _).mono ?_); rintro e w2 ⟨rfl, b2⟩; have XB2 := Lib.hid (XB.out.drew.below b2 XB.out.drew.lt); have XR2 := Lib.hid (XR.out.drew.below b2 XR.out.drew.lt); obtain ⟨z0, z1, z2, z3⟩ := XB2.out.two; have XW2 := Lib.hid (XW.out.drew.trans (b2.mono (Nat.le_of_lt XR.out.drew.lt)))))
            all_goals
              go_wp2
              go_roundw
              case rel => exact ⟨k + 1, nH, nL, by omega, by go_num, UH, UL, HNN, XR2.out.off2 (by omega) _ _, XB2.out.set2 _ _, (XW2.out.setCell (p := ⟨w.heap.size + 1, 0, none⟩) (by simp) _).setCell (p := ⟨w.heap.size + 1, 1, none⟩) (by simp) _⟩
              case measure => simp [intOf]; omega
          · have KS := Lib.hid (fun W => shift_out h l ((s[k].toNat : Int) - 48) _ uh ul (by omega) HE.out (by omega) W)
            have HR : Hid (wfV (dec s.data.toList) = .tuple #[.agg #[.int .u64 0, .int .u64 0], .int .i64 10]) := by
              have h1 := dec_mono s HA.out (k + 1) (s.size - (k + 1)) (by omega)
              rw [show k + 1 + (s.size - (k + 1)) = s.size by omega, ← HL.out, List.take_length] at h1
              have := wfV_out (n := dec s.data.toList) (by omega)
              exact (Ending.returned.inj this).symm
            clear hdig hN hn hv
            go_wp2
            go_region_with (go_at_call 95; ((with_reducible refine (KS.out _).mono ?_); rintro e w2 ⟨rfl, b2⟩; have XB2 := Lib.hid (XB.out.drew.below b2 XB.out.drew.lt); have XR2 := Lib.hid (XR.out.drew.below b2 XR.out.drew.lt); obtain ⟨z0, z1, z2, z3⟩ := XB2.out.two; obtain ⟨v0, v1, v2, v3⟩ := XR2.out.two; have XW2 := Lib.hid (XW.out.drew.trans (b2.mono (Nat.le_of_lt XR.out.drew.lt)))))
            all_goals
              go_wp2
              have Z := (XR2.out.off2 (k := w.heap.size + 1) (by omega) (.int .u64 0) (.int .u64 0)).set2 (.int .u64 0) (.int .u64 0)
              obtain ⟨k0, k1, _, _⟩ := Z.two
              refine bodyPost_ret (v := .tuple #[.agg #[.int .u64 0, .int .u64 0], .int .i64 10]) ?_ rfl ⟨?_, ?_⟩
              · simp [results, Tryd.results85, go_sem, k0, k1]
              · rw [HV.out, HR.out]
              · exact (((XW2.out.setCell (p := ⟨w.heap.size + 1, 0, none⟩) (by simp) _).setCell (p := ⟨w.heap.size + 1, 1, none⟩) (by simp) _).setCell (p := ⟨w.heap.size, 0, none⟩) (by simp) _).setCell (p := ⟨w.heap.size, 1, none⟩) (by simp) _
        · obtain rfl : k = s.size := by omega
          have HN : Hid (wv h l = dec s.data.toList) := by show _ = _; rw [hv.out, ← HL.out, List.take_length]
          have HR : Hid (Ending.returned (.tuple #[.agg #[.int .u64 h, .int .u64 l], .int .i64 0]) = .returned (psV s.data.toList)) := by
            show _ = _
            rw [HV.out]
            refine wfV_in ?_ ?_ ?_
            all_goals
              rw [← HN.out]
              unfold wv U64 at *
              omega
          clear hv
          go_wp2
          have Z := XR.out.set2 (.int .u64 h) (.int .u64 l)
          obtain ⟨k0, k1, _, _⟩ := Z.two
          refine bodyPost_ret (v := .tuple #[.agg #[.int .u64 h, .int .u64 l], .int .i64 0]) ?_ rfl ⟨HR.out, ?_⟩
          · simp [results, Tryd.results85, go_sem, k0, k1]
          · exact (XW.out.setCell (p := ⟨w.heap.size, 0, none⟩) (by simp) _).setCell (p := ⟨w.heap.size, 1, none⟩) (by simp) _
end Go.Proofs.YtbnpbflndnjmcaaDoor
