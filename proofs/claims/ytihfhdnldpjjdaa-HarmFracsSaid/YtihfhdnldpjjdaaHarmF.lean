import Derived.Test.YtihfhdnldpjjdaaHarmE

/-! Equal lists of numbers; what the statements of layer 5 ask of every program. -/
namespace Go.Proofs.Ytihfhdnldpjjdaa
open Go.RowKit
set_option linter.unusedVariables false
set_option linter.unusedSimpArgs false

theorem take_same {l m : List Int} {k : Nat} (hk : k < l.length) (hm : l.length = m.length) (h : l.take k = m.take k) : (l.getD k 0 = m.getD k 0 → l.take (k + 1) = m.take (k + 1)) ∧ (l.getD k 0 ≠ m.getD k 0 → l ≠ m) := by
  refine ⟨fun he => ?_, fun he hh => he (by rw [hh])⟩
  rw [List.take_add_one, List.take_add_one, h]
  congr 2
  simp only [List.getD_eq_getElem?_getD, List.getElem?_eq_getElem hk, List.getElem?_eq_getElem (hm ▸ hk), Option.getD_some] at he ⊢
  rw [he]
theorem ref_same1 (A A2 : Option Addr) (l m : List Int) (c c2 B : Nat) (w : World) (hA : Lies w B A l) (hA2 : Lies w B A2 m) (hl : (l.length : Int) ≤ 1000000) (hm : (m.length : Int) ≤ 1000000) :
    Calls Try.prog 19 #[.slice A l.length c, .slice A2 m.length c2] w fun e w' => e = .returned (.bool (decide (l = m))) ∧ ∃ n, w' = w.drewN n := by
  by_cases hlen : l.length = m.length
  · have HL := Lib.hid hlen
    rw [← hlen]
    have HA := Lib.hid hA
    have HA2 := Lib.hid hA2
    clear hA hA2 hlen
    generalize hN : l.length = N at *
    have HN := Lib.hid hN
    clear hN
    go_enter Try.func19, Try.ntmps19
    go_wp2
    go_loopw [5] (fun i wr => ∃ k : Nat, k ≤ N ∧ i = .int .i64 k ∧ Hid (l.take k = m.take k) ∧ Hid (∃ n, wr = w.drewN n)) (fun i _ => N - (intOf i).toNat)
    case atStart => exact ⟨0, by omega, rfl, rfl, ⟨0, rfl⟩⟩
    case round =>
      obtain ⟨k, hk, rfl, HT, HW⟩ := hrel
      by_cases hlt : k < N
      · have HAr : Hid (Lies wr B A l) := by obtain ⟨n, hn⟩ := HW.out; show Lies _ _ _ _; rw [hn]; exact HA.out
        have HAr2 : Hid (Lies wr B A2 m) := by obtain ⟨n, hn⟩ := HW.out; show Lies _ _ _ _; rw [hn]; exact HA2.out
        obtain ⟨ad, rfl, _, hc1⟩ := lies_at HAr.out (k := k) (by have := HN.out; omega)
        obtain ⟨ad2, rfl, _, hc2⟩ := lies_at HAr2.out (k := k) (by have := HL.out; have := HN.out; omega)
        have HS := Lib.hid (take_same (l := l) (m := m) (k := k) (by have := HN.out; omega) (by have := HL.out; have := HN.out; omega) HT.out)
        generalize l.getD k 0 = x at *
        generalize m.getD k 0 = y at *
        have hji : (k : Int) < (N : Int) := by omega
        by_cases hxy : x = y
        · subst hxy
          go_wp2_with fail
          go_quiet (fail)
          go_wp2
          refine ⟨⟨k + 1, by omega, by go_num, HS.out.1 trivial, ?_⟩, by first | (simp [intOf]; done) | (simp [intOf]; omega)⟩
          obtain ⟨n, hn⟩ := HW.out
          show ∃ _, _
          rw [hn]; exact dreH2 _ _ _
        · have hne : (x != y) = true := by simpa using hxy
          go_wp2_with fail
          go_quiet (fail)
          go_wp2
          go_ret
          refine ⟨?_, ?_⟩
          · rw [show decide (l = m) = false from by simpa using HS.out.2 hxy]; rfl
          · obtain ⟨n, hn⟩ := HW.out
            rw [hn]; exact dreH2 _ _ _
      · obtain rfl : k = N := by omega
        go_wp2
        go_ret
        refine ⟨?_, HW.out⟩
        have h1 := HT.out
        rw [List.take_of_length_le (by have := HN.out; omega), List.take_of_length_le (by have := HL.out; have := HN.out; omega)] at h1
        rw [h1]; simp
  · have hne : ((l.length : Int) != (m.length : Int)) = true := by simp; omega
    have HV : Hid (decide (l = m) = false) := by show _ = _; simp; intro h; exact hlen (by rw [h])
    generalize decide (l = m) = b at *
    clear hA hA2 hlen
    generalize l.length = N at *
    generalize m.length = M at *
    go_enter Try.func19, Try.ntmps19
    go_wp2
    go_ret
    exact ⟨by rw [HV.out]; rfl, 0, rfl⟩

theorem lf1 : fracs 4 = (25, 12, 0) := by decide +kernel
theorem lf2 : lowN 3 = 1968526677 := by decide +kernel
theorem lf3 : highN 3 = 1968526678 := by decide +kernel
theorem lf4 : normN 2 = 1073741824 := by decide +kernel
theorem lf5 : (tabL 3).getD 2 0 = 1073741824 := by decide +kernel
set_option maxHeartbeats 2000000 in
theorem lives5 (w : World) : Calls Try.prog 22 #[] w fun e w' => e = .returned (.bool true) ∧ Below w.heap.size w w' := by
  have K1 := Lib.hid (harm_frac 4)
  have K2 := Lib.hid (harm_table 2)
  have K3 := Lib.hid (harm_low 3)
  have K4 := Lib.hid (harm_high 3)
  have K5 := Lib.hid (harm_norm 2)
  rw [show heldN 4 = 4 from rfl, lf1] at K1
  rw [show heldN 2 + 1 = 3 from rfl] at K2
  rw [show heldN 3 = 3 from rfl, lf2] at K3
  rw [show heldN 3 = 3 from rfl, lf3] at K4
  rw [show heldN 2 = 2 from rfl, lf4] at K5
  go_enter Try.func22, Try.ntmps22
  go_wp2_with fail
  refine (K1.out _).mono ?_
  rintro e w1 ⟨rfl, b1⟩
  go_wp2_with fail
  refine (K2.out _).mono ?_
  rintro e w2 ⟨A, c, rfl, hL, b2⟩
  obtain ⟨ad, rfl, hadb, hcell⟩ := lies_at hL (k := 2) (by simp [tabL_len])
  rw [lf5] at hcell
  rw [tabL_len]
  have X1 := Box.new w1 #[.int .i64 25, .int .i64 12] 38
  have c1 := b1.alloc b1.size (.cells #[.int .i64 25, .int .i64 12] 38)
  have X2 := X1.below b2 X1.lt
  have c2 := c1.trans (b2.mono c1.size)
  go_wp2_with fail
  refine (K3.out _).mono ?_
  rintro e w3 ⟨rfl, b3⟩
  have c3 := c2.trans (b3.mono c2.size)
  go_wp2_with fail
  refine (K4.out _).mono ?_
  rintro e w4 ⟨rfl, b4⟩
  have c4 := c3.trans (b4.mono c3.size)
  have X4 := (X2.below b3 X2.lt).below b4 (X2.below b3 X2.lt).lt
  replace hcell := (b4.cell (by have := b3.size; rw [add_block]; omega)).trans ((b3.cell (by rw [add_block]; exact hadb)).trans hcell)
  obtain ⟨x0, x1, _, _⟩ := X4.two
  have hc2 : w4.cell? ⟨ad.block, ad.off + 2, none⟩ = some (.int .i64 1073741824) := by rw [← hcell]; simp [Addr.add]
  go_wp2_with fail
  refine (K5.out _).mono ?_
  rintro e w5 ⟨rfl, b5⟩
  have c5 := c4.trans (b5.mono c4.size)
  go_wp2
  go_ret
  exact ⟨rfl, c5⟩
end Go.Proofs.Ytihfhdnldpjjdaa
