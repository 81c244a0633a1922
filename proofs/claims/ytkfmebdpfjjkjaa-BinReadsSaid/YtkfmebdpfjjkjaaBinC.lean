/- Layer 21 (bin): U, I, Text, Ints, on both sides. -/
import Derived.Test.YtkfmebdpfjjkjaaBinB
namespace Go.Proofs.Ytkfmebdpfjjkjaa
open Go.RowKit
set_option linter.unusedVariables false
set_option linter.unusedSimpArgs false

theorem bin_number (B : Nat) (v : Value) (l : List Int) (n : Nat) (w : World) (hst : StY w B v l) (hB : B ≤ w.heap.size) (hl : l.length ≤ 100000000) (hn2 : n < 18446744073709551616) :
    Calls Try.prog 132 #[v, .int .u64 n] w fun e w' => (∃ v', e = .returned v' ∧ OwnsY w' B v' (l ++ uB n)) ∧ Below B w w' := by
  by_cases h : n < 240
  · exact bin_number_small B v l n w hst hB hl h
  · exact bin_number_great B v l n w hst hB hl h hn2
set_option maxRecDepth 100000 in
set_option maxHeartbeats 2000000 in
theorem bin_signed (B : Nat) (v : Value) (l : List Int) (i : Int) (w : World) (hst : StY w B v l) (hB : B ≤ w.heap.size) (hl : l.length ≤ 100000000) (hi : I64 i) :
    Calls Try.prog 129 #[v, .int .i64 i] w fun e w' => (∃ v', e = .returned v' ∧ OwnsY w' B v' (l ++ iB i)) ∧ Below B w w' := by
  have K1 := Lib.hid (fun W => bin_folded i hi W)
  have K2 := Lib.hid (bin_number B v l (fold i) w hst hB hl (fold_bd hi))
  have HI : Hid (iB i = uB (fold i)) := rfl
  generalize uB (fold i) = U at *
  generalize iB i = J at *
  generalize fold i = n at *
  clear hst
  go_enter Try.func129, Try.ntmps129
  go_wp2_with fail
  refine (K1.out _).mono ?_
  rintro e w' ⟨rfl, rfl⟩
  go_wp2_with fail
  refine (K2.out).mono ?_
  rintro e w1 ⟨⟨v', rfl, h1⟩, h2⟩
  have H1 := Lib.hid h1
  have H2 := Lib.hid h2
  clear h1 h2
  go_wp2
  go_ret
  rw [HI.out]
  exact ⟨⟨_, rfl, H1.out⟩, H2.out⟩
set_option maxRecDepth 100000 in
set_option maxHeartbeats 2000000 in
theorem bin_U (l : List Int) (A : Option Addr) (c n : Nat) (w : World) (hA : LiesY w w.heap.size A l) (hc : l.length ≤ c) (hl : l.length ≤ 100000000) (hn : n < 18446744073709551616) :
    Calls Try.prog 70 #[.slice A l.length c, .int .u64 n] w (GivesY (l ++ uB n) w) := by
  have K1 := Lib.hid (bin_bare l A c w hA hc)
  have K2 := Lib.hid (fun A' (h : LiesY w w.heap.size A' l) => bin_number w.heap.size (.slice A' l.length l.length) l n w (.inr ⟨A', rfl, h⟩) (Nat.le_refl _) hl hn)
  clear hA
  unfold GivesY
  generalize l ++ uB n = U at *
  generalize l.length = N at *
  go_enter Try.func70, Try.ntmps70
  go_wp2_with fail
  refine (K1.out).mono ?_
  rintro e w' ⟨⟨A', rfl, h1⟩, rfl⟩
  have KK := Lib.hid (K2.out A' h1)
  clear h1
  go_wp2_with fail
  refine (KK.out).mono ?_
  rintro e w1 ⟨⟨v', rfl, h1⟩, h2⟩
  have H1 := Lib.hid h1
  have H2 := Lib.hid h2
  clear h1 h2
  go_wp2
  go_ret
  exact ⟨⟨_, rfl, H1.out⟩, H2.out⟩
set_option maxRecDepth 100000 in
set_option maxHeartbeats 2000000 in
theorem bin_I (l : List Int) (A : Option Addr) (c : Nat) (i : Int) (w : World) (hA : LiesY w w.heap.size A l) (hc : l.length ≤ c) (hl : l.length ≤ 100000000) (hi : I64 i) :
    Calls Try.prog 69 #[.slice A l.length c, .int .i64 i] w (GivesY (l ++ iB i) w) := by
  have K1 := Lib.hid (bin_bare l A c w hA hc)
  have K2 := Lib.hid (fun A' (h : LiesY w w.heap.size A' l) => bin_signed w.heap.size (.slice A' l.length l.length) l i w (.inr ⟨A', rfl, h⟩) (Nat.le_refl _) hl hi)
  clear hA
  unfold GivesY
  generalize l ++ iB i = U at *
  generalize l.length = N at *
  go_enter Try.func69, Try.ntmps69
  go_wp2_with fail
  refine (K1.out).mono ?_
  rintro e w' ⟨⟨A', rfl, h1⟩, rfl⟩
  have KK := Lib.hid (K2.out A' h1)
  clear h1
  go_wp2_with fail
  refine (KK.out).mono ?_
  rintro e w1 ⟨⟨v', rfl, h1⟩, h2⟩
  have H1 := Lib.hid h1
  have H2 := Lib.hid h2
  clear h1 h2
  go_wp2
  go_ret
  exact ⟨⟨_, rfl, H1.out⟩, H2.out⟩
set_option maxRecDepth 100000 in
set_option maxHeartbeats 2000000 in
theorem bin_text1 (B : Nat) (v : Value) (l : List Int) (d : Int) (w : World) (hst : OwnsY w B v l) (hB : B ≤ w.heap.size) (hl : l.length ≤ 100000000) :
    Calls Try.prog 131 #[v, .int .u8 d] w fun e w' => (∃ v', e = .returned v' ∧ OwnsY w' B v' (l ++ [d])) ∧ Below B w w' := by
  go_enter Try.func131, Try.ntmps131
  go_wp2_with (at_builtin; refine app_y1 rfl (.tmp 5) (.tmp 7) rfl v l d rfl (.inl hst) rfl hB (by omega) ?_; intro v' w' h1 h2)
  go_ret
  exact ⟨⟨_, rfl, h1⟩, h2⟩
set_option maxRecDepth 100000 in
set_option maxHeartbeats 4000000 in
theorem bin_list_byte (B B2 : Nat) (v : Value) (l y : List Int) (A : Option Addr) (c : Nat) (w : World) (hst : StY w B v l) (hB : B ≤ w.heap.size) (hl : l.length ≤ 1000000) (hy : LiesY w B2 A y) (hB2 : B2 ≤ B) (hyl : y.length ≤ 1000000) :
    Calls Try.prog 130 #[v, .slice A y.length c, .func (.func 131) #[] #[]] w fun e w' => (∃ v', e = .returned v' ∧ OwnsY w' B v' (l ++ tB y)) ∧ Below B w w' := by
  have K1 := Lib.hid (bin_number B v l y.length w hst hB (by omega) (by omega))
  have HY := Lib.hid (fun W (h : Below B w W) => hy.below (h.mono hB2))
  have HTB : Hid (l ++ tB y = (l ++ uB y.length) ++ y) := (by show _ = _; unfold tB; simp)
  have HUL : Hid ((l ++ uB y.length).length ≤ 1000009) := by
    have := uB_len (n := y.length) (by omega)
    show (l ++ uB y.length).length ≤ _
    rw [List.length_append]; omega
  have HTK : Hid (∀ k, k < y.length → y.take (k + 1) = y.take k ++ [y.getD k 0]) := fun k hk => take_get y hk
  have HFU : Hid (y.take y.length = y) := List.take_of_length_le (Nat.le_refl _)
  clear hst hy
  generalize l ++ uB y.length = P at *
  generalize l ++ tB y = R at *
  generalize hM : y.length = M at *
  have HM := Lib.hid hM
  clear hM
  have hw := Lib.hid hB
  go_enter Try.func130, Try.ntmps130
  go_wp2_with fail
  refine (K1.out).mono ?_
  rintro e w1 ⟨⟨v1, rfl, h1⟩, h2⟩
  have HO1 := Lib.hid h1
  have HB1 := Lib.hid h2
  clear h1 h2 K1
  go_wp2
  go_loopw [0, 16] (fun v i wr => ∃ (k : Nat) (z : Value), z = v ∧ k ≤ M ∧ i = .int .i64 k ∧ Hid (OwnsY wr B z (P ++ y.take k)) ∧ Hid (Below B w wr)) (fun _ i _ => M - (intOf i).toNat)
  case atStart => exact ⟨0, _, rfl, by omega, rfl, (by rw [List.take_zero, List.append_nil]; exact HO1), HB1.out⟩
  case round =>
    obtain ⟨k, z, rfl, hk, rfl, HO, HB⟩ := hrel
    clear HO1 HB1
    by_cases hkM : k < M
    · have hkg : (k : Int) < (M : Int) := by omega
      obtain ⟨ad, eA, hab, hc⟩ := HY.out wr HB.out (by have := HM.out; omega)
      subst eA
      have c0 := hc k (by have := HM.out; omega)
      have HT := Lib.hid (HTK.out k (by have := HM.out; omega))
      have hlt : (P ++ y.take k).length ≤ 100000000 := by
        have := HUL.out
        rw [List.length_append, List.length_take]; omega
      generalize y.getD k 0 = d at *
      have hsz := HB.out.size
      have KT := Lib.hid (bin_text1 B z (P ++ y.take k) d wr HO.out (Nat.le_trans hw.out hsz) hlt)
      clear hc HTK hlt
      go_wp2_with fail
      refine (KT.out).mono ?_
      rintro e w2 ⟨⟨v2, rfl, h1⟩, h2⟩
      have HO2 : Hid (OwnsY w2 B v2 (P ++ y.take (k + 1))) := by
        show OwnsY w2 B v2 _
        rw [HT.out, ← List.append_assoc]; exact h1
      have HB2 := Lib.hid (HB.out.trans h2)
      clear h1 h2
      go_wp2
      exact ⟨⟨k + 1, _, rfl, by omega, by go_num, HO2, HB2⟩, by first | (simp [intOf]; done) | (simp [intOf]; omega)⟩
    · obtain rfl : k = M := by omega
      have HR : Hid (OwnsY wr B z R) := by
        have := HO.out
        rw [HFU.out, ← HTB.out] at this
        exact this
      go_wp2
      go_ret
      exact ⟨⟨_, rfl, HR.out⟩, HB.out⟩
end Go.Proofs.Ytkfmebdpfjjkjaa
