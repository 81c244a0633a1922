/- Layer 22 (item): seen events written: Seen of the reference. -/
import Derived.Test.YtpoemflclbhekaaGreatSeeB
namespace Go.Proofs.YtpoemflclbhekaaGreat
open Go.RowKit
set_option linter.unusedVariables false
set_option linter.unusedSimpArgs false

set_option maxRecDepth 100000 in
set_option maxHeartbeats 8000000 in
theorem ref_Seen (id : Int) (X : List Int) (A : Option Addr) (c : Nat) (p q : Int) (sc : Bool) (dim : Int) (w : World) (hA : Lies w w.heap.size A X) : Calls Tryz.prog 14 #[.agg #[.int .i64 id, .slice A X.length c, .int .i64 p, .int .i64 q, .bool sc], .int .i64 dim] w (GivesY (eW id X p q sc dim) w) := by
  have hb1 := (Below.refl w.heap.size w).alloc (Nat.le_refl _) (.cells #[.int .i64 id, .slice A X.length c, .int .i64 p, .int .i64 q, .bool sc] 41)
  have HX := Lib.hid (Box.new w #[.int .i64 id, .slice A X.length c, .int .i64 p, .int .i64 q, .bool sc] 41)
  have HB := Lib.hid hb1
  have KR := Lib.hid (ref_RightSeen id X A c p q sc dim (w.alloc (.cells #[.int .i64 id, .slice A X.length c, .int .i64 p, .int .i64 q, .bool sc] 41)) ((hA.below hb1).mono hb1.size))
  have HAX := Lib.hid hA
  obtain ⟨DD, hDD⟩ : ∃ DD, DD = eW id X p q sc dim := ⟨_, rfl⟩
  rw [← hDD]
  have HZ1 : Hid (rsB id X p q sc dim = true → DD = uB id.toNat ++ X.flatMap iB ++ (if sc = true then uB 1 ++ scW p q else uB 0)) := fun h => by rw [hDD]; unfold eW; rw [if_pos h]; rfl
  have HZ0 : Hid (rsB id X p q sc dim = false → DD = []) := fun h => by rw [hDD]; unfold eW; rw [h]; rfl
  have HOK : Hid (rsB id X p q sc dim = true → (0 ≤ id ∧ id < 18446744073709551616) ∧ X.length ≤ 8 ∧ (∀ x ∈ X, I64 x) ∧ (sc = true → (scW p q).length ≤ 18)) := fun h => by
    obtain ⟨h1, h2, h3⟩ := rsB_ok h
    obtain ⟨d1, d2, d3, d4⟩ := isV_iff.1 h2
    exact ⟨by omega, by omega, fun x hx => by have := d4 x hx; unfold I64; omega, fun hs => by unfold scW; rw [if_pos (h3 hs)]; exact scB_len (scoB_ok (h3 hs))⟩
  obtain ⟨x0, x1, x2, x3, x4⟩ := HX.out.five
  clear hA hb1 hDD
  generalize rsB id X p q sc dim = R at *
  cases sc
  case false =>
    cases R
    · have HZ := Lib.hid (HZ0.out rfl)
      clear HZ0 HZ1 HOK HAX
      generalize X.length = N at *
      go_enter Tryz.func14, Tryz.ntmps14
      go_wp2_with fail
      refine (KR.out).mono ?_
      rintro e w1 ⟨rfl, h1⟩
      have HB2 := Lib.hid (HB.out.trans (h1.mono HB.out.size))
      clear h1
      go_wp2
      go_ret
      rw [HZ.out]
      exact ⟨⟨_, rfl, OwnsY.nil _ _⟩, HB2.out⟩
    obtain ⟨hid, hX8, hXi, hsl⟩ := HOK.out rfl
    have HZ := HZ1.out rfl
    obtain ⟨j, rfl⟩ := Int.eq_ofNat_of_zero_le hid.1
    rw [Int.toNat_natCast] at HZ
    have HZ := Lib.hid HZ
    have HSL := Lib.hid hsl
    have hj9 := (uB_len (n := j) (by omega)).2
    have HLEN : Hid (∀ i, (uB j ++ (X.take i).flatMap iB).length ≤ 81) := fun i => by
      have := flat_iB (X.take i) (fun x hx => hXi x (List.mem_of_mem_take hx))
      rw [List.length_take] at this
      show _ ≤ _
      rw [List.length_append]
      omega
    have HST : Hid (∀ i, i < X.length → uB j ++ (X.take (i + 1)).flatMap iB = uB j ++ (X.take i).flatMap iB ++ iB (X.getD i 0)) := fun i h => by
      rw [List.take_add_one, List.getD_eq_getElem?_getD, List.getElem?_eq_getElem h, List.flatMap_append]
      simp
    have HFIN : Hid (uB j ++ (X.take X.length).flatMap iB = uB j ++ X.flatMap iB) := by show _ = _; rw [List.take_length]
    have HI : Hid (∀ i, i < X.length → I64 (X.getD i 0)) := fun i h => hXi _ (by rw [List.getD_eq_getElem?_getD, List.getElem?_eq_getElem h]; exact List.getElem_mem _)
    have HI9 : Hid (∀ x, I64 x → (iB x).length ≤ 9) := fun x hx => by
      have := flat_iB [x] (by intro y hy; rw [List.mem_singleton.1 hy]; exact hx)
      simpa using this
    have KU := Lib.hid (fun W => ref_UY j W (by omega))
    unfold GivesY at KU
    have hun : (j : Int) % 18446744073709551616 = (j : Int) := by omega
    have KSC := Lib.hid (fun W => ref_Score p q W)
    unfold GivesY at KSC
    clear HZ0 HZ1 HOK hid hXi hsl hj9
    generalize hu0 : uB j = u0 at *
    clear hu0
    generalize hN : X.length = N at *
    have HN := Lib.hid hN
    clear hN
    go_enter Tryz.func14, Tryz.ntmps14
    go_wp2_with fail
    refine (KR.out).mono ?_
    rintro e w1 ⟨rfl, h1⟩
    have HX1 := Lib.hid (HX.out.below h1 HX.out.lt)
    have HB1 := Lib.hid (HB.out.trans (h1.mono HB.out.size))
    clear h1 KR x0 x1 x2 x3 x4 HX HB
    obtain ⟨x0, x1, x2, x3, x4⟩ := HX1.out.five
    go_wp2_with fail
    refine (KU.out _).mono ?_
    rintro e w2 ⟨⟨v, rfl, g1⟩, g2⟩
    have HX2 := Lib.hid (HX1.out.below g2 HX1.out.lt)
    have HB2 := Lib.hid (HB1.out.trans (g2.mono HB1.out.size))
    have HO2 : Hid (OwnsY w2 (w.heap.size + 1) v (u0 ++ (X.take 0).flatMap iB)) := by show OwnsY _ _ _ _; rw [List.take_zero]; simpa using ownY_le g1 (show w.heap.size + 1 ≤ w1.heap.size from HX1.out.lt)
    clear g1 g2 KU x0 x1 x2 x3 x4 HX1 HB1
    obtain ⟨x0, x1, x2, x3, x4⟩ := HX2.out.five
    go_wp2
    go_loopw [5, 6] (fun v iv wr => ∃ i : Nat, iv = .int .i64 (i : Nat) ∧ i ≤ N ∧ Hid (OwnsY wr (w.heap.size + 1) v (u0 ++ (X.take i).flatMap iB)) ∧ Hid (Below w.heap.size w wr) ∧ Hid (Box wr w.heap.size #[.int .i64 (j : Nat), .slice A N c, .int .i64 p, .int .i64 q, .bool false] 41)) (fun _ iv _ => N - (intOf iv).toNat)
    case atStart => exact ⟨0, rfl, Nat.zero_le _, HO2, HB2, HX2⟩
    case round =>
      obtain ⟨i, rfl, hi1, HO, HB, HX⟩ := hrel
      clear x0 x1 x2 x3 x4 HX2 HB2 HO2
      obtain ⟨x0, x1, x2, x3, x4⟩ := HX.out.five
      have hsz := HX.out.lt
      by_cases h0 : i < N
      · have hig : (i : Int) < (N : Int) := by omega
        obtain ⟨ad, eA, hbk, hc⟩ := HAX.out (by rw [HN.out]; omega)
        have hcc : wr.cell? (ad.add i) = _ := (HB.out.cell (by rw [add_block]; exact hbk)).trans (hc i (by rw [HN.out]; exact h0))
        subst eA
        have hI := HI.out i h0
        have HS := Lib.hid (HST.out i h0)
        have hle := HLEN.out i
        clear hc HST HI HLEN
        generalize X.getD i 0 = x at *
        have hx9 := HI9.out x hI
        have K := Lib.hid (ref_IY x wr hI)
        unfold GivesY at K
        have HXB := Lib.hid HX.out
        have HLE := Lib.hid hle
        have HX9 := Lib.hid hx9
        clear hle hx9 HX
        go_wp2_with fail
        refine (K.out).mono ?_
        rintro e w3 ⟨⟨v2, rfl, g1⟩, g2⟩
        obtain ⟨A3, c3, rfl, -, -, q3, q4, -⟩ := g1.lies
        have HQ3 := Lib.hid q3
        have HQ4 := Lib.hid q4
        have HO3 := Lib.hid (HO.out.below g2)
        have HB3 := Lib.hid (HB.out.trans (g2.mono HB.out.size))
        have HX3 := Lib.hid (HXB.out.below g2 HXB.out.lt)
        have HS3 := Lib.hid (Nat.le_trans (show w.heap.size + 1 ≤ wr.heap.size from hsz) g2.size)
        clear g1 g2 q3 q4 K
        go_wp2_with (at_builtin; refine app_own (B := w.heap.size + 1) rfl (.tmp 22) (.tmp 28) rfl _ (u0 ++ (X.take i).flatMap iB) (iB x) A3 c3 (iB x).length rfl rfl rfl HQ4.out HO3.out HQ3.out HS3.out (by have := HX9.out; have := HLE.out; omega) ?_; intro v4 w4 g1 g2; have HO4 := Lib.hid g1; have HB4 := Lib.hid (HB3.out.trans (g2.mono (by omega))); have HX4 := Lib.hid (HX3.out.below g2 (by omega)); clear g1 g2)
        exact ⟨⟨i + 1, by go_num, by omega, (by show OwnsY _ _ _ _; rw [HS.out]; exact HO4.out), HB4, HX4⟩, by simp [intOf]; omega⟩
      · obtain rfl : i = N := by omega
        have ho := HO.out
        have hle := HLEN.out i
        rw [HFIN.out] at ho hle
        have HO := Lib.hid ho
        have HLE := Lib.hid hle
        clear ho hle HST HI HLEN HFIN HI9
        generalize u0 ++ X.flatMap iB = D at *
        have HZ2 : Hid (DD = D ++ [0]) := HZ.out.trans (by rw [u01.1]; rfl)
        clear HZ KSC HSL
        have hal := (Below.refl wr.heap.size wr).alloc (Nat.le_refl _) (.cells #[.int .u8 0] 5)
        have HO5 := Lib.hid (HO.out.below hal)
        have HB5 := Lib.hid (HB.out.trans (hal.mono HB.out.size))
        have HS5 := Lib.hid (Nat.le_trans (show w.heap.size + 1 ≤ wr.heap.size from hsz) hal.size)
        have HL5 : Hid (LiesY (wr.alloc (.cells #[.int .u8 0] 5)) (wr.alloc (.cells #[.int .u8 0] 5)).heap.size (some ⟨wr.heap.size, 0, none⟩) [0]) := box_liesY (heap_alloc_new wr (.cells #[.int .u8 0] 5)) rfl
        clear hal HX
        go_wp2_with (at_builtin; refine app_own (B := w.heap.size + 1) rfl (.tmp 33) (.tmp 34) rfl _ D [0] (some ⟨wr.heap.size, 0, none⟩) 1 1 rfl rfl rfl (fun e => by cases e) HO5.out HL5.out HS5.out (by have := HLE.out; omega) ?_; intro v4 w4 g1 g2; have HO6 := Lib.hid (ownY_le g1 (Nat.le_succ _)); have HB6 := Lib.hid (HB5.out.trans (g2.mono (Nat.le_succ _))); clear g1 g2)
        go_ret
        rw [HZ2.out]
        exact ⟨⟨_, rfl, HO6.out⟩, HB6.out⟩
  case true =>
    cases R
    · have HZ := Lib.hid (HZ0.out rfl)
      clear HZ0 HZ1 HOK HAX
      generalize X.length = N at *
      go_enter Tryz.func14, Tryz.ntmps14
      go_wp2_with fail
      refine (KR.out).mono ?_
      rintro e w1 ⟨rfl, h1⟩
      have HB2 := Lib.hid (HB.out.trans (h1.mono HB.out.size))
      clear h1
      go_wp2
      go_ret
      rw [HZ.out]
      exact ⟨⟨_, rfl, OwnsY.nil _ _⟩, HB2.out⟩
    obtain ⟨hid, hX8, hXi, hsl⟩ := HOK.out rfl
    have HZ := HZ1.out rfl
    obtain ⟨j, rfl⟩ := Int.eq_ofNat_of_zero_le hid.1
    rw [Int.toNat_natCast] at HZ
    have HZ := Lib.hid HZ
    have HSL := Lib.hid hsl
    have hj9 := (uB_len (n := j) (by omega)).2
    have HLEN : Hid (∀ i, (uB j ++ (X.take i).flatMap iB).length ≤ 81) := fun i => by
      have := flat_iB (X.take i) (fun x hx => hXi x (List.mem_of_mem_take hx))
      rw [List.length_take] at this
      show _ ≤ _
      rw [List.length_append]
      omega
    have HST : Hid (∀ i, i < X.length → uB j ++ (X.take (i + 1)).flatMap iB = uB j ++ (X.take i).flatMap iB ++ iB (X.getD i 0)) := fun i h => by
      rw [List.take_add_one, List.getD_eq_getElem?_getD, List.getElem?_eq_getElem h, List.flatMap_append]
      simp
    have HFIN : Hid (uB j ++ (X.take X.length).flatMap iB = uB j ++ X.flatMap iB) := by show _ = _; rw [List.take_length]
    have HI : Hid (∀ i, i < X.length → I64 (X.getD i 0)) := fun i h => hXi _ (by rw [List.getD_eq_getElem?_getD, List.getElem?_eq_getElem h]; exact List.getElem_mem _)
    have HI9 : Hid (∀ x, I64 x → (iB x).length ≤ 9) := fun x hx => by
      have := flat_iB [x] (by intro y hy; rw [List.mem_singleton.1 hy]; exact hx)
      simpa using this
    have KU := Lib.hid (fun W => ref_UY j W (by omega))
    unfold GivesY at KU
    have hun : (j : Int) % 18446744073709551616 = (j : Int) := by omega
    have KSC := Lib.hid (fun W => ref_Score p q W)
    unfold GivesY at KSC
    clear HZ0 HZ1 HOK hid hXi hsl hj9
    generalize hu0 : uB j = u0 at *
    clear hu0
    generalize hN : X.length = N at *
    have HN := Lib.hid hN
    clear hN
    go_enter Tryz.func14, Tryz.ntmps14
    go_wp2_with fail
    refine (KR.out).mono ?_
    rintro e w1 ⟨rfl, h1⟩
    have HX1 := Lib.hid (HX.out.below h1 HX.out.lt)
    have HB1 := Lib.hid (HB.out.trans (h1.mono HB.out.size))
    clear h1 KR x0 x1 x2 x3 x4 HX HB
    obtain ⟨x0, x1, x2, x3, x4⟩ := HX1.out.five
    go_wp2_with fail
    refine (KU.out _).mono ?_
    rintro e w2 ⟨⟨v, rfl, g1⟩, g2⟩
    have HX2 := Lib.hid (HX1.out.below g2 HX1.out.lt)
    have HB2 := Lib.hid (HB1.out.trans (g2.mono HB1.out.size))
    have HO2 : Hid (OwnsY w2 (w.heap.size + 1) v (u0 ++ (X.take 0).flatMap iB)) := by show OwnsY _ _ _ _; rw [List.take_zero]; simpa using ownY_le g1 (show w.heap.size + 1 ≤ w1.heap.size from HX1.out.lt)
    clear g1 g2 KU x0 x1 x2 x3 x4 HX1 HB1
    obtain ⟨x0, x1, x2, x3, x4⟩ := HX2.out.five
    go_wp2
    go_loopw [5, 6] (fun v iv wr => ∃ i : Nat, iv = .int .i64 (i : Nat) ∧ i ≤ N ∧ Hid (OwnsY wr (w.heap.size + 1) v (u0 ++ (X.take i).flatMap iB)) ∧ Hid (Below w.heap.size w wr) ∧ Hid (Box wr w.heap.size #[.int .i64 (j : Nat), .slice A N c, .int .i64 p, .int .i64 q, .bool true] 41)) (fun _ iv _ => N - (intOf iv).toNat)
    case atStart => exact ⟨0, rfl, Nat.zero_le _, HO2, HB2, HX2⟩
    case round =>
      obtain ⟨i, rfl, hi1, HO, HB, HX⟩ := hrel
      clear x0 x1 x2 x3 x4 HX2 HB2 HO2
      obtain ⟨x0, x1, x2, x3, x4⟩ := HX.out.five
      have hsz := HX.out.lt
      by_cases h0 : i < N
      · have hig : (i : Int) < (N : Int) := by omega
        obtain ⟨ad, eA, hbk, hc⟩ := HAX.out (by rw [HN.out]; omega)
        have hcc : wr.cell? (ad.add i) = _ := (HB.out.cell (by rw [add_block]; exact hbk)).trans (hc i (by rw [HN.out]; exact h0))
        subst eA
        have hI := HI.out i h0
        have HS := Lib.hid (HST.out i h0)
        have hle := HLEN.out i
        clear hc HST HI HLEN
        generalize X.getD i 0 = x at *
        have hx9 := HI9.out x hI
        have K := Lib.hid (ref_IY x wr hI)
        unfold GivesY at K
        have HXB := Lib.hid HX.out
        have HLE := Lib.hid hle
        have HX9 := Lib.hid hx9
        clear hle hx9 HX
        go_wp2_with fail
        refine (K.out).mono ?_
        rintro e w3 ⟨⟨v2, rfl, g1⟩, g2⟩
        obtain ⟨A3, c3, rfl, -, -, q3, q4, -⟩ := g1.lies
        have HQ3 := Lib.hid q3
        have HQ4 := Lib.hid q4
        have HO3 := Lib.hid (HO.out.below g2)
        have HB3 := Lib.hid (HB.out.trans (g2.mono HB.out.size))
        have HX3 := Lib.hid (HXB.out.below g2 HXB.out.lt)
        have HS3 := Lib.hid (Nat.le_trans (show w.heap.size + 1 ≤ wr.heap.size from hsz) g2.size)
        clear g1 g2 q3 q4 K
        go_wp2_with (at_builtin; refine app_own (B := w.heap.size + 1) rfl (.tmp 22) (.tmp 28) rfl _ (u0 ++ (X.take i).flatMap iB) (iB x) A3 c3 (iB x).length rfl rfl rfl HQ4.out HO3.out HQ3.out HS3.out (by have := HX9.out; have := HLE.out; omega) ?_; intro v4 w4 g1 g2; have HO4 := Lib.hid g1; have HB4 := Lib.hid (HB3.out.trans (g2.mono (by omega))); have HX4 := Lib.hid (HX3.out.below g2 (by omega)); clear g1 g2)
        exact ⟨⟨i + 1, by go_num, by omega, (by show OwnsY _ _ _ _; rw [HS.out]; exact HO4.out), HB4, HX4⟩, by simp [intOf]; omega⟩
      · obtain rfl : i = N := by omega
        have ho := HO.out
        have hle := HLEN.out i
        rw [HFIN.out] at ho hle
        have HO := Lib.hid ho
        have HLE := Lib.hid hle
        clear ho hle HST HI HLEN HFIN HI9
        generalize u0 ++ X.flatMap iB = D at *
        have HZ2 : Hid (DD = D ++ [1] ++ scW p q) := HZ.out.trans (by rw [u01.2]; simp)
        have HSL2 : Hid ((scW p q).length ≤ 18) := by show _ ≤ _; exact HSL.out (by trivial)
        clear HZ HSL
        have hal := (Below.refl wr.heap.size wr).alloc (Nat.le_refl _) (.cells #[.int .u8 1] 5)
        have HO5 := Lib.hid (HO.out.below hal)
        have HB5 := Lib.hid (HB.out.trans (hal.mono HB.out.size))
        have HX5 := Lib.hid (HX.out.below hal HX.out.lt)
        have HS5 := Lib.hid (Nat.le_trans (show w.heap.size + 1 ≤ wr.heap.size from hsz) hal.size)
        have HL5 : Hid (LiesY (wr.alloc (.cells #[.int .u8 1] 5)) (wr.alloc (.cells #[.int .u8 1] 5)).heap.size (some ⟨wr.heap.size, 0, none⟩) [1]) := box_liesY (heap_alloc_new wr (.cells #[.int .u8 1] 5)) rfl
        clear hal HX
        go_wp2_with (at_builtin; refine app_own (B := w.heap.size + 1) rfl (.tmp 37) (.tmp 38) rfl _ D [1] (some ⟨wr.heap.size, 0, none⟩) 1 1 rfl rfl rfl (fun e => by cases e) HO5.out HL5.out HS5.out (by have := HLE.out; omega) ?_; intro v4 w4 g1 g2; have HO6 := Lib.hid g1; have HB6 := Lib.hid (HB5.out.trans (g2.mono (Nat.le_succ _))); have HX6 := Lib.hid (HX5.out.below g2 (Nat.lt_succ_self _)); have HS6 := Lib.hid (Nat.le_trans HS5.out g2.size); clear g1 g2; obtain ⟨z0, z1, z2, z3, z4⟩ := HX6.out.five)
        refine (KSC.out _).mono ?_
        rintro e w5 ⟨⟨v2, rfl, g1⟩, g2⟩
        obtain ⟨A3, c3, rfl, -, -, q3, q4, -⟩ := g1.lies
        have HQ3 := Lib.hid q3
        have HQ4 := Lib.hid q4
        have HO7 := Lib.hid (HO6.out.below g2)
        have HB7 := Lib.hid (HB6.out.trans (g2.mono HB6.out.size))
        have HS7 := Lib.hid (Nat.le_trans HS6.out g2.size)
        clear g1 g2 q3 q4
        go_wp2_with (at_builtin; refine app_own (B := w.heap.size + 1) rfl (.tmp 40) (.tmp 43) rfl _ (D ++ [1]) (scW p q) A3 c3 (scW p q).length rfl rfl rfl HQ4.out HO7.out HQ3.out HS7.out (by have := HLE.out; have := HSL2.out; simp; omega) ?_; intro v5 w6 g1 g2; have HO8 := Lib.hid (ownY_le g1 (Nat.le_succ _)); have HB8 := Lib.hid (HB7.out.trans (g2.mono (Nat.le_succ _))); clear g1 g2)
        go_ret
        rw [HZ2.out]
        exact ⟨⟨_, rfl, HO8.out⟩, HB8.out⟩
end Go.Proofs.YtpoemflclbhekaaGreat
