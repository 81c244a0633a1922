/- Layer 22 (item): ways to work, in the reference: numbers, Conf, GetConf; what was read without an error is written as the bytes that were read. -/
import Derived.Test.YtpoemflclbhekaaItmV
import Derived.Test.YtpoemflclbhekaaItmRf
import Derived.Test.YtpoemflclbhekaaItmO
import Derived.Test.YtpoemflclbhekaaBinRf
namespace Go.Proofs.Ytpoemflclbhekaa
open Go.RowKit
set_option linter.unusedVariables false
set_option linter.unusedSimpArgs false

theorem rdC_one {b : List Int} (hb : byt b) : ∀ n, (rdC b n (0, 0)).1.2 = 0 → (n = 0 ∨ 0 < (rdC b n (0, 0)).1.1) ∧ (rdC b n (0, 0)).1.1 ≤ b.length ∧ nB (rdC b n (0, 0)).2 = b.take (rdC b n (0, 0)).1.1
  | 0, _ => ⟨.inl rfl, Nat.zero_le _, by simp [rdC, nB]⟩
  | n + 1, h => by
    have h : (rN b (rdC b n (0, 0)).1.1 (rdC b n (0, 0)).1.2 1099511627776).1.2 = 0 := h
    obtain ⟨g0, g1, g2, g3⟩ := at_N hb h
    obtain ⟨-, i2, i3⟩ := rdC_one hb n g0
    refine ⟨.inr (by show 0 < (rN b (rdC b n (0, 0)).1.1 (rdC b n (0, 0)).1.2 1099511627776).1.1; omega), g2, ?_⟩
    show nB ((rdC b n (0, 0)).2 ++ [((rN b (rdC b n (0, 0)).1.1 (rdC b n (0, 0)).1.2 1099511627776).2 : Int)]) = b.take (rN b (rdC b n (0, 0)).1.1 (rdC b n (0, 0)).1.2 1099511627776).1.1
    unfold nB at i3 ⊢
    rw [List.flatMap_append, i3, List.flatMap_cons, List.flatMap_nil, List.append_nil, Int.toNat_natCast, g3]
    have := take_two b (Nat.zero_le (rdC b n (0, 0)).1.1) (Nat.le_of_lt g1)
    simpa using this.symm
theorem gC_one {b : List Int} (hb : byt b) (h : (gC b (0, 0)).1.2 = 0) : 0 < (gC b (0, 0)).1.1 ∧ (gC b (0, 0)).1.1 ≤ b.length ∧ cW (gC b (0, 0)).2 = b.take (gC b (0, 0)).1.1 := by
  have h : chkF (okCf (rdC b 11 (0, 0)).2) (rdC b 11 (0, 0)).1.2 = 0 := h
  obtain ⟨hr, h0⟩ := chk_zero h
  obtain ⟨i1, i2, i3⟩ := rdC_one hb 11 h0
  refine ⟨i1.resolve_left (by omega), i2, ?_⟩
  show cW (if chkF (okCf (rdC b 11 (0, 0)).2) (rdC b 11 (0, 0)).1.2 = 0 then (rdC b 11 (0, 0)).2 else List.replicate 11 0) = b.take (rdC b 11 (0, 0)).1.1
  rw [if_pos h]
  unfold cW
  rw [if_pos hr, i3]
theorem gC_len (b : List Int) (s : Nat × Int) : (gC b s).2.length = 11 := by
  show (if _ then (rdC b 11 s).2 else List.replicate 11 0).length = 11
  split
  · exact rdC_len b s 11
  · simp
set_option maxRecDepth 100000 in
set_option maxHeartbeats 4000000 in
theorem ref_numbersC (L : List Int) (hL : L.length = 11) (w : World) : Calls Try.prog 92 #[cV L] w fun e w' => (∃ A, e = .returned (.slice A 11 11) ∧ Lies w' w'.heap.size A L) ∧ Below w.heap.size w w' := by
  obtain ⟨c0, c1, c2, c3, c4, c5, c6, c7, c8, c9, c10, rfl⟩ := eleven_of hL
  rw [show cV [c0, c1, c2, c3, c4, c5, c6, c7, c8, c9, c10] = .agg #[.int .i64 c0, .int .i64 c1, .int .i64 c2, .int .i64 c3, .int .i64 c4, .int .i64 c5, .int .i64 c6, .int .i64 c7, .int .i64 c8, .int .i64 c9, .int .i64 c10] from rfl]
  obtain ⟨x0, x1, x2, x3, x4, x5, x6, x7, x8, x9, x10⟩ := box11 (Box.new w #[.int .i64 c0, .int .i64 c1, .int .i64 c2, .int .i64 c3, .int .i64 c4, .int .i64 c5, .int .i64 c6, .int .i64 c7, .int .i64 c8, .int .i64 c9, .int .i64 c10] 23)
  have hb := (Below.refl w.heap.size w).alloc (Nat.le_refl _) (.cells #[.int .i64 c0, .int .i64 c1, .int .i64 c2, .int .i64 c3, .int .i64 c4, .int .i64 c5, .int .i64 c6, .int .i64 c7, .int .i64 c8, .int .i64 c9, .int .i64 c10] 23)
  have HB := Lib.hid (hb.alloc hb.size (.cells #[.int .i64 c0, .int .i64 c1, .int .i64 c2, .int .i64 c3, .int .i64 c4, .int .i64 c5, .int .i64 c6, .int .i64 c7, .int .i64 c8, .int .i64 c9, .int .i64 c10] 3))
  have hn := Box.new (w.alloc (.cells #[.int .i64 c0, .int .i64 c1, .int .i64 c2, .int .i64 c3, .int .i64 c4, .int .i64 c5, .int .i64 c6, .int .i64 c7, .int .i64 c8, .int .i64 c9, .int .i64 c10] 23)) #[.int .i64 c0, .int .i64 c1, .int .i64 c2, .int .i64 c3, .int .i64 c4, .int .i64 c5, .int .i64 c6, .int .i64 c7, .int .i64 c8, .int .i64 c9, .int .i64 c10] 3
  rw [alloc_size'] at hn
  have HN : Hid (Lies ((w.alloc (.cells #[.int .i64 c0, .int .i64 c1, .int .i64 c2, .int .i64 c3, .int .i64 c4, .int .i64 c5, .int .i64 c6, .int .i64 c7, .int .i64 c8, .int .i64 c9, .int .i64 c10] 23)).alloc (.cells #[.int .i64 c0, .int .i64 c1, .int .i64 c2, .int .i64 c3, .int .i64 c4, .int .i64 c5, .int .i64 c6, .int .i64 c7, .int .i64 c8, .int .i64 c9, .int .i64 c10] 3)) ((w.alloc (.cells #[.int .i64 c0, .int .i64 c1, .int .i64 c2, .int .i64 c3, .int .i64 c4, .int .i64 c5, .int .i64 c6, .int .i64 c7, .int .i64 c8, .int .i64 c9, .int .i64 c10] 23)).alloc (.cells #[.int .i64 c0, .int .i64 c1, .int .i64 c2, .int .i64 c3, .int .i64 c4, .int .i64 c5, .int .i64 c6, .int .i64 c7, .int .i64 c8, .int .i64 c9, .int .i64 c10] 3)).heap.size (some ⟨w.heap.size + 1, 0, none⟩) [c0, c1, c2, c3, c4, c5, c6, c7, c8, c9, c10]) := boxLies hn rfl
  clear hb hn
  go_enter Try.func92, Try.ntmps92
  go_wp2
  go_ret
  exact ⟨⟨_, rfl, HN.out⟩, HB.out⟩
set_option maxRecDepth 100000 in
set_option maxHeartbeats 4000000 in
theorem ref_Conf (L : List Int) (hL : L.length = 11) (w : World) : Calls Try.prog 18 #[cV L] w (GivesY (cW L) w) := by
  have hbd := @okC_bd L hL
  have HLEN : Hid (∀ k, okCf L = true → (nB (L.take k)).length ≤ 99) := fun k h => by
    have := nB_len (L.take k) (fun x hx => hbd h x (List.mem_of_mem_take hx))
    rw [List.length_take] at this
    omega
  have HST : Hid (∀ k, k < 11 → nB (L.take (k + 1)) = nB (L.take k) ++ uB (L.getD k 0).toNat) := fun k h => by
    rw [List.take_add_one, List.getD_eq_getElem?_getD, List.getElem?_eq_getElem (by omega)]
    unfold nB
    rw [List.flatMap_append]
    simp
  have HFIN : Hid (nB (L.take 11) = nB L) := by show _ = _; rw [← hL, List.take_length]
  have HMEM : Hid (∀ k, k < 11 → okCf L = true → 0 ≤ L.getD k 0 ∧ L.getD k 0 < 9223372036854775808) := fun k h hr => by
    refine hbd hr _ ?_
    rw [List.getD_eq_getElem?_getD, List.getElem?_eq_getElem (by omega)]; exact List.getElem_mem _
  have KN := Lib.hid (fun W => ref_numbersC L hL W)
  have HL := Lib.hid hL
  have KR : Hid (∀ W, Calls Try.prog 91 #[cV L] W fun e w' => e = .returned (.bool (okCf L)) ∧ Below W.heap.size W w') := fun W => by
    obtain ⟨c0, c1, c2, c3, c4, c5, c6, c7, c8, c9, c10, rfl⟩ := eleven_of hL
    exact ref20_Right c0 c1 c2 c3 c4 c5 c6 c7 c8 c9 c10 W
  have HB := Lib.hid ((Below.refl w.heap.size w).alloc (Nat.le_refl _) (.cells (litI L).toArray 23))
  have HX := Lib.hid (Box.new w (litI L).toArray 23)
  obtain ⟨c0, c1, c2, c3, c4, c5, c6, c7, c8, c9, c10, hLc⟩ := eleven_of hL
  rw [show cV L = .agg #[.int .i64 c0, .int .i64 c1, .int .i64 c2, .int .i64 c3, .int .i64 c4, .int .i64 c5, .int .i64 c6, .int .i64 c7, .int .i64 c8, .int .i64 c9, .int .i64 c10] from by rw [hLc]; rfl] at KN KR ⊢
  rw [show (litI L).toArray = #[.int .i64 c0, .int .i64 c1, .int .i64 c2, .int .i64 c3, .int .i64 c4, .int .i64 c5, .int .i64 c6, .int .i64 c7, .int .i64 c8, .int .i64 c9, .int .i64 c10] from by rw [hLc]; rfl] at HB HX
  obtain ⟨x0, x1, x2, x3, x4, x5, x6, x7, x8, x9, x10⟩ := box11 HX.out
  obtain ⟨DD, hDD⟩ : ∃ DD, DD = cW L := ⟨_, rfl⟩
  rw [← hDD]
  have HZ1 : Hid (okCf L = true → DD = nB L) := fun h => by rw [hDD]; unfold cW; rw [if_pos h]
  have HZ0 : Hid (okCf L = false → DD = []) := fun h => by rw [hDD]; unfold cW; rw [h]; rfl
  clear hbd hL hLc hDD
  go_enter Try.func18, Try.ntmps18
  go_wp2_with fail
  refine (KR.out _).mono ?_
  rintro e w1 ⟨rfl, h1⟩
  have HX := Lib.hid (HX.out.below h1 HX.out.lt)
  have HB := Lib.hid (HB.out.trans (h1.mono HB.out.size))
  clear h1 KR x0 x1 x2 x3 x4 x5 x6 x7 x8 x9 x10
  cases hok : okCf L
  · clear HLEN HMEM
    have HZ : Hid (DD = []) := HZ0.out hok
    clear hok HZ0 HZ1
    go_wp2
    go_ret
    rw [HZ.out]
    exact ⟨⟨_, rfl, OwnsY.nil _ _⟩, HB.out⟩
  · have HZ : Hid (DD = nB L) := HZ1.out hok
    have HLEN : Hid (∀ k, (nB (L.take k)).length ≤ 99) := fun k => HLEN.out k hok
    have HMEM : Hid (∀ k, k < 11 → 0 ≤ L.getD k 0 ∧ L.getD k 0 < 9223372036854775808) := fun k h => HMEM.out k h hok
    clear hok HZ0 HZ1
    obtain ⟨x0, x1, x2, x3, x4, x5, x6, x7, x8, x9, x10⟩ := box11 HX.out
    generalize nB L = D at *
    go_wp2_with fail
    refine (KN.out _).mono ?_
    rintro e w2 ⟨⟨A4, rfl, hli⟩, h1⟩
    have hb := HB.out.trans (h1.mono HB.out.size)
    have HLI := Lib.hid hli
    have HSZ := Lib.hid (Nat.le_refl w2.heap.size)
    clear h1 HX HB KN hli x0 x1 x2 x3 x4 x5 x6 x7 x8 x9 x10
    go_wp2
    go_loopw [3, 5] (fun v iv wr => ∃ i : Nat, iv = .int .i64 (i : Nat) ∧ i ≤ 11 ∧ Hid (OwnsY wr w2.heap.size v (nB (L.take i))) ∧ Hid (Below w2.heap.size w2 wr)) (fun _ iv _ => 11 - (intOf iv).toNat)
    case atStart => exact ⟨0, rfl, Nat.zero_le _, (by rw [List.take_zero]; exact OwnsY.nil _ _), Below.refl _ _⟩
    case round =>
      obtain ⟨i, rfl, hi1, HO, HB⟩ := hrel
      by_cases h0 : i < 11
      · have hig : (i : Int) < 11 := by omega
        obtain ⟨ad, eA, hbk, hc⟩ := HLI.out (by rw [HL.out]; omega)
        have hcc : wr.cell? (ad.add i) = _ := (HB.out.cell (by rw [add_block]; exact hbk)).trans (hc i (by rw [HL.out]; exact h0))
        subst eA
        have hx := HMEM.out i h0
        have HS := Lib.hid (HST.out i h0)
        have hle := HLEN.out i
        clear hc HST HMEM HLEN
        generalize hxx : L.getD i 0 = x at *
        obtain ⟨n, rfl⟩ := Int.eq_ofNat_of_zero_le hx.1
        rw [Int.toNat_natCast] at HS
        have K := Lib.hid (ref_UY n wr (by omega))
        unfold GivesY at K
        have hun : (n : Int) % 18446744073709551616 = (n : Int) := by omega
        have hu9 := (uB_len (n := n) (by omega)).2
        have HU9 := Lib.hid hu9
        have HLE := Lib.hid hle
        clear hxx hu9 hle
        go_wp2_with fail
        refine (K.out).mono ?_
        rintro e w3 ⟨⟨v2, rfl, g1⟩, g2⟩
        obtain ⟨A3, c3, rfl, -, -, q3, q4, -⟩ := g1.lies
        have HQ3 := Lib.hid q3
        have HQ4 := Lib.hid q4
        have HO2 := Lib.hid (HO.out.below g2)
        have HB2 := Lib.hid (HB.out.trans (g2.mono HB.out.size))
        clear g1 g2 q3 q4 K
        go_wp2_with (at_builtin; refine app_own (B := w2.heap.size) rfl (.tmp 17) (.tmp 23) rfl _ (nB (L.take i)) (uB n) A3 c3 (uB n).length rfl rfl rfl HQ4.out HO2.out HQ3.out HB2.out.size (by have := HU9.out; have := HLE.out; omega) ?_; intro v4 w4 g1 g2; have HO4 := Lib.hid g1; have HB4 := Lib.hid (HB2.out.trans g2); clear g1 g2)
        exact ⟨⟨i + 1, by go_num, by omega, (by show OwnsY _ _ _ _; rw [HS.out]; exact HO4.out), HB4⟩, by simp [intOf]; omega⟩
      · obtain rfl : i = 11 := by omega
        have HO2 := HO.out
        rw [HFIN.out] at HO2
        have HO3 := Lib.hid (ownY_le HO2 hb.size)
        have HB3 := Lib.hid (hb.trans (HB.out.mono hb.size))
        clear HO2 hb
        go_wp2
        go_ret
        rw [HZ.out]
        exact ⟨⟨_, rfl, HO3.out⟩, HB3.out⟩
end Go.Proofs.Ytpoemflclbhekaa
