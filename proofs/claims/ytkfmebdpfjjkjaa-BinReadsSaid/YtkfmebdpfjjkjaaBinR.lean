/- Layer 21 (bin): the reference's reader: fail, ReadU. -/
import Derived.Test.YtkfmebdpfjjkjaaBinP
import Derived.IntWalk
import Derived.OpenShut
namespace Go.Proofs.Ytkfmebdpfjjkjaa
open Go.RowKit
set_option linter.unusedVariables false
set_option linter.unusedSimpArgs false

theorem Box.three {w : World} {g : Nat} {a b d : Value} {t : TypeId} (h : Box w g #[a, b, d] t) : w.cell? ⟨g, 0, none⟩ = some a ∧ w.cell? ⟨g, 1, none⟩ = some b ∧ w.cell? ⟨g, 2, none⟩ = some d ∧ w.frozen? ⟨g, 0, none⟩ = false ∧ w.frozen? ⟨g, 1, none⟩ = false ∧ w.frozen? ⟨g, 2, none⟩ = false :=
  ⟨h.cell 0, h.cell 1, h.cell 2, h.free 0, h.free 1, h.free 2⟩
set_option maxRecDepth 100000 in
theorem ref_fail21 (A : Option Addr) (N c : Nat) (k e x : Int) (w : World) : Calls Try.prog 141 #[.agg #[.slice A N c, .int .i64 k, .int .i64 e], .int .i64 x] w fun r w' => r = .returned (.agg #[.slice A N c, .int .i64 k, .int .i64 x]) ∧ Below w.heap.size w w' := by
  have hal := ((Below.refl w.heap.size w).alloc (Nat.le_refl _) (.cells #[.slice A N c, .int .i64 k, .int .i64 e] 56))
  go_enter Try.func141, Try.ntmps141
  go_wp2
  refine bodyPost_ret (v := .agg #[.slice A N c, .int .i64 k, .int .i64 x]) (by simp [results, Try.results141, go_sem]) rfl ⟨rfl, ?_⟩
  exact hal.alloc hal.size _
/-- what the reference's U answers -/
def RefU (A : Option Addr) (N c : Nat) (r : (Nat × Int) × Nat) (W : World) (e : Ending) (w' : World) : Prop := e = .returned (.tuple #[.agg #[.slice A N c, .int .i64 (r.1.1 : Nat), .int .i64 r.1.2], .int .u64 (r.2 : Nat)]) ∧ Below W.heap.size W w'
set_option maxRecDepth 100000 in
set_option maxHeartbeats 4000000 in
theorem ref_ReadU_e (b : List Int) (A : Option Addr) (c k : Nat) (e : Int) (w : World) (h : e ≠ 0) : Calls Try.prog 77 #[.agg #[.slice A b.length c, .int .i64 (k : Nat), .int .i64 e]] w (RefU A b.length c (rU b k e) w) := by
  rw [rU_e h]
  unfold RefU
  generalize b.length = N at *
  have hal := ((Below.refl w.heap.size w).alloc (Nat.le_refl _) (.cells #[.slice A N c, .int .i64 (k : Nat), .int .i64 e] 56))
  have heb : (e == 0) = false := by simpa using h
  have hne : (e != 0) = true := by simpa using h
  go_enter Try.func77, Try.ntmps77
  go_wp2
  refine bodyPost_ret (v := .tuple #[.agg #[.slice A N c, .int .i64 (k : Nat), .int .i64 e], .int .u64 0]) (by simp [results, Try.results77, go_sem]) rfl ⟨rfl, ?_⟩
  exact hal.alloc hal.size _
set_option maxRecDepth 100000 in
set_option maxHeartbeats 16000000 in
theorem ref_ReadU_0 (b : List Int) (A : Option Addr) (c k : Nat) (w : World) (hA : LiesY w w.heap.size A b) (hb : byt b) (hl : b.length ≤ 1000000) (hk : k ≤ b.length) : Calls Try.prog 77 #[.agg #[.slice A b.length c, .int .i64 (k : Nat), .int .i64 0]] w (RefU A b.length c (rU b k 0) w) := by
  have HX : Hid (Box ((w.alloc (.cells #[.slice A b.length c, .int .i64 (k : Nat), .int .i64 0] 56)).alloc (.cells #[.slice none 0 0, .int .i64 0, .int .i64 0] 56)) (w.heap.size + 1) #[.slice none 0 0, .int .i64 0, .int .i64 0] 56) := by
    have := Box.new (w.alloc (.cells #[.slice A b.length c, .int .i64 (k : Nat), .int .i64 0] 56)) #[.slice none 0 0, .int .i64 0, .int .i64 0] 56
    rw [alloc_size'] at this
    exact this
  have hal := ((Below.refl w.heap.size w).alloc (Nat.le_refl _) (.cells #[.slice A b.length c, .int .i64 (k : Nat), .int .i64 0] 56))
  have HX0 : Hid (Box ((w.alloc (.cells #[.slice A b.length c, .int .i64 (k : Nat), .int .i64 0] 56)).alloc (.cells #[.slice none 0 0, .int .i64 0, .int .i64 0] 56)) w.heap.size #[.slice A b.length c, .int .i64 (k : Nat), .int .i64 0] 56) := (Box.new w _ _).alloc _
  have HW : Hid (Below w.heap.size w ((w.alloc (.cells #[.slice A b.length c, .int .i64 (k : Nat), .int .i64 0] 56)).alloc (.cells #[.slice none 0 0, .int .i64 0, .int .i64 0] 56))) := hal.alloc hal.size _
  clear hal
  unfold RefU
  by_cases h1 : b.length ≤ k
  · have hU : rU b k 0 = ((k, 210), 0) := by unfold rU; rw [if_neg (by simp), if_pos h1]
    rw [hU]
    clear hU hA hb
    have hg : (b.length : Int) ≤ (k : Int) := by omega
    generalize b.length = N at *
    go_enter Try.func77, Try.ntmps77
    go_wp2_with fail
    refine (ref_fail21 A N c k 0 210 _).mono ?_
    rintro e w1 ⟨rfl, hb⟩
    have b2 := HX.out.below hb HX.out.lt
    obtain ⟨x0, x1, x2, y0, y1, y2⟩ := b2.three
    have HBB := Lib.hid (HW.out.trans (hb.mono HW.out.size))
    clear hb
    go_wp2
    have s0 := (b2.set 0 (.slice A N c)).cell 0
    have s1 := ((b2.set 0 (.slice A N c)).set 1 (.int .i64 (k : Nat))).cell 1
    have s2 := (((b2.set 0 (.slice A N c)).set 1 (.int .i64 (k : Nat))).set 2 (.int .i64 210)).cell 2
    refine bodyPost_ret (v := .tuple #[.agg #[.slice A N c, .int .i64 (k : Nat), .int .i64 210], .int .u64 0]) (by simp [results, Try.results77, go_sem, s0, s1, s2]) rfl ⟨rfl, ?_⟩
    exact ((HBB.out.setCell (by simp) _).setCell (by simp) _).setCell (by simp) _
  obtain ⟨ad, eA, hadl, hcell⟩ := hA (by omega)
  subst eA
  have hAx : LiesY ((w.alloc (.cells #[.slice (some ad) b.length c, .int .i64 (k : Nat), .int .i64 0] 56)).alloc (.cells #[.slice none 0 0, .int .i64 0, .int .i64 0] 56)) w.heap.size (some ad) b := hA.below HW.out
  obtain ⟨ad', eA, -, hcx⟩ := hAx (by omega)
  cases eA
  have hf := hb.getD k
  have hkN : (k : Int) < (b.length : Int) := by omega
  have hkN' : ¬ (b.length : Int) ≤ (k : Int) := by omega
  have c0 := hcell k (by omega)
  have c0x := hcx k (by omega)
  obtain ⟨rr, hU0⟩ : ∃ rr, rr = rU b k 0 := ⟨_, rfl⟩
  rw [← hU0]
  unfold rU at hU0
  rw [if_neg (by simp), if_neg h1] at hU0
  have HCX := Lib.hid hcx
  clear hcell hAx hcx
  obtain ⟨n, hn⟩ : ∃ n : Nat, b.getD k 0 = (n : Int) := ⟨(b.getD k 0).toNat, by omega⟩
  have hby := hb
  rw [hn] at c0 c0x hf hU0
  rw [Int.toNat_natCast] at hU0
  have hn256 : n < 256 := by omega
  clear hf
  have e1 : wrap64 (n : Int) = (n : Int) := by unfold wrap64; omega
  have e2 : IntKind.u64.wrap (n : Int) = (n : Int) := by (show (n : Int) % 18446744073709551616 = _); omega
  by_cases h2 : n < 240
  · rw [if_pos (by omega)] at hU0
    rw [hU0]
    have hg : (n : Int) < 240 := by omega
    have ek : (((k + 1 : Nat)) : Int) = (k : Int) + 1 := by omega
    have e3 : wrap64 ((k : Int) + 1) = (k : Int) + 1 := by unfold wrap64; omega
    show Calls _ _ _ _ fun e w' => e = .returned (.tuple #[.agg #[.slice (some ad) b.length c, .int .i64 ((k + 1 : Nat) : Int), .int .i64 0], .int .u64 (n : Nat)]) ∧ Below w.heap.size w w'
    rw [ek]
    clear hU0 hb hby hA hn HCX ek
    generalize b.length = N at *
    go_enter Try.func77, Try.ntmps77
    go_wp2
    refine bodyPost_ret (v := .tuple #[.agg #[.slice (some ad) N c, .int .i64 ((k : Int) + 1), .int .i64 0], .int .u64 (n : Nat)]) (by simp [results, Try.results77, go_sem, e1, e2, e3]) rfl ⟨rfl, ?_⟩
    have hal := ((Below.refl w.heap.size w).alloc (Nat.le_refl _) (.cells #[.slice (some ad) N c, .int .i64 (k : Nat), .int .i64 0] 56))
    exact hal.alloc hal.size _
  rw [if_neg (by omega)] at hU0
  have hg2 : ¬ (n : Int) < 240 := by omega
  by_cases h3 : 247 < n
  · rw [if_pos (by omega)] at hU0
    rw [hU0]
    have hg : (247 : Int) < (n : Int) := by omega
    clear hU0 hb hby hA hn HCX
    generalize b.length = N at *
    go_enter Try.func77, Try.ntmps77
    go_wp2_with fail
    refine (ref_fail21 (some ad) N c k 0 211 _).mono ?_
    rintro e w1 ⟨rfl, hb⟩
    have b2 := HX.out.below hb HX.out.lt
    obtain ⟨x0, x1, x2, y0, y1, y2⟩ := b2.three
    have HBB := Lib.hid (HW.out.trans (hb.mono HW.out.size))
    clear hb
    go_wp2
    have s0 := (b2.set 0 (.slice (some ad) N c)).cell 0
    have s1 := ((b2.set 0 (.slice (some ad) N c)).set 1 (.int .i64 (k : Nat))).cell 1
    have s2 := (((b2.set 0 (.slice (some ad) N c)).set 1 (.int .i64 (k : Nat))).set 2 (.int .i64 211)).cell 2
    refine bodyPost_ret (v := .tuple #[.agg #[.slice (some ad) N c, .int .i64 (k : Nat), .int .i64 211], .int .u64 0]) (by simp [results, Try.results77, go_sem, s0, s1, s2]) rfl ⟨rfl, ?_⟩
    exact ((HBB.out.setCell (by simp) _).setCell (by simp) _).setCell (by simp) _
  rw [if_neg (by omega)] at hU0
  have hg3 : ¬ (247 : Int) < (n : Int) := by omega
  have w1 : wrap64 ((n : Int) - 239) = (n : Int) - 239 := by unfold wrap64; omega
  have w2 : wrap64 ((b.length : Int) - (k : Int)) = (b.length : Int) - (k : Int) := by unfold wrap64; omega
  have w3 : wrap64 ((b.length : Int) - (k : Int) - 1) = (b.length : Int) - (k : Int) - 1 := by unfold wrap64; omega
  by_cases h4 : b.length - k - 1 < n - 239
  · rw [if_pos h4] at hU0
    rw [hU0]
    have hg : (b.length : Int) - (k : Int) - 1 < (n : Int) - 239 := by omega
    clear hU0 hb hby hA hn HCX
    generalize b.length = N at *
    go_enter Try.func77, Try.ntmps77
    go_wp2_with fail
    refine (ref_fail21 (some ad) N c k 0 210 _).mono ?_
    rintro e w1 ⟨rfl, hb⟩
    have b2 := HX.out.below hb HX.out.lt
    obtain ⟨x0, x1, x2, y0, y1, y2⟩ := b2.three
    have HBB := Lib.hid (HW.out.trans (hb.mono HW.out.size))
    clear hb
    go_wp2
    have s0 := (b2.set 0 (.slice (some ad) N c)).cell 0
    have s1 := ((b2.set 0 (.slice (some ad) N c)).set 1 (.int .i64 (k : Nat))).cell 1
    have s2 := (((b2.set 0 (.slice (some ad) N c)).set 1 (.int .i64 (k : Nat))).set 2 (.int .i64 210)).cell 2
    refine bodyPost_ret (v := .tuple #[.agg #[.slice (some ad) N c, .int .i64 (k : Nat), .int .i64 210], .int .u64 0]) (by simp [results, Try.results77, go_sem, s0, s1, s2]) rfl ⟨rfl, ?_⟩
    exact ((HBB.out.setCell (by simp) _).setCell (by simp) _).setCell (by simp) _
  rw [if_neg h4] at hU0
  have hg4 : ¬ (b.length : Int) - (k : Int) - 1 < (n : Int) - 239 := by omega
  obtain ⟨s, hs⟩ : ∃ s, s = n - 239 := ⟨_, rfl⟩
  have hsn : (s : Int) = (n : Int) - 239 := by omega
  rw [← hs] at hU0 h4
  have hs1 : 1 ≤ s := by omega
  have hs8 : s ≤ 8 := by omega
  have hyb : byt ((b.drop (k + 1)).take s) := (hb.drop _).take _
  have hyl : ((b.drop (k + 1)).take s).length = s := by rw [List.length_take, List.length_drop]; omega
  have hyg : ∀ i, 1 ≤ i → i ≤ s → ((b.drop (k + 1)).take s).getD (i - 1) 0 = b.getD (k + i) 0 := fun i h1 h2 => by
    rw [List.getD_eq_getElem?_getD, List.getD_eq_getElem?_getD, List.getElem?_take, if_pos (by omega), List.getElem?_drop, show k + 1 + (i - 1) = k + i from by omega]
  have HG := Lib.hid hyg
  generalize (b.drop (k + 1)).take s = y at *
  have HS : Hid (∀ i, 1 ≤ i → i ≤ s → (joinN (y.take i) : Int) = joinN (y.take (i - 1)) * 256 + b.getD (k + i) 0) := fun i h1 h2 => by
    have := joinN_take hyb (k := i - 1) (by omega)
    rw [show i - 1 + 1 = i from by omega, HG.out i h1 h2] at this
    exact this
  have HLT : Hid (∀ i, i ≤ s → joinN (y.take i) < 18446744073709551616) := fun i hi => by
    have h1 := joinN_lt _ (y.take i) rfl (hyb.take i)
    have h2 : 256 ^ (y.take i).length ≤ 256 ^ 8 := Nat.pow_le_pow_right (by omega) (by rw [List.length_take]; omega)
    omega
  have HE : Hid (joinN (y.take s) = joinN y) := by (show _ = _; rw [List.take_of_length_le (by omega)])
  have hRlt : joinN y < 18446744073709551616 := by have := HLT.out s (Nat.le_refl _); rw [HE.out] at this; exact this
  have HLC : Hid (leastN s ≤ joinN y ↔ (uB (joinN y)).length = s + 1) := by
    have := least_len hyb (by omega)
    rw [hyl] at this
    exact this
  have KU := Lib.hid (fun W => ref_UY (joinN y) W hRlt)
  unfold GivesY at KU
  have HD := Lib.hid (fun i => hby.getD i)
  have w4 : wrap64 ((n : Int) - 239 + 1) = (n : Int) - 239 + 1 := by unfold wrap64; omega
  have HY := Lib.hid hyl
  have hlen := hl
  have hk4 : k + s < b.length := by omega
  clear hyg HG hA hn hyl hby hyb hRlt
  generalize hN : b.length = N at *
  have HN := Lib.hid hN
  clear hN
  by_cases h5 : joinN y < leastN s
  · rw [if_pos h5] at hU0
    rw [hU0]
    have HUL : Hid (¬ (uB (joinN y)).length = s + 1) := fun h => by have := HLC.out.2 h; omega
    clear HLC h5 hU0
    generalize hR : joinN y = R at *
    have HR := Lib.hid hR
    clear hR
    go_enter Try.func77, Try.ntmps77
    go_wp2
    go_loop [6, 7] (fun acc iv => ∃ i : Nat, 1 ≤ i ∧ i ≤ s + 1 ∧ iv = .int .i64 (i : Nat) ∧ acc = .int .u64 (joinN (y.take (i - 1)) : Nat)) (fun _ iv => s + 1 - (intOf iv).toNat)
    case atStart => exact ⟨1, by omega, by omega, rfl, by simp [joinN]⟩
    case round =>
      obtain ⟨i, hi1, hi2, rfl, rfl⟩ := hrel
      by_cases his : i ≤ s
      · have hig : (i : Int) ≤ (n : Int) - 239 := by omega
        have hwq : wrap64 ((k : Int) + (i : Int)) = (k : Int) + (i : Int) := by unfold wrap64; omega
        have hqN : (k : Int) + (i : Int) < (N : Int) := by omega
        have hki : k + i < N := by omega
        have c1 := HCX.out (k + i) hki
        have hJ := HLT.out i his
        have hst := HS.out i hi1 his
        have HST := Lib.hid hst
        obtain ⟨d0, d1⟩ := HD.out (k + i)
        clear HS HCX HLT HE KU HUL HD
        generalize b.getD (k + i) 0 = d at *
        generalize joinN (y.take (i - 1)) = J at *
        have m1 : IntKind.u64.wrap ((J : Int) * 256) = (J : Int) * 256 := by (show ((J : Int) * 256) % 18446744073709551616 = _); omega
        have m2 : IntKind.u64.wrap ((J : Int) * 256 + d) = (J : Int) * 256 + d := by (show ((J : Int) * 256 + d) % 18446744073709551616 = _); omega
        have m3 : IntKind.u64.wrap d = d := by (show d % 18446744073709551616 = _); omega
        clear hst hwq
        go_wp2
        exact ⟨⟨i + 1, by omega, by omega, by go_num, by rw [Nat.add_sub_cancel, HST.out]⟩, by first | (simp [intOf]; done) | (simp [intOf]; omega)⟩
      · obtain rfl : i = s + 1 := by omega
        have hig : ¬ ((s + 1 : Nat) : Int) ≤ (n : Int) - 239 := by omega
        have HJE : Hid (joinN (y.take (s + 1 - 1)) = R) := by (show _ = _); rw [Nat.add_sub_cancel, HE.out]
        rw [HJE.out]
        clear HS HCX HLT HE HD
        go_wp2_with fail
        refine (KU.out _).mono ?_
        rintro e w1 ⟨⟨v, rfl, g1⟩, hb⟩
        obtain ⟨A2, c2, rfl, -, -, -, -, -⟩ := g1.lies
        clear g1
        have b1 := HX0.out.below hb HX0.out.lt
        have b2 := HX.out.below hb HX.out.lt
        obtain ⟨z0, z1, z2, y0, y1, y2⟩ := b1.three
        have HBB := Lib.hid (HW.out.trans (hb.mono HW.out.size))
        have hul := HUL.out
        clear hb KU HUL HR
        generalize (uB R).length = UL at *
        have hne : ¬ (UL : Int) = (n : Int) - 239 + 1 := by omega
        have hnb : ((UL : Int) == (n : Int) - 239 + 1) = false := by simp; omega
        have HX := Lib.hid b2
        have HW := Lib.hid HBB.out
        clear b1 b2 hul
        go_wp2_with fail
        refine (ref_fail21 (some ad) N c k 0 211 _).mono ?_
        rintro e w1 ⟨rfl, hb⟩
        have b2 := HX.out.below hb HX.out.lt
        obtain ⟨x0, x1, x2, y0, y1, y2⟩ := b2.three
        have HBB := Lib.hid (HW.out.trans (hb.mono HW.out.size))
        clear hb
        go_wp2
        have s0 := (b2.set 0 (.slice (some ad) N c)).cell 0
        have s1 := ((b2.set 0 (.slice (some ad) N c)).set 1 (.int .i64 (k : Nat))).cell 1
        have s2 := (((b2.set 0 (.slice (some ad) N c)).set 1 (.int .i64 (k : Nat))).set 2 (.int .i64 211)).cell 2
        refine bodyPost_ret (v := .tuple #[.agg #[.slice (some ad) N c, .int .i64 (k : Nat), .int .i64 211], .int .u64 0]) (by simp [results, Try.results77, go_sem, s0, s1, s2]) rfl ⟨rfl, ?_⟩
        exact ((HBB.out.setCell (by simp) _).setCell (by simp) _).setCell (by simp) _
  · rw [if_neg h5] at hU0
    rw [hU0]
    have HUL : Hid ((uB (joinN y)).length = s + 1) := HLC.out.1 (by omega)
    clear HLC h5 hU0
    generalize hR : joinN y = R at *
    have HR := Lib.hid hR
    clear hR
    go_enter Try.func77, Try.ntmps77
    go_wp2
    go_loop [6, 7] (fun acc iv => ∃ i : Nat, 1 ≤ i ∧ i ≤ s + 1 ∧ iv = .int .i64 (i : Nat) ∧ acc = .int .u64 (joinN (y.take (i - 1)) : Nat)) (fun _ iv => s + 1 - (intOf iv).toNat)
    case atStart => exact ⟨1, by omega, by omega, rfl, by simp [joinN]⟩
    case round =>
      obtain ⟨i, hi1, hi2, rfl, rfl⟩ := hrel
      by_cases his : i ≤ s
      · have hig : (i : Int) ≤ (n : Int) - 239 := by omega
        have hwq : wrap64 ((k : Int) + (i : Int)) = (k : Int) + (i : Int) := by unfold wrap64; omega
        have hqN : (k : Int) + (i : Int) < (N : Int) := by omega
        have hki : k + i < N := by omega
        have c1 := HCX.out (k + i) hki
        have hJ := HLT.out i his
        have hst := HS.out i hi1 his
        have HST := Lib.hid hst
        obtain ⟨d0, d1⟩ := HD.out (k + i)
        clear HS HCX HLT HE KU HUL HD
        generalize b.getD (k + i) 0 = d at *
        generalize joinN (y.take (i - 1)) = J at *
        have m1 : IntKind.u64.wrap ((J : Int) * 256) = (J : Int) * 256 := by (show ((J : Int) * 256) % 18446744073709551616 = _); omega
        have m2 : IntKind.u64.wrap ((J : Int) * 256 + d) = (J : Int) * 256 + d := by (show ((J : Int) * 256 + d) % 18446744073709551616 = _); omega
        have m3 : IntKind.u64.wrap d = d := by (show d % 18446744073709551616 = _); omega
        clear hst hwq
        go_wp2
        exact ⟨⟨i + 1, by omega, by omega, by go_num, by rw [Nat.add_sub_cancel, HST.out]⟩, by first | (simp [intOf]; done) | (simp [intOf]; omega)⟩
      · obtain rfl : i = s + 1 := by omega
        have hig : ¬ ((s + 1 : Nat) : Int) ≤ (n : Int) - 239 := by omega
        have HJE : Hid (joinN (y.take (s + 1 - 1)) = R) := by (show _ = _); rw [Nat.add_sub_cancel, HE.out]
        rw [HJE.out]
        clear HS HCX HLT HE HD
        go_wp2_with fail
        refine (KU.out _).mono ?_
        rintro e w1 ⟨⟨v, rfl, g1⟩, hb⟩
        obtain ⟨A2, c2, rfl, -, -, -, -, -⟩ := g1.lies
        clear g1
        have b1 := HX0.out.below hb HX0.out.lt
        have b2 := HX.out.below hb HX.out.lt
        obtain ⟨z0, z1, z2, y0, y1, y2⟩ := b1.three
        have HBB := Lib.hid (HW.out.trans (hb.mono HW.out.size))
        have hul := HUL.out
        clear hb KU HUL HR
        generalize (uB R).length = UL at *
        have hne : (UL : Int) = (n : Int) - 239 + 1 := by omega
        have p1 : wrap64 ((k : Int) + ((n : Int) - 239)) = (k : Int) + ((n : Int) - 239) := by unfold wrap64; omega
        have p2 : wrap64 ((k : Int) + ((n : Int) - 239) + 1) = (k : Int) + ((n : Int) - 239) + 1 := by unfold wrap64; omega
        obtain ⟨x0, x1, x2, f0, f1, f2⟩ := b2.three
        have hnb : ((UL : Int) == (n : Int) - 239 + 1) = true := by simp; omega
        have HB2 := Lib.hid b2
        clear b1 b2 hul
        go_wp2
        have ek : (((k + 1 + s : Nat)) : Int) = (k : Int) + ((n : Int) - 239) + 1 := by omega
        have s0 := (HB2.out.set 0 (.slice (some ad) N c)).cell 0
        have s1 := ((HB2.out.set 0 (.slice (some ad) N c)).set 1 (.int .i64 ((k : Int) + ((n : Int) - 239) + 1))).cell 1
        have s2 := (((HB2.out.set 0 (.slice (some ad) N c)).set 1 (.int .i64 ((k : Int) + ((n : Int) - 239) + 1))).set 2 (.int .i64 0)).cell 2
        refine bodyPost_ret (v := .tuple #[.agg #[.slice (some ad) N c, .int .i64 ((k : Int) + ((n : Int) - 239) + 1), .int .i64 0], .int .u64 (R : Nat)]) (by simp [results, Try.results77, go_sem, s0, s1, s2]) rfl ⟨?_, ?_⟩
        · rw [← ek]
        · exact ((HBB.out.setCell (by simp) _).setCell (by simp) _).setCell (by simp) _
end Go.Proofs.Ytkfmebdpfjjkjaa
