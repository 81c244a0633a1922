/- BinR BinS BinT BinU BinV -/
import Derived.Test.YtpoemflclbhekaaGreatBinP
import Derived.IntWalk
import Derived.OpenShut
import Derived.StillTailTactics
import Derived.RegionTactic

/-! Layer 21 (bin): the reference's reader: fail, ReadU. -/
namespace Go.Proofs.YtpoemflclbhekaaGreat
open Go.RowKit
set_option linter.unusedVariables false
set_option linter.unusedSimpArgs false

theorem Box.three {w : World} {g : Nat} {a b d : Value} {t : TypeId} (h : Box w g #[a, b, d] t) : w.cell? ⟨g, 0, none⟩ = some a ∧ w.cell? ⟨g, 1, none⟩ = some b ∧ w.cell? ⟨g, 2, none⟩ = some d ∧ w.frozen? ⟨g, 0, none⟩ = false ∧ w.frozen? ⟨g, 1, none⟩ = false ∧ w.frozen? ⟨g, 2, none⟩ = false :=
  ⟨h.cell 0, h.cell 1, h.cell 2, h.free 0, h.free 1, h.free 2⟩
set_option maxRecDepth 100000 in
theorem ref_fail21 (A : Option Addr) (N c : Nat) (k e x : Int) (w : World) : Calls Tryz.prog 69 #[.agg #[.slice A N c, .int .i64 k, .int .i64 e], .int .i64 x] w fun r w' => r = .returned (.agg #[.slice A N c, .int .i64 k, .int .i64 x]) ∧ Below w.heap.size w w' := by
  have hal := ((Below.refl w.heap.size w).alloc (Nat.le_refl _) (.cells #[.slice A N c, .int .i64 k, .int .i64 e] 34))
  go_enter Tryz.func69, Tryz.ntmps69
  go_wp2
  refine bodyPost_ret (v := .agg #[.slice A N c, .int .i64 k, .int .i64 x]) (by simp [results, Tryz.results69, go_sem]) rfl ⟨rfl, ?_⟩
  exact hal.alloc hal.size _
/-- what the reference's U answers -/
def RefU (A : Option Addr) (N c : Nat) (r : (Nat × Int) × Nat) (W : World) (e : Ending) (w' : World) : Prop := e = .returned (.tuple #[.agg #[.slice A N c, .int .i64 (r.1.1 : Nat), .int .i64 r.1.2], .int .u64 (r.2 : Nat)]) ∧ Below W.heap.size W w'
set_option maxRecDepth 100000 in
set_option maxHeartbeats 4000000 in
theorem ref_ReadU_e (b : List Int) (A : Option Addr) (c k : Nat) (e : Int) (w : World) (h : e ≠ 0) : Calls Tryz.prog 68 #[.agg #[.slice A b.length c, .int .i64 (k : Nat), .int .i64 e]] w (RefU A b.length c (rU b k e) w) := by
  rw [rU_e h]
  unfold RefU
  generalize b.length = N at *
  have hal := ((Below.refl w.heap.size w).alloc (Nat.le_refl _) (.cells #[.slice A N c, .int .i64 (k : Nat), .int .i64 e] 34))
  have heb : (e == 0) = false := by simpa using h
  have hne : (e != 0) = true := by simpa using h
  go_enter Tryz.func68, Tryz.ntmps68
  go_wp2
  refine bodyPost_ret (v := .tuple #[.agg #[.slice A N c, .int .i64 (k : Nat), .int .i64 e], .int .u64 0]) (by simp [results, Tryz.results68, go_sem]) rfl ⟨rfl, ?_⟩
  exact hal.alloc hal.size _
set_option maxRecDepth 100000 in
set_option maxHeartbeats 16000000 in
theorem ref_ReadU_0 (b : List Int) (A : Option Addr) (c k : Nat) (w : World) (hA : LiesY w w.heap.size A b) (hb : byt b) (hl : b.length ≤ 1000000) (hk : k ≤ b.length) : Calls Tryz.prog 68 #[.agg #[.slice A b.length c, .int .i64 (k : Nat), .int .i64 0]] w (RefU A b.length c (rU b k 0) w) := by
  have HX : Hid (Box ((w.alloc (.cells #[.slice A b.length c, .int .i64 (k : Nat), .int .i64 0] 34)).alloc (.cells #[.slice none 0 0, .int .i64 0, .int .i64 0] 34)) (w.heap.size + 1) #[.slice none 0 0, .int .i64 0, .int .i64 0] 34) := by
    have := Box.new (w.alloc (.cells #[.slice A b.length c, .int .i64 (k : Nat), .int .i64 0] 34)) #[.slice none 0 0, .int .i64 0, .int .i64 0] 34
    rw [alloc_size'] at this
    exact this
  have hal := ((Below.refl w.heap.size w).alloc (Nat.le_refl _) (.cells #[.slice A b.length c, .int .i64 (k : Nat), .int .i64 0] 34))
  have HX0 : Hid (Box ((w.alloc (.cells #[.slice A b.length c, .int .i64 (k : Nat), .int .i64 0] 34)).alloc (.cells #[.slice none 0 0, .int .i64 0, .int .i64 0] 34)) w.heap.size #[.slice A b.length c, .int .i64 (k : Nat), .int .i64 0] 34) := (Box.new w _ _).alloc _
  have HW : Hid (Below w.heap.size w ((w.alloc (.cells #[.slice A b.length c, .int .i64 (k : Nat), .int .i64 0] 34)).alloc (.cells #[.slice none 0 0, .int .i64 0, .int .i64 0] 34))) := hal.alloc hal.size _
  clear hal
  unfold RefU
  by_cases h1 : b.length ≤ k
  · have hU : rU b k 0 = ((k, 210), 0) := by unfold rU; rw [if_neg (by simp), if_pos h1]
    rw [hU]
    clear hU hA hb
    have hg : (b.length : Int) ≤ (k : Int) := by omega
    generalize b.length = N at *
    go_enter Tryz.func68, Tryz.ntmps68
    go_wp2_with fail
    refine (ref_fail21 A N c k 0 210 _).mono ?_
    rintro e w1 ⟨rfl, hb⟩
    have b2 := HX.out.below hb HX.out.lt
    obtain ⟨x0, x1, x2, y0, y1, y2⟩ := b2.three
    have HBB := Lib.hid (HW.out.trans (hb.mono HW.out.size))
    clear hb
    go_wp2
    have s0 := (b2.set 0 (.slice A N c)).cell 0
    have s1 := ((b2.set 0 (.slice A N c)).set 1 (.int .i64 (k : Nat))).cell 1
    have s2 := (((b2.set 0 (.slice A N c)).set 1 (.int .i64 (k : Nat))).set 2 (.int .i64 210)).cell 2
    refine bodyPost_ret (v := .tuple #[.agg #[.slice A N c, .int .i64 (k : Nat), .int .i64 210], .int .u64 0]) (by simp [results, Tryz.results68, go_sem, s0, s1, s2]) rfl ⟨rfl, ?_⟩
    exact ((HBB.out.setCell (by simp) _).setCell (by simp) _).setCell (by simp) _
  obtain ⟨ad, eA, hadl, hcell⟩ := hA (by omega)
  subst eA
  have hAx : LiesY ((w.alloc (.cells #[.slice (some ad) b.length c, .int .i64 (k : Nat), .int .i64 0] 34)).alloc (.cells #[.slice none 0 0, .int .i64 0, .int .i64 0] 34)) w.heap.size (some ad) b := hA.below HW.out
  obtain ⟨ad', eA, -, hcx⟩ := hAx (by omega)
  cases eA
  have hf := hb.getD k
  have hkN : (k : Int) < (b.length : Int) := by omega
  have hkN' : ¬ (b.length : Int) ≤ (k : Int) := by omega
  have c0 := hcell k (by omega)
  have c0x := hcx k (by omega)
  obtain ⟨rr, hU0⟩ : ∃ rr, rr = rU b k 0 := ⟨_, rfl⟩
  rw [← hU0]
  unfold rU at hU0
  rw [if_neg (by simp), if_neg h1] at hU0
  have HCX := Lib.hid hcx
  clear hcell hAx hcx
  obtain ⟨n, hn⟩ : ∃ n : Nat, b.getD k 0 = (n : Int) := ⟨(b.getD k 0).toNat, by omega⟩
  have hby := hb
  rw [hn] at c0 c0x hf hU0
  rw [Int.toNat_natCast] at hU0
  have hn256 : n < 256 := by omega
  clear hf
  have e1 : wrap64 (n : Int) = (n : Int) := by unfold wrap64; omega
  have e2 : IntKind.u64.wrap (n : Int) = (n : Int) := by (show (n : Int) % 18446744073709551616 = _); omega
  by_cases h2 : n < 240
  · rw [if_pos (by omega)] at hU0
    rw [hU0]
    have hg : (n : Int) < 240 := by omega
    have ek : (((k + 1 : Nat)) : Int) = (k : Int) + 1 := by omega
    have e3 : wrap64 ((k : Int) + 1) = (k : Int) + 1 := by unfold wrap64; omega
    show Calls _ _ _ _ fun e w' => e = .returned (.tuple #[.agg #[.slice (some ad) b.length c, .int .i64 ((k + 1 : Nat) : Int), .int .i64 0], .int .u64 (n : Nat)]) ∧ Below w.heap.size w w'
    rw [ek]
    clear hU0 hb hby hA hn HCX ek
    generalize b.length = N at *
    go_enter Tryz.func68, Tryz.ntmps68
    go_wp2
    refine bodyPost_ret (v := .tuple #[.agg #[.slice (some ad) N c, .int .i64 ((k : Int) + 1), .int .i64 0], .int .u64 (n : Nat)]) (by simp [results, Tryz.results68, go_sem, e1, e2, e3]) rfl ⟨rfl, ?_⟩
    have hal := ((Below.refl w.heap.size w).alloc (Nat.le_refl _) (.cells #[.slice (some ad) N c, .int .i64 (k : Nat), .int .i64 0] 34))
    exact hal.alloc hal.size _
  rw [if_neg (by omega)] at hU0
  have hg2 : ¬ (n : Int) < 240 := by omega
  by_cases h3 : 247 < n
  · rw [if_pos (by omega)] at hU0
    rw [hU0]
    have hg : (247 : Int) < (n : Int) := by omega
    clear hU0 hb hby hA hn HCX
    generalize b.length = N at *
    go_enter Tryz.func68, Tryz.ntmps68
    go_wp2_with fail
    refine (ref_fail21 (some ad) N c k 0 211 _).mono ?_
    rintro e w1 ⟨rfl, hb⟩
    have b2 := HX.out.below hb HX.out.lt
    obtain ⟨x0, x1, x2, y0, y1, y2⟩ := b2.three
    have HBB := Lib.hid (HW.out.trans (hb.mono HW.out.size))
    clear hb
    go_wp2
    have s0 := (b2.set 0 (.slice (some ad) N c)).cell 0
    have s1 := ((b2.set 0 (.slice (some ad) N c)).set 1 (.int .i64 (k : Nat))).cell 1
    have s2 := (((b2.set 0 (.slice (some ad) N c)).set 1 (.int .i64 (k : Nat))).set 2 (.int .i64 211)).cell 2
    refine bodyPost_ret (v := .tuple #[.agg #[.slice (some ad) N c, .int .i64 (k : Nat), .int .i64 211], .int .u64 0]) (by simp [results, Tryz.results68, go_sem, s0, s1, s2]) rfl ⟨rfl, ?_⟩
    exact ((HBB.out.setCell (by simp) _).setCell (by simp) _).setCell (by simp) _
  rw [if_neg (by omega)] at hU0
  have hg3 : ¬ (247 : Int) < (n : Int) := by omega
  have w1 : wrap64 ((n : Int) - 239) = (n : Int) - 239 := by unfold wrap64; omega
  have w2 : wrap64 ((b.length : Int) - (k : Int)) = (b.length : Int) - (k : Int) := by unfold wrap64; omega
  have w3 : wrap64 ((b.length : Int) - (k : Int) - 1) = (b.length : Int) - (k : Int) - 1 := by unfold wrap64; omega
  by_cases h4 : b.length - k - 1 < n - 239
  · rw [if_pos h4] at hU0
    rw [hU0]
    have hg : (b.length : Int) - (k : Int) - 1 < (n : Int) - 239 := by omega
    clear hU0 hb hby hA hn HCX
    generalize b.length = N at *
    go_enter Tryz.func68, Tryz.ntmps68
    go_wp2_with fail
    refine (ref_fail21 (some ad) N c k 0 210 _).mono ?_
    rintro e w1 ⟨rfl, hb⟩
    have b2 := HX.out.below hb HX.out.lt
    obtain ⟨x0, x1, x2, y0, y1, y2⟩ := b2.three
    have HBB := Lib.hid (HW.out.trans (hb.mono HW.out.size))
    clear hb
    go_wp2
    have s0 := (b2.set 0 (.slice (some ad) N c)).cell 0
    have s1 := ((b2.set 0 (.slice (some ad) N c)).set 1 (.int .i64 (k : Nat))).cell 1
    have s2 := (((b2.set 0 (.slice (some ad) N c)).set 1 (.int .i64 (k : Nat))).set 2 (.int .i64 210)).cell 2
    refine bodyPost_ret (v := .tuple #[.agg #[.slice (some ad) N c, .int .i64 (k : Nat), .int .i64 210], .int .u64 0]) (by simp [results, Tryz.results68, go_sem, s0, s1, s2]) rfl ⟨rfl, ?_⟩
    exact ((HBB.out.setCell (by simp) _).setCell (by simp) _).setCell (by simp) _
  rw [if_neg h4] at hU0
  have hg4 : ¬ (b.length : Int) - (k : Int) - 1 < (n : Int) - 239 := by omega
  obtain ⟨s, hs⟩ : ∃ s, s = n - 239 := ⟨_, rfl⟩
  have hsn : (s : Int) = (n : Int) - 239 := by omega
  rw [← hs] at hU0 h4
  have hs1 : 1 ≤ s := by omega
  have hs8 : s ≤ 8 := by omega
  have hyb : byt ((b.drop (k + 1)).take s) := (hb.drop _).take _
  have hyl : ((b.drop (k + 1)).take s).length = s := by rw [List.length_take, List.length_drop]; omega
  have hyg : ∀ i, 1 ≤ i → i ≤ s → ((b.drop (k + 1)).take s).getD (i - 1) 0 = b.getD (k + i) 0 := fun i h1 h2 => by
    rw [List.getD_eq_getElem?_getD, List.getD_eq_getElem?_getD, List.getElem?_take, if_pos (by omega), List.getElem?_drop, show k + 1 + (i - 1) = k + i from by omega]
  have HG := Lib.hid hyg
  generalize (b.drop (k + 1)).take s = y at *
  have HS : Hid (∀ i, 1 ≤ i → i ≤ s → (joinN (y.take i) : Int) = joinN (y.take (i - 1)) * 256 + b.getD (k + i) 0) := fun i h1 h2 => by
    have := joinN_take hyb (k := i - 1) (by omega)
    rw [show i - 1 + 1 = i from by omega, HG.out i h1 h2] at this
    exact this
  have HLT : Hid (∀ i, i ≤ s → joinN (y.take i) < 18446744073709551616) := fun i hi => by
    have h1 := joinN_lt _ (y.take i) rfl (hyb.take i)
    have h2 : 256 ^ (y.take i).length ≤ 256 ^ 8 := Nat.pow_le_pow_right (by omega) (by rw [List.length_take]; omega)
    omega
  have HE : Hid (joinN (y.take s) = joinN y) := by (show _ = _; rw [List.take_of_length_le (by omega)])
  have hRlt : joinN y < 18446744073709551616 := by have := HLT.out s (Nat.le_refl _); rw [HE.out] at this; exact this
  have HLC : Hid (leastN s ≤ joinN y ↔ (uB (joinN y)).length = s + 1) := by
    have := least_len hyb (by omega)
    rw [hyl] at this
    exact this
  have KU := Lib.hid (fun W => ref_UY (joinN y) W hRlt)
  unfold GivesY at KU
  have HD := Lib.hid (fun i => hby.getD i)
  have w4 : wrap64 ((n : Int) - 239 + 1) = (n : Int) - 239 + 1 := by unfold wrap64; omega
  have HY := Lib.hid hyl
  have hlen := hl
  have hk4 : k + s < b.length := by omega
  clear hyg HG hA hn hyl hby hyb hRlt
  generalize hN : b.length = N at *
  have HN := Lib.hid hN
  clear hN
  by_cases h5 : joinN y < leastN s
  · rw [if_pos h5] at hU0
    rw [hU0]
    have HUL : Hid (¬ (uB (joinN y)).length = s + 1) := fun h => by have := HLC.out.2 h; omega
    clear HLC h5 hU0
    generalize hR : joinN y = R at *
    have HR := Lib.hid hR
    clear hR
    go_enter Tryz.func68, Tryz.ntmps68
    go_wp2
    go_loop [6, 7] (fun acc iv => ∃ i : Nat, 1 ≤ i ∧ i ≤ s + 1 ∧ iv = .int .i64 (i : Nat) ∧ acc = .int .u64 (joinN (y.take (i - 1)) : Nat)) (fun _ iv => s + 1 - (intOf iv).toNat)
    case atStart => exact ⟨1, by omega, by omega, rfl, by simp [joinN]⟩
    case round =>
      obtain ⟨i, hi1, hi2, rfl, rfl⟩ := hrel
      by_cases his : i ≤ s
      · have hig : (i : Int) ≤ (n : Int) - 239 := by omega
        have hwq : wrap64 ((k : Int) + (i : Int)) = (k : Int) + (i : Int) := by unfold wrap64; omega
        have hqN : (k : Int) + (i : Int) < (N : Int) := by omega
        have hki : k + i < N := by omega
        have c1 := HCX.out (k + i) hki
        have hJ := HLT.out i his
        have hst := HS.out i hi1 his
        have HST := Lib.hid hst
        obtain ⟨d0, d1⟩ := HD.out (k + i)
        clear HS HCX HLT HE KU HUL HD
        generalize b.getD (k + i) 0 = d at *
        generalize joinN (y.take (i - 1)) = J at *
        have m1 : IntKind.u64.wrap ((J : Int) * 256) = (J : Int) * 256 := by (show ((J : Int) * 256) % 18446744073709551616 = _); omega
        have m2 : IntKind.u64.wrap ((J : Int) * 256 + d) = (J : Int) * 256 + d := by (show ((J : Int) * 256 + d) % 18446744073709551616 = _); omega
        have m3 : IntKind.u64.wrap d = d := by (show d % 18446744073709551616 = _); omega
        clear hst hwq
        go_wp2
        exact ⟨⟨i + 1, by omega, by omega, by go_num, by rw [Nat.add_sub_cancel, HST.out]⟩, by first | (simp [intOf]; done) | (simp [intOf]; omega)⟩
      · obtain rfl : i = s + 1 := by omega
        have hig : ¬ ((s + 1 : Nat) : Int) ≤ (n : Int) - 239 := by omega
        have HJE : Hid (joinN (y.take (s + 1 - 1)) = R) := by (show _ = _); rw [Nat.add_sub_cancel, HE.out]
        rw [HJE.out]
        clear HS HCX HLT HE HD
        go_wp2_with fail
        refine (KU.out _).mono ?_
        rintro e w1 ⟨⟨v, rfl, g1⟩, hb⟩
        obtain ⟨A2, c2, rfl, -, -, -, -, -⟩ := g1.lies
        clear g1
        have b1 := HX0.out.below hb HX0.out.lt
        have b2 := HX.out.below hb HX.out.lt
        obtain ⟨z0, z1, z2, y0, y1, y2⟩ := b1.three
        have HBB := Lib.hid (HW.out.trans (hb.mono HW.out.size))
        have hul := HUL.out
        clear hb KU HUL HR
        generalize (uB R).length = UL at *
        have hne : ¬ (UL : Int) = (n : Int) - 239 + 1 := by omega
        have hnb : ((UL : Int) == (n : Int) - 239 + 1) = false := by simp; omega
        have HX := Lib.hid b2
        have HW := Lib.hid HBB.out
        clear b1 b2 hul
        go_wp2_with fail
        refine (ref_fail21 (some ad) N c k 0 211 _).mono ?_
        rintro e w1 ⟨rfl, hb⟩
        have b2 := HX.out.below hb HX.out.lt
        obtain ⟨x0, x1, x2, y0, y1, y2⟩ := b2.three
        have HBB := Lib.hid (HW.out.trans (hb.mono HW.out.size))
        clear hb
        go_wp2
        have s0 := (b2.set 0 (.slice (some ad) N c)).cell 0
        have s1 := ((b2.set 0 (.slice (some ad) N c)).set 1 (.int .i64 (k : Nat))).cell 1
        have s2 := (((b2.set 0 (.slice (some ad) N c)).set 1 (.int .i64 (k : Nat))).set 2 (.int .i64 211)).cell 2
        refine bodyPost_ret (v := .tuple #[.agg #[.slice (some ad) N c, .int .i64 (k : Nat), .int .i64 211], .int .u64 0]) (by simp [results, Tryz.results68, go_sem, s0, s1, s2]) rfl ⟨rfl, ?_⟩
        exact ((HBB.out.setCell (by simp) _).setCell (by simp) _).setCell (by simp) _
  · rw [if_neg h5] at hU0
    rw [hU0]
    have HUL : Hid ((uB (joinN y)).length = s + 1) := HLC.out.1 (by omega)
    clear HLC h5 hU0
    generalize hR : joinN y = R at *
    have HR := Lib.hid hR
    clear hR
    go_enter Tryz.func68, Tryz.ntmps68
    go_wp2
    go_loop [6, 7] (fun acc iv => ∃ i : Nat, 1 ≤ i ∧ i ≤ s + 1 ∧ iv = .int .i64 (i : Nat) ∧ acc = .int .u64 (joinN (y.take (i - 1)) : Nat)) (fun _ iv => s + 1 - (intOf iv).toNat)
    case atStart => exact ⟨1, by omega, by omega, rfl, by simp [joinN]⟩
    case round =>
      obtain ⟨i, hi1, hi2, rfl, rfl⟩ := hrel
      by_cases his : i ≤ s
      · have hig : (i : Int) ≤ (n : Int) - 239 := by omega
        have hwq : wrap64 ((k : Int) + (i : Int)) = (k : Int) + (i : Int) := by unfold wrap64; omega
        have hqN : (k : Int) + (i : Int) < (N : Int) := by omega
        have hki : k + i < N := by omega
        have c1 := HCX.out (k + i) hki
        have hJ := HLT.out i his
        have hst := HS.out i hi1 his
        have HST := Lib.hid hst
        obtain ⟨d0, d1⟩ := HD.out (k + i)
        clear HS HCX HLT HE KU HUL HD
        generalize b.getD (k + i) 0 = d at *
        generalize joinN (y.take (i - 1)) = J at *
        have m1 : IntKind.u64.wrap ((J : Int) * 256) = (J : Int) * 256 := by (show ((J : Int) * 256) % 18446744073709551616 = _); omega
        have m2 : IntKind.u64.wrap ((J : Int) * 256 + d) = (J : Int) * 256 + d := by (show ((J : Int) * 256 + d) % 18446744073709551616 = _); omega
        have m3 : IntKind.u64.wrap d = d := by (show d % 18446744073709551616 = _); omega
        clear hst hwq
        go_wp2
        exact ⟨⟨i + 1, by omega, by omega, by go_num, by rw [Nat.add_sub_cancel, HST.out]⟩, by first | (simp [intOf]; done) | (simp [intOf]; omega)⟩
      · obtain rfl : i = s + 1 := by omega
        have hig : ¬ ((s + 1 : Nat) : Int) ≤ (n : Int) - 239 := by omega
        have HJE : Hid (joinN (y.take (s + 1 - 1)) = R) := by (show _ = _); rw [Nat.add_sub_cancel, HE.out]
        rw [HJE.out]
        clear HS HCX HLT HE HD
        go_wp2_with fail
        refine (KU.out _).mono ?_
        rintro e w1 ⟨⟨v, rfl, g1⟩, hb⟩
        obtain ⟨A2, c2, rfl, -, -, -, -, -⟩ := g1.lies
        clear g1
        have b1 := HX0.out.below hb HX0.out.lt
        have b2 := HX.out.below hb HX.out.lt
        obtain ⟨z0, z1, z2, y0, y1, y2⟩ := b1.three
        have HBB := Lib.hid (HW.out.trans (hb.mono HW.out.size))
        have hul := HUL.out
        clear hb KU HUL HR
        generalize (uB R).length = UL at *
        have hne : (UL : Int) = (n : Int) - 239 + 1 := by omega
        have p1 : wrap64 ((k : Int) + ((n : Int) - 239)) = (k : Int) + ((n : Int) - 239) := by unfold wrap64; omega
        have p2 : wrap64 ((k : Int) + ((n : Int) - 239) + 1) = (k : Int) + ((n : Int) - 239) + 1 := by unfold wrap64; omega
        obtain ⟨x0, x1, x2, f0, f1, f2⟩ := b2.three
        have hnb : ((UL : Int) == (n : Int) - 239 + 1) = true := by simp; omega
        have HB2 := Lib.hid b2
        clear b1 b2 hul
        go_wp2
        have ek : (((k + 1 + s : Nat)) : Int) = (k : Int) + ((n : Int) - 239) + 1 := by omega
        have s0 := (HB2.out.set 0 (.slice (some ad) N c)).cell 0
        have s1 := ((HB2.out.set 0 (.slice (some ad) N c)).set 1 (.int .i64 ((k : Int) + ((n : Int) - 239) + 1))).cell 1
        have s2 := (((HB2.out.set 0 (.slice (some ad) N c)).set 1 (.int .i64 ((k : Int) + ((n : Int) - 239) + 1))).set 2 (.int .i64 0)).cell 2
        refine bodyPost_ret (v := .tuple #[.agg #[.slice (some ad) N c, .int .i64 ((k : Int) + ((n : Int) - 239) + 1), .int .i64 0], .int .u64 (R : Nat)]) (by simp [results, Tryz.results68, go_sem, s0, s1, s2]) rfl ⟨?_, ?_⟩
        · rw [← ek]
        · exact ((HBB.out.setCell (by simp) _).setCell (by simp) _).setCell (by simp) _
end Go.Proofs.YtpoemflclbhekaaGreat

/-! Layer 21 (bin): the reference's reader: ReadI, ReadN, Fail, End. -/
namespace Go.Proofs.YtpoemflclbhekaaGreat
open Go.RowKit
set_option linter.unusedVariables false
set_option linter.unusedSimpArgs false

theorem ref_ReadU21 (b : List Int) (A : Option Addr) (c k : Nat) (e : Int) (w : World) (hA : LiesY w w.heap.size A b) (hb : byt b) (hl : b.length ≤ 1000000) (hk : k ≤ b.length) : Calls Tryz.prog 68 #[.agg #[.slice A b.length c, .int .i64 (k : Nat), .int .i64 e]] w (RefU A b.length c (rU b k e) w) := by
  by_cases h : e = 0
  · subst h; exact ref_ReadU_0 b A c k w hA hb hl hk
  · exact ref_ReadU_e b A c k e w h
/-- the box of the result, behind the box of the argument -/
theorem box_r (w : World) (A : Option Addr) (N c : Nat) (k e : Int) : Box ((w.alloc (.cells #[.slice A N c, .int .i64 k, .int .i64 e] 34)).alloc (.cells #[.slice none 0 0, .int .i64 0, .int .i64 0] 34)) (w.heap.size + 1) #[.slice none 0 0, .int .i64 0, .int .i64 0] 34 ∧ Box ((w.alloc (.cells #[.slice A N c, .int .i64 k, .int .i64 e] 34)).alloc (.cells #[.slice none 0 0, .int .i64 0, .int .i64 0] 34)) w.heap.size #[.slice A N c, .int .i64 k, .int .i64 e] 34 ∧ Below w.heap.size w ((w.alloc (.cells #[.slice A N c, .int .i64 k, .int .i64 e] 34)).alloc (.cells #[.slice none 0 0, .int .i64 0, .int .i64 0] 34)) := by
  have hal := ((Below.refl w.heap.size w).alloc (Nat.le_refl _) (.cells #[.slice A N c, .int .i64 k, .int .i64 e] 34))
  refine ⟨?_, (Box.new w _ _).alloc _, hal.alloc hal.size _⟩
  have := Box.new (w.alloc (.cells #[.slice A N c, .int .i64 k, .int .i64 e] 34)) #[.slice none 0 0, .int .i64 0, .int .i64 0] 34
  rw [alloc_size'] at this
  exact this
set_option maxRecDepth 100000 in
set_option maxHeartbeats 8000000 in
theorem ref_ReadI21 (b : List Int) (A : Option Addr) (c k : Nat) (e : Int) (w : World) (hA : LiesY w w.heap.size A b) (hb : byt b) (hl : b.length ≤ 1000000) (hk : k ≤ b.length) : Calls Tryz.prog 48 #[.agg #[.slice A b.length c, .int .i64 (k : Nat), .int .i64 e]] w fun r w' => r = .returned (.tuple #[.agg #[.slice A b.length c, .int .i64 ((rU b k e).1.1 : Nat), .int .i64 (rU b k e).1.2], .int .i64 (unfoldI (rU b k e).2)]) ∧ Below w.heap.size w w' := by
  obtain ⟨hX, hX0, hW⟩ := box_r w A b.length c (k : Nat) e
  have KU := Lib.hid (ref_ReadU21 b A c k e _ ((hA.below hW).mono hW.size) hb hl hk)
  have hn := rU_bd hb k e
  have HX := Lib.hid hX
  have HX0 := Lib.hid hX0
  have HW := Lib.hid hW
  clear hX hX0 hW hA hb
  unfold RefU at KU
  generalize (rU b k e).2 = n at *
  generalize (rU b k e).1.1 = K1 at *
  generalize (rU b k e).1.2 = E1 at *
  generalize b.length = N at *
  have hh : wrap64 ((n : Int) / 2) = (n : Int) / 2 := by unfold wrap64; omega
  by_cases h : n % 2 = 1
  · have hg : (n : Int) % 2 = 1 := by omega
    have hgb : ((n : Int) % 2 == 1) = true := by simp; omega
    have hgn : (0 : Int) < (n : Int) % 2 := by omega
    have hf : unfoldI n = -((n : Int) / 2) - 1 := by unfold unfoldI; rw [if_pos h]; omega
    have w1' : wrap64 (-((n : Int) / 2)) = -((n : Int) / 2) := by unfold wrap64; omega
    have w2' : wrap64 (-((n : Int) / 2) - 1) = -((n : Int) / 2) - 1 := by unfold wrap64; omega
    rw [hf]
    clear hf
    clear h
    go_enter Tryz.func48, Tryz.ntmps48
    go_wp2_with fail
    refine (KU.out).mono ?_
    rintro r w1 ⟨rfl, hb⟩
    have b3 := (HX.out.below hb HX.out.lt).alloc (.cells #[.slice A N c, .int .i64 (K1 : Nat), .int .i64 E1] 34)
    obtain ⟨x0, x1, x2, y0, y1, y2⟩ := b3.three
    have HBB := Lib.hid ((HW.out.trans (hb.mono HW.out.size)).alloc (HW.out.trans (hb.mono HW.out.size)).size (.cells #[.slice A N c, .int .i64 (K1 : Nat), .int .i64 E1] 34))
    have HB3 := Lib.hid b3
    clear hb b3
    go_wp2
    have s0 := (HB3.out.set 0 (.slice A N c)).cell 0
    have s1 := ((HB3.out.set 0 (.slice A N c)).set 1 (.int .i64 (K1 : Nat))).cell 1
    have s2 := (((HB3.out.set 0 (.slice A N c)).set 1 (.int .i64 (K1 : Nat))).set 2 (.int .i64 E1)).cell 2
    refine bodyPost_ret (v := .tuple #[.agg #[.slice A N c, .int .i64 (K1 : Nat), .int .i64 E1], .int .i64 (-((n : Int) / 2) - 1)]) (by simp [results, Tryz.results48, go_sem, s0, s1, s2, hh, w1', w2']) rfl ⟨rfl, ?_⟩
    exact ((HBB.out.setCell (by simp) _).setCell (by simp) _).setCell (by simp) _
  · have hg : ¬ (n : Int) % 2 = 1 := by omega
    have hgb : ((n : Int) % 2 == 1) = false := by simp; omega
    have hgn : ¬ (0 : Int) < (n : Int) % 2 := by omega
    have hf : unfoldI n = (n : Int) / 2 := by unfold unfoldI; rw [if_neg h]; omega
    rw [hf]
    clear hf
    clear h
    go_enter Tryz.func48, Tryz.ntmps48
    go_wp2_with fail
    refine (KU.out).mono ?_
    rintro r w1 ⟨rfl, hb⟩
    have b3 := (HX.out.below hb HX.out.lt).alloc (.cells #[.slice A N c, .int .i64 (K1 : Nat), .int .i64 E1] 34)
    obtain ⟨x0, x1, x2, y0, y1, y2⟩ := b3.three
    have HBB := Lib.hid ((HW.out.trans (hb.mono HW.out.size)).alloc (HW.out.trans (hb.mono HW.out.size)).size (.cells #[.slice A N c, .int .i64 (K1 : Nat), .int .i64 E1] 34))
    have HB3 := Lib.hid b3
    clear hb b3
    go_wp2
    have s0 := (HB3.out.set 0 (.slice A N c)).cell 0
    have s1 := ((HB3.out.set 0 (.slice A N c)).set 1 (.int .i64 (K1 : Nat))).cell 1
    have s2 := (((HB3.out.set 0 (.slice A N c)).set 1 (.int .i64 (K1 : Nat))).set 2 (.int .i64 E1)).cell 2
    refine bodyPost_ret (v := .tuple #[.agg #[.slice A N c, .int .i64 (K1 : Nat), .int .i64 E1], .int .i64 ((n : Int) / 2)]) (by simp [results, Tryz.results48, go_sem, s0, s1, s2, hh]) rfl ⟨rfl, ?_⟩
    exact ((HBB.out.setCell (by simp) _).setCell (by simp) _).setCell (by simp) _
set_option maxRecDepth 100000 in
set_option maxHeartbeats 8000000 in
theorem ref_ReadN21 (b : List Int) (A : Option Addr) (c k : Nat) (e most : Int) (hm : I64 most) (w : World) (hA : LiesY w w.heap.size A b) (hb : byt b) (hl : b.length ≤ 1000000) (hk : k ≤ b.length) : Calls Tryz.prog 35 #[.agg #[.slice A b.length c, .int .i64 (k : Nat), .int .i64 e], .int .i64 most] w fun r w' => r = .returned (.tuple #[.agg #[.slice A b.length c, .int .i64 ((rN b k e most).1.1 : Nat), .int .i64 (rN b k e most).1.2], .int .i64 ((rN b k e most).2 : Nat)]) ∧ Below w.heap.size w w' := by
  obtain ⟨hX, hX0, hW⟩ := box_r w A b.length c (k : Nat) e
  have KU := Lib.hid (ref_ReadU21 b A c k e _ ((hA.below hW).mono hW.size) hb hl hk)
  have hn := rU_bd hb k e
  have HX := Lib.hid hX
  have HX0 := Lib.hid hX0
  have HW := Lib.hid hW
  obtain ⟨rr, hN⟩ : ∃ rr, rr = rN b k e most := ⟨_, rfl⟩
  rw [← hN]
  unfold rN at hN
  obtain ⟨hm1, hm2⟩ := hm
  clear hX hX0 hW hA hb
  unfold RefU at KU
  obtain ⟨ru, hru⟩ : ∃ ru, ru = rU b k e := ⟨_, rfl⟩
  rw [← hru] at hN KU hn
  clear hru
  obtain ⟨⟨K1, E1⟩, n⟩ := ru
  simp only at hN KU hn
  generalize b.length = N at *
  by_cases h1 : E1 ≠ 0
  · rw [if_pos h1] at hN
    rw [hN]
    have heb : (E1 == 0) = false := by simpa using h1
    have hne : (E1 != 0) = true := by simpa using h1
    clear hN
    go_enter Tryz.func35, Tryz.ntmps35
    go_wp2_with fail
    refine (KU.out).mono ?_
    rintro r w1 ⟨rfl, hb⟩
    have b3 := (HX.out.below hb HX.out.lt).alloc (.cells #[.slice A N c, .int .i64 (K1 : Nat), .int .i64 E1] 34)
    have b0 := (HX0.out.below hb HX0.out.lt).alloc (.cells #[.slice A N c, .int .i64 (K1 : Nat), .int .i64 E1] 34)
    obtain ⟨x0, x1, x2, y0, y1, y2⟩ := b3.three
    obtain ⟨z0, z1, z2, f0, f1, f2⟩ := b0.three
    have HBB := Lib.hid ((HW.out.trans (hb.mono HW.out.size)).alloc (HW.out.trans (hb.mono HW.out.size)).size (.cells #[.slice A N c, .int .i64 (K1 : Nat), .int .i64 E1] 34))
    have HB3 := Lib.hid b3
    clear hb b3 b0
    go_wp2
    have s0 := (HB3.out.set 0 (.slice A N c)).cell 0
    have s1 := ((HB3.out.set 0 (.slice A N c)).set 1 (.int .i64 (K1 : Nat))).cell 1
    have s2 := (((HB3.out.set 0 (.slice A N c)).set 1 (.int .i64 (K1 : Nat))).set 2 (.int .i64 E1)).cell 2
    refine bodyPost_ret (v := .tuple #[.agg #[.slice A N c, .int .i64 (K1 : Nat), .int .i64 E1], .int .i64 0]) (by simp [results, Tryz.results35, go_sem, s0, s1, s2]) rfl ⟨rfl, ?_⟩
    exact ((HBB.out.setCell (by simp) _).setCell (by simp) _).setCell (by simp) _
  rw [if_neg h1] at hN
  obtain rfl : E1 = 0 := by omega
  by_cases h2 : most < 0
  · rw [if_pos (.inl h2)] at hN
    rw [hN]
    clear hN h1
    go_enter Tryz.func35, Tryz.ntmps35
    go_wp2_with fail
    refine (KU.out).mono ?_
    rintro r w1 ⟨rfl, hb⟩
    have b3 := (HX.out.below hb HX.out.lt).alloc (.cells #[.slice A N c, .int .i64 (K1 : Nat), .int .i64 0] 34)
    have b0 := (HX0.out.below hb HX0.out.lt).alloc (.cells #[.slice A N c, .int .i64 (K1 : Nat), .int .i64 0] 34)
    obtain ⟨x0, x1, x2, y0, y1, y2⟩ := b3.three
    obtain ⟨z0, z1, z2, f0, f1, f2⟩ := b0.three
    have HBB := Lib.hid ((HW.out.trans (hb.mono HW.out.size)).alloc (HW.out.trans (hb.mono HW.out.size)).size (.cells #[.slice A N c, .int .i64 (K1 : Nat), .int .i64 0] 34))
    have HB3 := Lib.hid b3
    clear hb b3 b0
    go_wp2_with fail
    refine (ref_fail21 A N c (k : Nat) e 211 _).mono ?_
    rintro r w2 ⟨rfl, hb2⟩
    have b4 := HB3.out.below hb2 HB3.out.lt
    have HBC := Lib.hid (HBB.out.trans (hb2.mono HBB.out.size))
    clear hb2
    obtain ⟨x0, x1, x2, y0, y1, y2⟩ := b4.three
    have HB4 := Lib.hid b4
    clear b4
    go_wp2
    have s0 := (HB4.out.set 0 (.slice A N c)).cell 0
    have s1 := ((HB4.out.set 0 (.slice A N c)).set 1 (.int .i64 (k : Nat))).cell 1
    have s2 := (((HB4.out.set 0 (.slice A N c)).set 1 (.int .i64 (k : Nat))).set 2 (.int .i64 211)).cell 2
    refine bodyPost_ret (v := .tuple #[.agg #[.slice A N c, .int .i64 (k : Nat), .int .i64 211], .int .i64 0]) (by simp [results, Tryz.results35, go_sem, s0, s1, s2]) rfl ⟨rfl, ?_⟩
    exact ((HBC.out.setCell (by simp) _).setCell (by simp) _).setCell (by simp) _
  have u1 : IntKind.u64.wrap most = most := by (show most % 18446744073709551616 = _); omega
  by_cases h3 : most < (n : Int)
  · rw [if_pos (.inr h3)] at hN
    rw [hN]
    clear hN h1
    go_enter Tryz.func35, Tryz.ntmps35
    go_wp2_with fail
    refine (KU.out).mono ?_
    rintro r w1 ⟨rfl, hb⟩
    have b3 := (HX.out.below hb HX.out.lt).alloc (.cells #[.slice A N c, .int .i64 (K1 : Nat), .int .i64 0] 34)
    have b0 := (HX0.out.below hb HX0.out.lt).alloc (.cells #[.slice A N c, .int .i64 (K1 : Nat), .int .i64 0] 34)
    obtain ⟨x0, x1, x2, y0, y1, y2⟩ := b3.three
    obtain ⟨z0, z1, z2, f0, f1, f2⟩ := b0.three
    have HBB := Lib.hid ((HW.out.trans (hb.mono HW.out.size)).alloc (HW.out.trans (hb.mono HW.out.size)).size (.cells #[.slice A N c, .int .i64 (K1 : Nat), .int .i64 0] 34))
    have HB3 := Lib.hid b3
    clear hb b3 b0
    go_wp2_with fail
    refine (ref_fail21 A N c (k : Nat) e 211 _).mono ?_
    rintro r w2 ⟨rfl, hb2⟩
    have b4 := HB3.out.below hb2 HB3.out.lt
    have HBC := Lib.hid (HBB.out.trans (hb2.mono HBB.out.size))
    clear hb2
    obtain ⟨x0, x1, x2, y0, y1, y2⟩ := b4.three
    have HB4 := Lib.hid b4
    clear b4
    go_wp2
    have s0 := (HB4.out.set 0 (.slice A N c)).cell 0
    have s1 := ((HB4.out.set 0 (.slice A N c)).set 1 (.int .i64 (k : Nat))).cell 1
    have s2 := (((HB4.out.set 0 (.slice A N c)).set 1 (.int .i64 (k : Nat))).set 2 (.int .i64 211)).cell 2
    refine bodyPost_ret (v := .tuple #[.agg #[.slice A N c, .int .i64 (k : Nat), .int .i64 211], .int .i64 0]) (by simp [results, Tryz.results35, go_sem, s0, s1, s2]) rfl ⟨rfl, ?_⟩
    exact ((HBC.out.setCell (by simp) _).setCell (by simp) _).setCell (by simp) _
  · rw [if_neg (by omega)] at hN
    rw [hN]
    have u2 : wrap64 (n : Int) = (n : Int) := by unfold wrap64; omega
    clear hN h1
    go_enter Tryz.func35, Tryz.ntmps35
    go_wp2_with fail
    refine (KU.out).mono ?_
    rintro r w1 ⟨rfl, hb⟩
    have b3 := (HX.out.below hb HX.out.lt).alloc (.cells #[.slice A N c, .int .i64 (K1 : Nat), .int .i64 0] 34)
    have b0 := (HX0.out.below hb HX0.out.lt).alloc (.cells #[.slice A N c, .int .i64 (K1 : Nat), .int .i64 0] 34)
    obtain ⟨x0, x1, x2, y0, y1, y2⟩ := b3.three
    obtain ⟨z0, z1, z2, f0, f1, f2⟩ := b0.three
    have HBB := Lib.hid ((HW.out.trans (hb.mono HW.out.size)).alloc (HW.out.trans (hb.mono HW.out.size)).size (.cells #[.slice A N c, .int .i64 (K1 : Nat), .int .i64 0] 34))
    have HB3 := Lib.hid b3
    clear hb b3 b0
    go_wp2
    have s0 := (HB3.out.set 0 (.slice A N c)).cell 0
    have s1 := ((HB3.out.set 0 (.slice A N c)).set 1 (.int .i64 (K1 : Nat))).cell 1
    have s2 := (((HB3.out.set 0 (.slice A N c)).set 1 (.int .i64 (K1 : Nat))).set 2 (.int .i64 0)).cell 2
    refine bodyPost_ret (v := .tuple #[.agg #[.slice A N c, .int .i64 (K1 : Nat), .int .i64 0], .int .i64 (n : Nat)]) (by simp [results, Tryz.results35, go_sem, s0, s1, s2, u2]) rfl ⟨rfl, ?_⟩
    exact ((HBB.out.setCell (by simp) _).setCell (by simp) _).setCell (by simp) _
end Go.Proofs.YtpoemflclbhekaaGreat

/-! Layer 21 (bin): the reference's reader: Fail, End, ReadText. -/
namespace Go.Proofs.YtpoemflclbhekaaGreat
open Go.RowKit
set_option linter.unusedVariables false
set_option linter.unusedSimpArgs false

set_option maxRecDepth 100000 in
set_option maxHeartbeats 8000000 in
theorem ref_Fail21 (A : Option Addr) (N c k : Nat) (e x : Int) (w : World) : Calls Tryz.prog 47 #[.agg #[.slice A N c, .int .i64 (k : Nat), .int .i64 e], .int .i64 x] w fun r w' => r = .returned (.agg #[.slice A N c, .int .i64 (k : Nat), .int .i64 (failE e x)]) ∧ Below w.heap.size w w' := by
  obtain ⟨hX, hX0, hW⟩ := box_r w A N c (k : Nat) e
  have HX := Lib.hid hX
  have HW := Lib.hid hW
  clear hX hX0 hW
  by_cases h1 : e = 0
  · subst h1
    by_cases h2 : x = 0
    · subst h2
      rw [show failE 0 0 = 211 from rfl]
      go_enter Tryz.func47, Tryz.ntmps47
      go_wp2_with fail
      refine (ref_fail21 A N c (k : Nat) 0 211 _).mono ?_
      rintro r w2 ⟨rfl, hb2⟩
      have b4 := HX.out.below hb2 HX.out.lt
      have HBC := Lib.hid (HW.out.trans (hb2.mono HW.out.size))
      clear hb2
      obtain ⟨x0, x1, x2, y0, y1, y2⟩ := b4.three
      have HB4 := Lib.hid b4
      clear b4
      go_wp2
      have s0 := (HB4.out.set 0 (.slice A N c)).cell 0
      have s1 := ((HB4.out.set 0 (.slice A N c)).set 1 (.int .i64 (k : Nat))).cell 1
      have s2 := (((HB4.out.set 0 (.slice A N c)).set 1 (.int .i64 (k : Nat))).set 2 (.int .i64 211)).cell 2
      refine bodyPost_ret (v := .agg #[.slice A N c, .int .i64 (k : Nat), .int .i64 211]) (by simp [results, Tryz.results47, go_sem, s0, s1, s2]) rfl ⟨rfl, ?_⟩
      exact ((HBC.out.setCell (by simp) _).setCell (by simp) _).setCell (by simp) _
    · rw [show failE 0 x = x from by unfold failE; rw [if_neg (by simp), if_neg h2]]
      have hxb : (x == 0) = false := by simpa using h2
      go_enter Tryz.func47, Tryz.ntmps47
      go_wp2_with fail
      refine (ref_fail21 A N c (k : Nat) 0 x _).mono ?_
      rintro r w2 ⟨rfl, hb2⟩
      have b4 := HX.out.below hb2 HX.out.lt
      have HBC := Lib.hid (HW.out.trans (hb2.mono HW.out.size))
      clear hb2
      obtain ⟨x0, x1, x2, y0, y1, y2⟩ := b4.three
      have HB4 := Lib.hid b4
      clear b4
      go_wp2
      have s0 := (HB4.out.set 0 (.slice A N c)).cell 0
      have s1 := ((HB4.out.set 0 (.slice A N c)).set 1 (.int .i64 (k : Nat))).cell 1
      have s2 := (((HB4.out.set 0 (.slice A N c)).set 1 (.int .i64 (k : Nat))).set 2 (.int .i64 x)).cell 2
      refine bodyPost_ret (v := .agg #[.slice A N c, .int .i64 (k : Nat), .int .i64 x]) (by simp [results, Tryz.results47, go_sem, s0, s1, s2]) rfl ⟨rfl, ?_⟩
      exact ((HBC.out.setCell (by simp) _).setCell (by simp) _).setCell (by simp) _
  · rw [show failE e x = e from by unfold failE; rw [if_pos h1]]
    have heb : (e == 0) = false := by simpa using h1
    have hne : (e != 0) = true := by simpa using h1
    go_enter Tryz.func47, Tryz.ntmps47
    have hal := (Below.refl w.heap.size w).alloc (Nat.le_refl _) (.cells #[.slice A N c, .int .i64 (k : Nat), .int .i64 e] 34)
    go_wp2
    refine bodyPost_ret (v := .agg #[.slice A N c, .int .i64 (k : Nat), .int .i64 e]) (by simp [results, Tryz.results47, go_sem]) rfl ⟨rfl, ?_⟩
    exact hal.alloc hal.size _
end Go.Proofs.YtpoemflclbhekaaGreat

/-! Layer 21 (bin): the reference's reader: ReadText. -/
namespace Go.Proofs.YtpoemflclbhekaaGreat
open Go.RowKit
set_option linter.unusedVariables false
set_option linter.unusedSimpArgs false

theorem box_drew21 {w : World} {g : Nat} {cs : Array Value} {t : TypeId} (h : Box w g cs t) : Box w.drew g cs t := h
end Go.Proofs.YtpoemflclbhekaaGreat

/-! Layer 21 (bin): the reference's reader: ReadInts. -/
namespace Go.Proofs.YtpoemflclbhekaaGreat
open Go.RowKit
set_option linter.unusedVariables false
set_option linter.unusedSimpArgs false

/-- the memory of the reference's ReadInts, in its loop -/
structure IJ (w : World) (G : Nat) (A : Option Addr) (N c : Nat) (k e k' e' : Int) (L : List Int) (v : Value) (wr : World) : Prop where
  b0 : Box wr w.heap.size #[.slice A N c, .int .i64 k, .int .i64 e] 34
  b1 : Box wr (w.heap.size + 1) #[.slice none 0 0, .int .i64 0, .int .i64 0] 34
  b6 : Box wr G #[.slice A N c, .int .i64 k', .int .i64 e'] 34
  own : wr.ownsRow (G + 1) 3 1 v L.length (litI L)
  bel : Below w.heap.size w wr
  hG : w.heap.size + 2 ≤ G
theorem IJ.below {w : World} {G : Nat} {A : Option Addr} {N c : Nat} {k e k' e' : Int} {L : List Int} {v : Value} {wr wy : World} (h : IJ w G A N c k e k' e' L v wr) (hb : Below wr.heap.size wr wy) : IJ w G A N c k e k' e' L v wy :=
  ⟨h.b0.below hb h.b0.lt, h.b1.below hb h.b1.lt, h.b6.below hb h.b6.lt, ownI_below h.own hb, h.bel.trans (hb.mono h.bel.size), h.hG⟩
theorem IJ.set {w : World} {G : Nat} {A : Option Addr} {N c : Nat} {k e k' e' : Int} {L : List Int} {v : Value} {wr : World} (h : IJ w G A N c k e k' e' L v wr) (k2 e2 : Int) :
    IJ w G A N c k e k2 e2 L v (((wr.setCell ⟨G, 0, none⟩ (.slice A N c)).setCell ⟨G, 1, none⟩ (.int .i64 k2)).setCell ⟨G, 2, none⟩ (.int .i64 e2)) := by
  have hG := h.hG
  have hs : ∀ (X : World) (i : Nat) (u : Value) (j : Nat), j ≠ G → (X.setCell ⟨G, i, none⟩ u).heap[j]? = X.heap[j]? := fun X i u j hj => Below.heap_setCell _ _ _ _ hj
  have hb : ∀ j, j ≠ G → (((wr.setCell ⟨G, 0, none⟩ (.slice A N c)).setCell ⟨G, 1, none⟩ (.int .i64 k2)).setCell ⟨G, 2, none⟩ (.int .i64 e2)).heap[j]? = wr.heap[j]? := fun j hj => (hs _ _ _ _ hj).trans ((hs _ _ _ _ hj).trans (hs _ _ _ _ hj))
  refine ⟨(hb _ (by omega)).trans h.b0, (hb _ (by omega)).trans h.b1, ((h.b6.set 0 _).set 1 _).set 2 _, ownI_keep h.own (Nat.le_refl _) (fun j h1 h2 => hb j (by omega)), ?_, hG⟩
  exact ((h.bel.setCell (by show _ ≤ G; omega) _).setCell (by show _ ≤ G; omega) _).setCell (by show _ ≤ G; omega) _
theorem IJ.app {w : World} {G : Nat} {A : Option Addr} {N c : Nat} {k e k' e' : Int} {L L2 : List Int} {v v2 : Value} {wr wy : World} (h : IJ w G A N c k e k' e' L v wr) (hb : Below (G + 1) wr wy) (ho : wy.ownsRow (G + 1) 3 1 v2 L2.length (litI L2)) : IJ w G A N c k e k' e' L2 v2 wy :=
  ⟨h.b0.below hb (by have := h.hG; omega), h.b1.below hb (by have := h.hG; omega), h.b6.below hb (by omega), ho, h.bel.trans (hb.mono (by have := h.hG; omega)), h.hG⟩
end Go.Proofs.YtpoemflclbhekaaGreat
