/- Layer 21 (bin): the reference's reader: ReadI, ReadN, Fail, End. -/
import Derived.Test.YtkfmebdpfjjkjaaBinR
namespace Go.Proofs.Ytkfmebdpfjjkjaa
open Go.RowKit
set_option linter.unusedVariables false
set_option linter.unusedSimpArgs false

theorem ref_ReadU21 (b : List Int) (A : Option Addr) (c k : Nat) (e : Int) (w : World) (hA : LiesY w w.heap.size A b) (hb : byt b) (hl : b.length ≤ 1000000) (hk : k ≤ b.length) : Calls Try.prog 77 #[.agg #[.slice A b.length c, .int .i64 (k : Nat), .int .i64 e]] w (RefU A b.length c (rU b k e) w) := by
  by_cases h : e = 0
  · subst h; exact ref_ReadU_0 b A c k w hA hb hl hk
  · exact ref_ReadU_e b A c k e w h
/-- the box of the result, behind the box of the argument -/
theorem box_r (w : World) (A : Option Addr) (N c : Nat) (k e : Int) : Box ((w.alloc (.cells #[.slice A N c, .int .i64 k, .int .i64 e] 56)).alloc (.cells #[.slice none 0 0, .int .i64 0, .int .i64 0] 56)) (w.heap.size + 1) #[.slice none 0 0, .int .i64 0, .int .i64 0] 56 ∧ Box ((w.alloc (.cells #[.slice A N c, .int .i64 k, .int .i64 e] 56)).alloc (.cells #[.slice none 0 0, .int .i64 0, .int .i64 0] 56)) w.heap.size #[.slice A N c, .int .i64 k, .int .i64 e] 56 ∧ Below w.heap.size w ((w.alloc (.cells #[.slice A N c, .int .i64 k, .int .i64 e] 56)).alloc (.cells #[.slice none 0 0, .int .i64 0, .int .i64 0] 56)) := by
  have hal := ((Below.refl w.heap.size w).alloc (Nat.le_refl _) (.cells #[.slice A N c, .int .i64 k, .int .i64 e] 56))
  refine ⟨?_, (Box.new w _ _).alloc _, hal.alloc hal.size _⟩
  have := Box.new (w.alloc (.cells #[.slice A N c, .int .i64 k, .int .i64 e] 56)) #[.slice none 0 0, .int .i64 0, .int .i64 0] 56
  rw [alloc_size'] at this
  exact this
set_option maxRecDepth 100000 in
set_option maxHeartbeats 8000000 in
theorem ref_ReadI21 (b : List Int) (A : Option Addr) (c k : Nat) (e : Int) (w : World) (hA : LiesY w w.heap.size A b) (hb : byt b) (hl : b.length ≤ 1000000) (hk : k ≤ b.length) : Calls Try.prog 80 #[.agg #[.slice A b.length c, .int .i64 (k : Nat), .int .i64 e]] w fun r w' => r = .returned (.tuple #[.agg #[.slice A b.length c, .int .i64 ((rU b k e).1.1 : Nat), .int .i64 (rU b k e).1.2], .int .i64 (unfoldI (rU b k e).2)]) ∧ Below w.heap.size w w' := by
  obtain ⟨hX, hX0, hW⟩ := box_r w A b.length c (k : Nat) e
  have KU := Lib.hid (ref_ReadU21 b A c k e _ ((hA.below hW).mono hW.size) hb hl hk)
  have hn := rU_bd hb k e
  have HX := Lib.hid hX
  have HX0 := Lib.hid hX0
  have HW := Lib.hid hW
  clear hX hX0 hW hA hb
  unfold RefU at KU
  generalize (rU b k e).2 = n at *
  generalize (rU b k e).1.1 = K1 at *
  generalize (rU b k e).1.2 = E1 at *
  generalize b.length = N at *
  have hh : wrap64 ((n : Int) / 2) = (n : Int) / 2 := by unfold wrap64; omega
  by_cases h : n % 2 = 1
  · have hg : (n : Int) % 2 = 1 := by omega
    have hgb : ((n : Int) % 2 == 1) = true := by simp; omega
    have hgn : (0 : Int) < (n : Int) % 2 := by omega
    have hf : unfoldI n = -((n : Int) / 2) - 1 := by unfold unfoldI; rw [if_pos h]; omega
    have w1' : wrap64 (-((n : Int) / 2)) = -((n : Int) / 2) := by unfold wrap64; omega
    have w2' : wrap64 (-((n : Int) / 2) - 1) = -((n : Int) / 2) - 1 := by unfold wrap64; omega
    rw [hf]
    clear hf
    clear h
    go_enter Try.func80, Try.ntmps80
    go_wp2_with fail
    refine (KU.out).mono ?_
    rintro r w1 ⟨rfl, hb⟩
    have b3 := (HX.out.below hb HX.out.lt).alloc (.cells #[.slice A N c, .int .i64 (K1 : Nat), .int .i64 E1] 56)
    obtain ⟨x0, x1, x2, y0, y1, y2⟩ := b3.three
    have HBB := Lib.hid ((HW.out.trans (hb.mono HW.out.size)).alloc (HW.out.trans (hb.mono HW.out.size)).size (.cells #[.slice A N c, .int .i64 (K1 : Nat), .int .i64 E1] 56))
    have HB3 := Lib.hid b3
    clear hb b3
    go_wp2
    have s0 := (HB3.out.set 0 (.slice A N c)).cell 0
    have s1 := ((HB3.out.set 0 (.slice A N c)).set 1 (.int .i64 (K1 : Nat))).cell 1
    have s2 := (((HB3.out.set 0 (.slice A N c)).set 1 (.int .i64 (K1 : Nat))).set 2 (.int .i64 E1)).cell 2
    refine bodyPost_ret (v := .tuple #[.agg #[.slice A N c, .int .i64 (K1 : Nat), .int .i64 E1], .int .i64 (-((n : Int) / 2) - 1)]) (by simp [results, Try.results80, go_sem, s0, s1, s2, hh, w1', w2']) rfl ⟨rfl, ?_⟩
    exact ((HBB.out.setCell (by simp) _).setCell (by simp) _).setCell (by simp) _
  · have hg : ¬ (n : Int) % 2 = 1 := by omega
    have hgb : ((n : Int) % 2 == 1) = false := by simp; omega
    have hgn : ¬ (0 : Int) < (n : Int) % 2 := by omega
    have hf : unfoldI n = (n : Int) / 2 := by unfold unfoldI; rw [if_neg h]; omega
    rw [hf]
    clear hf
    clear h
    go_enter Try.func80, Try.ntmps80
    go_wp2_with fail
    refine (KU.out).mono ?_
    rintro r w1 ⟨rfl, hb⟩
    have b3 := (HX.out.below hb HX.out.lt).alloc (.cells #[.slice A N c, .int .i64 (K1 : Nat), .int .i64 E1] 56)
    obtain ⟨x0, x1, x2, y0, y1, y2⟩ := b3.three
    have HBB := Lib.hid ((HW.out.trans (hb.mono HW.out.size)).alloc (HW.out.trans (hb.mono HW.out.size)).size (.cells #[.slice A N c, .int .i64 (K1 : Nat), .int .i64 E1] 56))
    have HB3 := Lib.hid b3
    clear hb b3
    go_wp2
    have s0 := (HB3.out.set 0 (.slice A N c)).cell 0
    have s1 := ((HB3.out.set 0 (.slice A N c)).set 1 (.int .i64 (K1 : Nat))).cell 1
    have s2 := (((HB3.out.set 0 (.slice A N c)).set 1 (.int .i64 (K1 : Nat))).set 2 (.int .i64 E1)).cell 2
    refine bodyPost_ret (v := .tuple #[.agg #[.slice A N c, .int .i64 (K1 : Nat), .int .i64 E1], .int .i64 ((n : Int) / 2)]) (by simp [results, Try.results80, go_sem, s0, s1, s2, hh]) rfl ⟨rfl, ?_⟩
    exact ((HBB.out.setCell (by simp) _).setCell (by simp) _).setCell (by simp) _
set_option maxRecDepth 100000 in
set_option maxHeartbeats 8000000 in
theorem ref_ReadN21 (b : List Int) (A : Option Addr) (c k : Nat) (e most : Int) (hm : I64 most) (w : World) (hA : LiesY w w.heap.size A b) (hb : byt b) (hl : b.length ≤ 1000000) (hk : k ≤ b.length) : Calls Try.prog 78 #[.agg #[.slice A b.length c, .int .i64 (k : Nat), .int .i64 e], .int .i64 most] w fun r w' => r = .returned (.tuple #[.agg #[.slice A b.length c, .int .i64 ((rN b k e most).1.1 : Nat), .int .i64 (rN b k e most).1.2], .int .i64 ((rN b k e most).2 : Nat)]) ∧ Below w.heap.size w w' := by
  obtain ⟨hX, hX0, hW⟩ := box_r w A b.length c (k : Nat) e
  have KU := Lib.hid (ref_ReadU21 b A c k e _ ((hA.below hW).mono hW.size) hb hl hk)
  have hn := rU_bd hb k e
  have HX := Lib.hid hX
  have HX0 := Lib.hid hX0
  have HW := Lib.hid hW
  obtain ⟨rr, hN⟩ : ∃ rr, rr = rN b k e most := ⟨_, rfl⟩
  rw [← hN]
  unfold rN at hN
  obtain ⟨hm1, hm2⟩ := hm
  clear hX hX0 hW hA hb
  unfold RefU at KU
  obtain ⟨ru, hru⟩ : ∃ ru, ru = rU b k e := ⟨_, rfl⟩
  rw [← hru] at hN KU hn
  clear hru
  obtain ⟨⟨K1, E1⟩, n⟩ := ru
  simp only at hN KU hn
  generalize b.length = N at *
  by_cases h1 : E1 ≠ 0
  · rw [if_pos h1] at hN
    rw [hN]
    have heb : (E1 == 0) = false := by simpa using h1
    have hne : (E1 != 0) = true := by simpa using h1
    clear hN
    go_enter Try.func78, Try.ntmps78
    go_wp2_with fail
    refine (KU.out).mono ?_
    rintro r w1 ⟨rfl, hb⟩
    have b3 := (HX.out.below hb HX.out.lt).alloc (.cells #[.slice A N c, .int .i64 (K1 : Nat), .int .i64 E1] 56)
    have b0 := (HX0.out.below hb HX0.out.lt).alloc (.cells #[.slice A N c, .int .i64 (K1 : Nat), .int .i64 E1] 56)
    obtain ⟨x0, x1, x2, y0, y1, y2⟩ := b3.three
    obtain ⟨z0, z1, z2, f0, f1, f2⟩ := b0.three
    have HBB := Lib.hid ((HW.out.trans (hb.mono HW.out.size)).alloc (HW.out.trans (hb.mono HW.out.size)).size (.cells #[.slice A N c, .int .i64 (K1 : Nat), .int .i64 E1] 56))
    have HB3 := Lib.hid b3
    clear hb b3 b0
    go_wp2
    have s0 := (HB3.out.set 0 (.slice A N c)).cell 0
    have s1 := ((HB3.out.set 0 (.slice A N c)).set 1 (.int .i64 (K1 : Nat))).cell 1
    have s2 := (((HB3.out.set 0 (.slice A N c)).set 1 (.int .i64 (K1 : Nat))).set 2 (.int .i64 E1)).cell 2
    refine bodyPost_ret (v := .tuple #[.agg #[.slice A N c, .int .i64 (K1 : Nat), .int .i64 E1], .int .i64 0]) (by simp [results, Try.results78, go_sem, s0, s1, s2]) rfl ⟨rfl, ?_⟩
    exact ((HBB.out.setCell (by simp) _).setCell (by simp) _).setCell (by simp) _
  rw [if_neg h1] at hN
  obtain rfl : E1 = 0 := by omega
  by_cases h2 : most < 0
  · rw [if_pos (.inl h2)] at hN
    rw [hN]
    clear hN h1
    go_enter Try.func78, Try.ntmps78
    go_wp2_with fail
    refine (KU.out).mono ?_
    rintro r w1 ⟨rfl, hb⟩
    have b3 := (HX.out.below hb HX.out.lt).alloc (.cells #[.slice A N c, .int .i64 (K1 : Nat), .int .i64 0] 56)
    have b0 := (HX0.out.below hb HX0.out.lt).alloc (.cells #[.slice A N c, .int .i64 (K1 : Nat), .int .i64 0] 56)
    obtain ⟨x0, x1, x2, y0, y1, y2⟩ := b3.three
    obtain ⟨z0, z1, z2, f0, f1, f2⟩ := b0.three
    have HBB := Lib.hid ((HW.out.trans (hb.mono HW.out.size)).alloc (HW.out.trans (hb.mono HW.out.size)).size (.cells #[.slice A N c, .int .i64 (K1 : Nat), .int .i64 0] 56))
    have HB3 := Lib.hid b3
    clear hb b3 b0
    go_wp2_with fail
    refine (ref_fail21 A N c (k : Nat) e 211 _).mono ?_
    rintro r w2 ⟨rfl, hb2⟩
    have b4 := HB3.out.below hb2 HB3.out.lt
    have HBC := Lib.hid (HBB.out.trans (hb2.mono HBB.out.size))
    clear hb2
    obtain ⟨x0, x1, x2, y0, y1, y2⟩ := b4.three
    have HB4 := Lib.hid b4
    clear b4
    go_wp2
    have s0 := (HB4.out.set 0 (.slice A N c)).cell 0
    have s1 := ((HB4.out.set 0 (.slice A N c)).set 1 (.int .i64 (k : Nat))).cell 1
    have s2 := (((HB4.out.set 0 (.slice A N c)).set 1 (.int .i64 (k : Nat))).set 2 (.int .i64 211)).cell 2
    refine bodyPost_ret (v := .tuple #[.agg #[.slice A N c, .int .i64 (k : Nat), .int .i64 211], .int .i64 0]) (by simp [results, Try.results78, go_sem, s0, s1, s2]) rfl ⟨rfl, ?_⟩
    exact ((HBC.out.setCell (by simp) _).setCell (by simp) _).setCell (by simp) _
  have u1 : IntKind.u64.wrap most = most := by (show most % 18446744073709551616 = _); omega
  by_cases h3 : most < (n : Int)
  · rw [if_pos (.inr h3)] at hN
    rw [hN]
    clear hN h1
    go_enter Try.func78, Try.ntmps78
    go_wp2_with fail
    refine (KU.out).mono ?_
    rintro r w1 ⟨rfl, hb⟩
    have b3 := (HX.out.below hb HX.out.lt).alloc (.cells #[.slice A N c, .int .i64 (K1 : Nat), .int .i64 0] 56)
    have b0 := (HX0.out.below hb HX0.out.lt).alloc (.cells #[.slice A N c, .int .i64 (K1 : Nat), .int .i64 0] 56)
    obtain ⟨x0, x1, x2, y0, y1, y2⟩ := b3.three
    obtain ⟨z0, z1, z2, f0, f1, f2⟩ := b0.three
    have HBB := Lib.hid ((HW.out.trans (hb.mono HW.out.size)).alloc (HW.out.trans (hb.mono HW.out.size)).size (.cells #[.slice A N c, .int .i64 (K1 : Nat), .int .i64 0] 56))
    have HB3 := Lib.hid b3
    clear hb b3 b0
    go_wp2_with fail
    refine (ref_fail21 A N c (k : Nat) e 211 _).mono ?_
    rintro r w2 ⟨rfl, hb2⟩
    have b4 := HB3.out.below hb2 HB3.out.lt
    have HBC := Lib.hid (HBB.out.trans (hb2.mono HBB.out.size))
    clear hb2
    obtain ⟨x0, x1, x2, y0, y1, y2⟩ := b4.three
    have HB4 := Lib.hid b4
    clear b4
    go_wp2
    have s0 := (HB4.out.set 0 (.slice A N c)).cell 0
    have s1 := ((HB4.out.set 0 (.slice A N c)).set 1 (.int .i64 (k : Nat))).cell 1
    have s2 := (((HB4.out.set 0 (.slice A N c)).set 1 (.int .i64 (k : Nat))).set 2 (.int .i64 211)).cell 2
    refine bodyPost_ret (v := .tuple #[.agg #[.slice A N c, .int .i64 (k : Nat), .int .i64 211], .int .i64 0]) (by simp [results, Try.results78, go_sem, s0, s1, s2]) rfl ⟨rfl, ?_⟩
    exact ((HBC.out.setCell (by simp) _).setCell (by simp) _).setCell (by simp) _
  · rw [if_neg (by omega)] at hN
    rw [hN]
    have u2 : wrap64 (n : Int) = (n : Int) := by unfold wrap64; omega
    clear hN h1
    go_enter Try.func78, Try.ntmps78
    go_wp2_with fail
    refine (KU.out).mono ?_
    rintro r w1 ⟨rfl, hb⟩
    have b3 := (HX.out.below hb HX.out.lt).alloc (.cells #[.slice A N c, .int .i64 (K1 : Nat), .int .i64 0] 56)
    have b0 := (HX0.out.below hb HX0.out.lt).alloc (.cells #[.slice A N c, .int .i64 (K1 : Nat), .int .i64 0] 56)
    obtain ⟨x0, x1, x2, y0, y1, y2⟩ := b3.three
    obtain ⟨z0, z1, z2, f0, f1, f2⟩ := b0.three
    have HBB := Lib.hid ((HW.out.trans (hb.mono HW.out.size)).alloc (HW.out.trans (hb.mono HW.out.size)).size (.cells #[.slice A N c, .int .i64 (K1 : Nat), .int .i64 0] 56))
    have HB3 := Lib.hid b3
    clear hb b3 b0
    go_wp2
    have s0 := (HB3.out.set 0 (.slice A N c)).cell 0
    have s1 := ((HB3.out.set 0 (.slice A N c)).set 1 (.int .i64 (K1 : Nat))).cell 1
    have s2 := (((HB3.out.set 0 (.slice A N c)).set 1 (.int .i64 (K1 : Nat))).set 2 (.int .i64 0)).cell 2
    refine bodyPost_ret (v := .tuple #[.agg #[.slice A N c, .int .i64 (K1 : Nat), .int .i64 0], .int .i64 (n : Nat)]) (by simp [results, Try.results78, go_sem, s0, s1, s2, u2]) rfl ⟨rfl, ?_⟩
    exact ((HBB.out.setCell (by simp) _).setCell (by simp) _).setCell (by simp) _
end Go.Proofs.Ytkfmebdpfjjkjaa
