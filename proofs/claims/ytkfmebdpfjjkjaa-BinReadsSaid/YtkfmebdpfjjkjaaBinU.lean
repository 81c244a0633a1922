/- Layer 21 (bin): the reference's reader: ReadText. -/
import Derived.Test.YtkfmebdpfjjkjaaBinT
import Derived.RegionTactic
namespace Go.Proofs.Ytkfmebdpfjjkjaa
open Go.RowKit
set_option linter.unusedVariables false
set_option linter.unusedSimpArgs false

theorem box_drew21 {w : World} {g : Nat} {cs : Array Value} {t : TypeId} (h : Box w g cs t) : Box w.drew g cs t := h
set_option maxRecDepth 100000 in
set_option maxHeartbeats 8000000 in
theorem ref_ReadT21 (b : List Int) (A : Option Addr) (c k : Nat) (e most : Int) (hm : I64 most) (w : World) (B0 : Nat) (hA : LiesY w B0 A b) (hB0 : B0 ≤ w.heap.size) (hb : byt b) (hl : b.length ≤ 1000000) (hk : k ≤ b.length) (hbc : b.length ≤ c) (hc : c ≤ 9223372036854775807) : Calls Try.prog 81 #[.agg #[.slice A b.length c, .int .i64 (k : Nat), .int .i64 e], .int .i64 most] w fun r w' => ∃ A2 c2, r = .returned (.tuple #[.agg #[.slice A b.length c, .int .i64 ((rT b k e most).1.1 : Nat), .int .i64 (rT b k e most).1.2], .slice A2 (rT b k e most).2.length c2]) ∧ LiesY w' B0 A2 (rT b k e most).2 ∧ Below w.heap.size w w' := by
  obtain ⟨hX, hX0, hW⟩ := box_r w A b.length c (k : Nat) e
  have KU := Lib.hid (ref_ReadN21 b A c k e most hm _ ((hA.below (hW.mono hB0)).mono (Nat.le_trans hB0 hW.size)) hb hl hk)
  have HX := Lib.hid hX
  have HX0 := Lib.hid hX0
  have HW := Lib.hid hW
  have hNok : (rN b k e most).1.2 = 0 → (rN b k e most).1.1 ≤ b.length ∧ 0 < b.length := fun h => by
    obtain ⟨h1, h2, h3⟩ := rN_bd h
    rw [h3]
    by_cases he : e = 0
    · subst he
      have := rU_ok hb h2
      omega
    · rw [rU_e he] at h2; exact absurd h2 he
  obtain ⟨rr, hT⟩ : ∃ rr, rr = rT b k e most := ⟨_, rfl⟩
  rw [← hT]
  unfold rT at hT
  clear hX hX0 hW hb
  obtain ⟨rn, hrn⟩ : ∃ rn, rn = rN b k e most := ⟨_, rfl⟩
  rw [← hrn] at hT KU hNok
  clear hrn
  obtain ⟨⟨K1, E1⟩, n⟩ := rn
  simp only at hT KU hNok
  have HA := Lib.hid hA
  have HB0 := Lib.hid hB0
  clear hA hB0
  by_cases h1 : E1 ≠ 0
  · rw [if_pos h1] at hT
    rw [hT]
    have heb : (E1 == 0) = false := by simpa using h1
    have hne : (E1 != 0) = true := by simpa using h1
    clear hT hNok
    generalize b.length = N at *
    go_enter Try.func81, Try.ntmps81
    go_wp2_with fail
    refine (KU.out).mono ?_
    rintro r w1 ⟨rfl, hb⟩
    have b3 := (HX.out.below hb HX.out.lt).alloc (.cells #[.slice A N c, .int .i64 (K1 : Nat), .int .i64 E1] 56)
    have b0 := (HX0.out.below hb HX0.out.lt).alloc (.cells #[.slice A N c, .int .i64 (K1 : Nat), .int .i64 E1] 56)
    obtain ⟨x0, x1, x2, y0, y1, y2⟩ := b3.three
    obtain ⟨z0, z1, z2, f0, f1, f2⟩ := b0.three
    have HBB := Lib.hid ((HW.out.trans (hb.mono HW.out.size)).alloc (HW.out.trans (hb.mono HW.out.size)).size (.cells #[.slice A N c, .int .i64 (K1 : Nat), .int .i64 E1] 56))
    have HB3 := Lib.hid b3
    have HN1 := Lib.hid (Box.new w1 #[.slice A N c, .int .i64 (K1 : Nat), .int .i64 E1] 56)
    have hz1 : w.heap.size + 2 ≤ w1.heap.size := by have := hb.size; rw [alloc_size', alloc_size'] at this; omega
    have hne1 : ¬ w1.heap.size = w.heap.size + 1 := by omega
    have hne2 : ¬ w.heap.size + 1 = w1.heap.size := by omega
    clear hb b3 b0 hz1
    go_wp2
    have s0 := (HB3.out.set 0 (.slice A N c)).cell 0
    have s1 := ((HB3.out.set 0 (.slice A N c)).set 1 (.int .i64 (K1 : Nat))).cell 1
    have s2 := (((HB3.out.set 0 (.slice A N c)).set 1 (.int .i64 (K1 : Nat))).set 2 (.int .i64 E1)).cell 2
    refine bodyPost_ret (v := .tuple #[.agg #[.slice A N c, .int .i64 (K1 : Nat), .int .i64 E1], .slice none 0 0]) (by simp [results, Try.results81, go_sem, s0, s1, s2]) rfl ⟨_, _, rfl, LiesY.nil, ?_⟩
    exact ((HBB.out.setCell (by simp) _).setCell (by simp) _).setCell (by simp) _
  rw [if_neg h1] at hT
  obtain rfl : E1 = 0 := by omega
  obtain ⟨hK1, hN0⟩ := hNok rfl
  have wd : wrap64 ((b.length : Int) - (K1 : Int)) = (b.length : Int) - (K1 : Int) := by unfold wrap64; omega
  by_cases h2 : b.length - K1 < n
  · rw [if_pos h2] at hT
    rw [hT]
    have hg : (b.length : Int) - (K1 : Int) < (n : Int) := by omega
    clear hT hNok
    generalize b.length = N at *
    go_enter Try.func81, Try.ntmps81
    go_wp2_with fail
    refine (KU.out).mono ?_
    rintro r w1 ⟨rfl, hb⟩
    have b3 := (HX.out.below hb HX.out.lt).alloc (.cells #[.slice A N c, .int .i64 (K1 : Nat), .int .i64 0] 56)
    have b0 := (HX0.out.below hb HX0.out.lt).alloc (.cells #[.slice A N c, .int .i64 (K1 : Nat), .int .i64 0] 56)
    obtain ⟨x0, x1, x2, y0, y1, y2⟩ := b3.three
    obtain ⟨z0, z1, z2, f0, f1, f2⟩ := b0.three
    have HBB := Lib.hid ((HW.out.trans (hb.mono HW.out.size)).alloc (HW.out.trans (hb.mono HW.out.size)).size (.cells #[.slice A N c, .int .i64 (K1 : Nat), .int .i64 0] 56))
    have HB3 := Lib.hid b3
    have HN1 := Lib.hid (Box.new w1 #[.slice A N c, .int .i64 (K1 : Nat), .int .i64 0] 56)
    have hz1 : w.heap.size + 2 ≤ w1.heap.size := by have := hb.size; rw [alloc_size', alloc_size'] at this; omega
    have hne1 : ¬ w1.heap.size = w.heap.size + 1 := by omega
    have hne2 : ¬ w.heap.size + 1 = w1.heap.size := by omega
    clear hb b3 b0 hz1
    go_wp2_with fail
    refine (ref_fail21 A N c (k : Nat) e 210 _).mono ?_
    rintro r w2 ⟨rfl, hb2⟩
    have b4 := HB3.out.below hb2 HB3.out.lt
    have HBC := Lib.hid (HBB.out.trans (hb2.mono HBB.out.size))
    clear hb2
    obtain ⟨x0, x1, x2, y0, y1, y2⟩ := b4.three
    have HB4 := Lib.hid b4
    clear b4
    go_wp2
    have s0 := (HB4.out.set 0 (.slice A N c)).cell 0
    have s1 := ((HB4.out.set 0 (.slice A N c)).set 1 (.int .i64 (k : Nat))).cell 1
    have s2 := (((HB4.out.set 0 (.slice A N c)).set 1 (.int .i64 (k : Nat))).set 2 (.int .i64 210)).cell 2
    refine bodyPost_ret (v := .tuple #[.agg #[.slice A N c, .int .i64 (k : Nat), .int .i64 210], .slice none 0 0]) (by simp [results, Try.results81, go_sem, s0, s1, s2]) rfl ⟨_, _, rfl, LiesY.nil, ?_⟩
    exact ((HBC.out.setCell (by simp) _).setCell (by simp) _).setCell (by simp) _
  rw [if_neg h2] at hT
  have hg : ¬ (b.length : Int) - (K1 : Int) < (n : Int) := by omega
  have wq : wrap64 ((K1 : Int) + (n : Int)) = (K1 : Int) + (n : Int) := by unfold wrap64; omega
  have wq2 : IntKind.i64.wrap ((K1 : Int) + (n : Int)) = (K1 : Int) + (n : Int) := by first | (simp only [PlainAid.i64_is]; exact wq) | (simp [IntKind.wrap, IntKind.bits, IntKind.signed]; omega)
  have hcN : (K1 : Int) + (n : Int) ≤ (c : Int) := by omega
  obtain ⟨ad, eA, -⟩ := HA.out (by omega)
  subst eA
  have HDT : Hid (∀ (W : World), LiesY W B0 (some ad) b → LiesY W B0 (some (ad.add K1)) ((b.drop K1).take n)) := fun W hl h0 => by
    rw [List.length_take, List.length_drop] at h0
    obtain ⟨ad', e', h1, h2⟩ := hl (by omega)
    cases e'
    refine ⟨_, rfl, by rw [add_block]; omega, fun j hj => ?_⟩
    rw [List.length_take, List.length_drop] at hj
    rw [add_addY, h2 (K1 + j) (by omega), List.getD_eq_getElem?_getD, List.getD_eq_getElem?_getD, List.getElem?_take, if_pos (by omega), List.getElem?_drop]
  have HD0 : Hid (n = 0 → ∀ (W : World) B A2, LiesY W B A2 ((b.drop K1).take n)) := fun e W B A2 => by
    rw [e, List.take_zero]; exact LiesY.nil
  have htl : ((b.drop K1).take n).length = n := by rw [List.length_take, List.length_drop]; omega
  have HTL := Lib.hid htl
  have ek : ((K1 + n : Nat) : Int) = (K1 : Int) + (n : Int) := by omega
  rw [hT]
  show Calls _ _ _ _ fun r w' => ∃ A2 c2, r = .returned (.tuple #[.agg #[.slice (some ad) b.length c, .int .i64 ((K1 + n : Nat) : Int), .int .i64 0], .slice A2 ((b.drop K1).take n).length c2]) ∧ LiesY w' B0 A2 ((b.drop K1).take n) ∧ Below w.heap.size w w'
  rw [ek, htl]
  clear hT ek htl
  generalize (b.drop K1).take n = T at *
  have HNl := Lib.hid hl
  generalize b.length = N at *
  have hKn : K1 + n ≤ c := by omega
  have hck : ¬ (c : Int) < (K1 : Int) + (n : Int) := by omega
  by_cases hcz : c = K1
  · obtain rfl : n = 0 := by omega
    obtain rfl : K1 = c := by omega
    clear hcz
    have hcz2 : K1 - K1 = 0 := by omega
    have qsl : ∀ (W : World), (Instr.slice 51 (.slice (some ad) N K1) (some (.int .i64 (K1 : Int))) (some (.int .i64 (K1 : Int))) none).run Try.prog W = .ok (.slice (some ad) 0 0) W := by
      intro W
      simp [go_sem, Try.underlying51]
    rw [show (K1 : Int) + ((0 : Nat) : Int) = (K1 : Int) from by omega] at *
    go_enter Try.func81, Try.ntmps81
    go_wp2_with fail
    refine (KU.out).mono ?_
    rintro r w1 ⟨rfl, hb⟩
    have b3 := (HX.out.below hb HX.out.lt).alloc (.cells #[.slice (some ad) N K1, .int .i64 (K1 : Nat), .int .i64 0] 56)
    have b0 := (HX0.out.below hb HX0.out.lt).alloc (.cells #[.slice (some ad) N K1, .int .i64 (K1 : Nat), .int .i64 0] 56)
    obtain ⟨x0, x1, x2, y0, y1, y2⟩ := b3.three
    obtain ⟨z0, z1, z2, f0, f1, f2⟩ := b0.three
    have HBB := Lib.hid ((HW.out.trans (hb.mono HW.out.size)).alloc (HW.out.trans (hb.mono HW.out.size)).size (.cells #[.slice (some ad) N K1, .int .i64 (K1 : Nat), .int .i64 0] 56))
    have HB3 := Lib.hid b3
    have HN1 := Lib.hid (Box.new w1 #[.slice (some ad) N K1, .int .i64 (K1 : Nat), .int .i64 0] 56)
    have hz1 : w.heap.size + 2 ≤ w1.heap.size := by have := hb.size; rw [alloc_size', alloc_size'] at this; omega
    have hne1 : ¬ w1.heap.size = w.heap.size + 1 := by omega
    have hne2 : ¬ w.heap.size + 1 = w1.heap.size := by omega
    clear hb b3 b0 hz1
    go_wp2
    obtain ⟨v0, v1, v2, -, -, -⟩ := HN1.out.three
    have hsz : w1.heap.size < (w1.alloc (.cells #[.slice (some ad) N K1, .int .i64 (K1 : Nat), .int .i64 0] 56)).heap.size := by rw [alloc_size']; omega
    generalize w1.alloc (.cells #[.slice (some ad) N K1, .int .i64 (K1 : Nat), .int .i64 0] 56) = w2 at *
    have HBB := Lib.hid HBB.out.drew
    obtain ⟨x0', x1', x2', y0', y1', y2'⟩ := (box_drew21 HB3.out).three
    go_region
    go_wp2
    have s0 := (HB3.out.set 0 (.slice (some ad) N K1)).cell 0
    have s1 := ((HB3.out.set 0 (.slice (some ad) N K1)).set 1 (.int .i64 (K1 : Int))).cell 1
    have s2 := (((HB3.out.set 0 (.slice (some ad) N K1)).set 1 (.int .i64 (K1 : Int))).set 2 (.int .i64 0)).cell 2
    refine bodyPost_ret (v := .tuple #[.agg #[.slice (some ad) N K1, .int .i64 (K1 : Int), .int .i64 0], .slice (some ad) 0 0]) (by simp [results, Try.results81, go_sem, s0, s1, s2]) rfl ?_
    have hb2 := (((HBB.out.setCell (p := ⟨w.heap.size + 1, 0, none⟩) (by simp) (.slice (some ad) N K1)).setCell (p := ⟨w.heap.size + 1, 1, none⟩) (by simp) (.int .i64 (K1 : Int))).setCell (p := ⟨w.heap.size + 1, 2, none⟩) (by simp) (.int .i64 0))
    exact ⟨_, _, rfl, HD0.out (by trivial) _ _ _, hb2⟩
  · have hcz2 : ¬ c - K1 = 0 := by omega
    have qsl : ∀ (W : World), (Instr.slice 51 (.slice (some ad) N c) (some (.int .i64 (K1 : Int))) (some (.int .i64 ((K1 : Int) + (n : Int)))) none).run Try.prog W = .ok (.slice (some (ad.add K1)) n (c - K1)) W := by
      intro W
      have ht : ((K1 : Int) + (n : Int)).toNat = K1 + n := by omega
      have hz0 : (0 : Int) ≤ (K1 : Int) + (n : Int) := by omega
      simp [go_sem, Try.underlying51, hcN, hcz, hcz2, ht, hz0]
    clear hcz
    go_enter Try.func81, Try.ntmps81
    go_wp2_with fail
    refine (KU.out).mono ?_
    rintro r w1 ⟨rfl, hb⟩
    have b3 := (HX.out.below hb HX.out.lt).alloc (.cells #[.slice (some ad) N c, .int .i64 (K1 : Nat), .int .i64 0] 56)
    have b0 := (HX0.out.below hb HX0.out.lt).alloc (.cells #[.slice (some ad) N c, .int .i64 (K1 : Nat), .int .i64 0] 56)
    obtain ⟨x0, x1, x2, y0, y1, y2⟩ := b3.three
    obtain ⟨z0, z1, z2, f0, f1, f2⟩ := b0.three
    have HBB := Lib.hid ((HW.out.trans (hb.mono HW.out.size)).alloc (HW.out.trans (hb.mono HW.out.size)).size (.cells #[.slice (some ad) N c, .int .i64 (K1 : Nat), .int .i64 0] 56))
    have HB3 := Lib.hid b3
    have HN1 := Lib.hid (Box.new w1 #[.slice (some ad) N c, .int .i64 (K1 : Nat), .int .i64 0] 56)
    have hz1 : w.heap.size + 2 ≤ w1.heap.size := by have := hb.size; rw [alloc_size', alloc_size'] at this; omega
    have hne1 : ¬ w1.heap.size = w.heap.size + 1 := by omega
    have hne2 : ¬ w.heap.size + 1 = w1.heap.size := by omega
    clear hb b3 b0 hz1
    go_wp2
    obtain ⟨v0, v1, v2, -, -, -⟩ := HN1.out.three
    have hsz : w1.heap.size < (w1.alloc (.cells #[.slice (some ad) N c, .int .i64 (K1 : Nat), .int .i64 0] 56)).heap.size := by rw [alloc_size']; omega
    generalize w1.alloc (.cells #[.slice (some ad) N c, .int .i64 (K1 : Nat), .int .i64 0] 56) = w2 at *
    have HBB := Lib.hid HBB.out.drew
    obtain ⟨x0', x1', x2', y0', y1', y2'⟩ := (box_drew21 HB3.out).three
    go_region
    go_wp2
    have s0 := (HB3.out.set 0 (.slice (some ad) N c)).cell 0
    have s1 := ((HB3.out.set 0 (.slice (some ad) N c)).set 1 (.int .i64 ((K1 : Int) + (n : Int)))).cell 1
    have s2 := (((HB3.out.set 0 (.slice (some ad) N c)).set 1 (.int .i64 ((K1 : Int) + (n : Int)))).set 2 (.int .i64 0)).cell 2
    refine bodyPost_ret (v := .tuple #[.agg #[.slice (some ad) N c, .int .i64 ((K1 : Int) + (n : Int)), .int .i64 0], .slice (some (ad.add K1)) n (c - K1)]) (by simp [results, Try.results81, go_sem, s0, s1, s2]) rfl ?_
    have hb2 := (((HBB.out.setCell (p := ⟨w.heap.size + 1, 0, none⟩) (by simp) (.slice (some ad) N c)).setCell (p := ⟨w.heap.size + 1, 1, none⟩) (by simp) (.int .i64 ((K1 : Int) + (n : Int)))).setCell (p := ⟨w.heap.size + 1, 2, none⟩) (by simp) (.int .i64 0))
    exact ⟨_, _, rfl, HDT.out _ (HA.out.below (hb2.mono HB0.out)), hb2⟩
end Go.Proofs.Ytkfmebdpfjjkjaa
