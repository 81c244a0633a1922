/- Layer 24 (crc): what must come of every program. -/
import Derived.Test.YtkfmebdpfjjkjaaDoorCrcE
import Derived.Lib.SmallJoins
namespace Go.Proofs.YtkfmebdpfjjkjaaDoor
open Go.RowKit
set_option linter.unusedVariables false
set_option linter.unusedSimpArgs false

theorem lies_lit {W : World} {g : Nat} (l : List Int) (h : Box W g (l.map (Value.int .u8)).toArray 5) : LiesY W W.heap.size (some ⟨g, 0, none⟩) l := fun _ => ⟨_, rfl, h.lt, fun j hj => by
  rw [addr_addY, h.cell j]
  show (l.map (Value.int .u8)).toArray[j]? = _
  rw [List.getElem?_toArray, List.getElem?_map, List.getD_eq_getElem?_getD, List.getElem?_eq_getElem hj]
  rfl⟩
theorem lies_litC {W : World} (l : List Int) (cs : Array Value) (fr : Nat × Nat) (hc : cs = (litY l).toArray) : LiesY (W.alloc (.cells cs 5 fr)) (W.alloc (.cells cs 5 fr)).heap.size (some ⟨W.heap.size, 0, none⟩) l := fun h0 => by
  have h := heap_alloc_new W (.cells cs 5 fr)
  refine ⟨_, rfl, by rw [alloc_size']; exact Nat.lt_succ_self _, fun j hj => ?_⟩
  rw [addr_addY, cell_of_row _ W.heap.size j cs 5 fr h, hc]
  simp [litY, List.getD, hj]
def l9 : List Int := [49, 50, 51, 52, 53, 54, 55, 56, 57]
def l4 : List Int := [49, 50, 51, 52]
def l5 : List Int := [53, 54, 55, 56, 57]
theorem nums24 : opnC (sealC [97, 98]) = ([97, 98], 0) ∧ opnC [1, 2, 3] = ([], 210) ∧ opnC [1, 0, 0, 0, 0] = ([], 240) ∧ sumC l9 = 3421780262 ∧ sumC [] = 0 ∧ moreC (sumC l4) l5 = 3421780262 ∧ stN (8 * 5) (sumC l4) ^^^ sumC l5 = 3421780262 := by decide +kernel
theorem byts24 : byt [97, 98] ∧ byt [1, 2, 3] ∧ byt [1, 0, 0, 0, 0] ∧ byt l9 ∧ byt l4 ∧ byt l5 := by unfold byt l9 l4 l5; decide
set_option maxRecDepth 100000 in
set_option maxHeartbeats 4000000 in
theorem lives24 (w : World) (hT : TabW w) : Calls Tryd.prog 7 #[] w fun e w' => e = .returned (.bool true) ∧ Below w.heap.size w w' := by
  obtain ⟨n1, n2, n3, n4, n5, n6, n7⟩ := nums24
  obtain ⟨y1, y2, y3, y4, y5, y6⟩ := byts24
  have HT := Lib.hid hT
  have K1 : Hid (∀ W, Below w.heap.size w W → Calls Tryd.prog 15 #[.slice (some ⟨W.heap.size, 0, none⟩) 2 2] (W.alloc (.cells #[.int .u8 97, .int .u8 98] 5 (2, 3))) fun e w' => (∃ A c, e = .returned (.slice A 6 c) ∧ LiesY w' w'.heap.size A (sealC [97, 98]) ∧ 6 ≤ c ∧ c ≤ 9223372036854775807) ∧ Below w.heap.size w w') := fun W h => by
    have hal := h.alloc h.size (.cells #[.int .u8 97, .int .u8 98] 5 (2, 3))
    refine (crc_Seal [97, 98] (some ⟨W.heap.size, 0, none⟩) 2 _ (HT.out.up hal) (lies_litC [97, 98] _ _ rfl) (fun h => by cases h) y1 (by decide)).mono ?_
    rintro e w' ⟨⟨v, rfl, h1⟩, h2⟩
    obtain ⟨A, c, rfl, h3, h4, h5, -, -⟩ := h1.lies
    rw [sealC_len] at h3 ⊢
    exact ⟨⟨A, c, rfl, h5, h3, h4⟩, hal.trans (h2.mono hal.size)⟩
  have K2 : Hid (∀ W A c, Below w.heap.size w W → LiesY W W.heap.size A (sealC [97, 98]) → 6 ≤ c → c ≤ 9223372036854775807 → Calls Tryd.prog 8 #[.slice A 6 c] W fun e w' => (∃ v, e = .returned (.tuple #[v, .int .i64 0]) ∧ OwnsY w' w.heap.size v [97, 98]) ∧ Below w.heap.size w w') := fun W A c h h1 h2 h3 => by
    have k := crc_Open (sealC [97, 98]) A c W (HT.out.up h) h1 (sealC_byt y1) (by rw [sealC_len]; decide) (by rw [sealC_len]; exact h2) h3
    rw [n1, sealC_len] at k
    refine k.mono ?_
    rintro e w' ⟨⟨v, rfl, g1⟩, g2⟩
    refine ⟨⟨v, rfl, g1.1, ?_⟩, h.trans (g2.mono h.size)⟩
    rcases g1.2 with h0 | ⟨g, cap, cur, e1, hbg, hr⟩
    · exact .inl h0
    · exact .inr ⟨g, cap, cur, e1, Nat.le_trans h.size hbg, hr⟩
  have K3 : Hid (∀ W, Below w.heap.size w W → Calls Tryd.prog 8 #[.slice (some ⟨W.heap.size, 0, none⟩) 3 3] (W.alloc (.cells #[.int .u8 1, .int .u8 2, .int .u8 3] 5)) fun e w' => (∃ v, e = .returned (.tuple #[v, .int .i64 210])) ∧ Below W.heap.size W w') := fun W h => by
    have hal := h.alloc h.size (.cells #[.int .u8 1, .int .u8 2, .int .u8 3] 5)
    have hal2 := (Below.refl W.heap.size W).alloc (Nat.le_refl _) (.cells #[.int .u8 1, .int .u8 2, .int .u8 3] 5)
    have k := crc_Open [1, 2, 3] (some ⟨W.heap.size, 0, none⟩) 3 _ (HT.out.up hal) (lies_lit [1, 2, 3] (Box.new W _ _)) y2 (by decide) (by decide) (by decide)
    rw [n2] at k
    refine k.mono ?_
    rintro e w' ⟨⟨v, rfl, g1⟩, g2⟩
    exact ⟨⟨v, rfl⟩, hal2.trans (g2.mono hal2.size)⟩
  have K4 : Hid (∀ W, Below w.heap.size w W → Calls Tryd.prog 8 #[.slice (some ⟨W.heap.size, 0, none⟩) 5 5] (W.alloc (.cells #[.int .u8 1, .int .u8 0, .int .u8 0, .int .u8 0, .int .u8 0] 5)) fun e w' => (∃ v, e = .returned (.tuple #[v, .int .i64 240])) ∧ Below W.heap.size W w') := fun W h => by
    have hal := h.alloc h.size (.cells #[.int .u8 1, .int .u8 0, .int .u8 0, .int .u8 0, .int .u8 0] 5)
    have hal2 := (Below.refl W.heap.size W).alloc (Nat.le_refl _) (.cells #[.int .u8 1, .int .u8 0, .int .u8 0, .int .u8 0, .int .u8 0] 5)
    have k := crc_Open [1, 0, 0, 0, 0] (some ⟨W.heap.size, 0, none⟩) 5 _ (HT.out.up hal) (lies_lit [1, 0, 0, 0, 0] (Box.new W _ _)) y3 (by decide) (by decide) (by decide)
    rw [n3] at k
    refine k.mono ?_
    rintro e w' ⟨⟨v, rfl, g1⟩, g2⟩
    exact ⟨⟨v, rfl⟩, hal2.trans (g2.mono hal2.size)⟩
  have S9 : Hid (∀ W, Below w.heap.size w W → Calls Tryd.prog 10 #[.slice (some ⟨W.heap.size, 0, none⟩) 9 9] (W.alloc (.cells #[.int .u8 49, .int .u8 50, .int .u8 51, .int .u8 52, .int .u8 53, .int .u8 54, .int .u8 55, .int .u8 56, .int .u8 57] 5 (9, 10))) fun e w' => e = .returned (.int .u32 3421780262) ∧ (W.alloc (.cells #[.int .u8 49, .int .u8 50, .int .u8 51, .int .u8 52, .int .u8 53, .int .u8 54, .int .u8 55, .int .u8 56, .int .u8 57] 5 (9, 10))) = w') := fun W h => by
    have k := crc_Sum l9 (some ⟨W.heap.size, 0, none⟩) 9 _ _ (HT.out.up (h.alloc h.size (.cells #[.int .u8 49, .int .u8 50, .int .u8 51, .int .u8 52, .int .u8 53, .int .u8 54, .int .u8 55, .int .u8 56, .int .u8 57] 5 (9, 10)))) (lies_litC (W := W) l9 _ (9, 10) rfl) y4 (by decide)
    rw [n4] at k
    exact k
  have S0 : Hid (∀ W, Below w.heap.size w W → Calls Tryd.prog 10 #[.slice none 0 0] W fun e w' => e = .returned (.int .u32 0) ∧ W = w') := fun W h => by
    have k := crc_Sum [] none 0 0 W (HT.out.up h) LiesY.nil (fun x hx => by cases hx) (by decide)
    rw [n5] at k
    exact k
  have S4 : Hid (∀ W, Below w.heap.size w W → Calls Tryd.prog 10 #[.slice (some ⟨W.heap.size, 0, none⟩) 4 4] (W.alloc (.cells #[.int .u8 49, .int .u8 50, .int .u8 51, .int .u8 52] 5 (4, 5))) fun e w' => e = .returned (.int .u32 (sumC l4 : Nat)) ∧ (W.alloc (.cells #[.int .u8 49, .int .u8 50, .int .u8 51, .int .u8 52] 5 (4, 5))) = w') := fun W h => by
    have k := crc_Sum l4 (some ⟨W.heap.size, 0, none⟩) 4 _ _ (HT.out.up (h.alloc h.size (.cells #[.int .u8 49, .int .u8 50, .int .u8 51, .int .u8 52] 5 (4, 5)))) (lies_litC (W := W) l4 _ (4, 5) rfl) y5 (by decide)
    exact k
  have S5 : Hid (∀ W, Below w.heap.size w W → Calls Tryd.prog 10 #[.slice (some ⟨W.heap.size, 0, none⟩) 5 5] (W.alloc (.cells #[.int .u8 53, .int .u8 54, .int .u8 55, .int .u8 56, .int .u8 57] 5 (5, 6))) fun e w' => e = .returned (.int .u32 (sumC l5 : Nat)) ∧ (W.alloc (.cells #[.int .u8 53, .int .u8 54, .int .u8 55, .int .u8 56, .int .u8 57] 5 (5, 6))) = w') := fun W h => by
    have k := crc_Sum l5 (some ⟨W.heap.size, 0, none⟩) 5 _ _ (HT.out.up (h.alloc h.size (.cells #[.int .u8 53, .int .u8 54, .int .u8 55, .int .u8 56, .int .u8 57] 5 (5, 6)))) (lies_litC (W := W) l5 _ (5, 6) rfl) y6 (by decide)
    exact k
  have M5 : Hid (∀ W, Below w.heap.size w W → Calls Tryd.prog 12 #[.int .u32 (sumC l4 : Nat), .slice (some ⟨W.heap.size, 0, none⟩) 5 5] (W.alloc (.cells #[.int .u8 53, .int .u8 54, .int .u8 55, .int .u8 56, .int .u8 57] 5 (5, 6))) fun e w' => e = .returned (.int .u32 3421780262) ∧ (W.alloc (.cells #[.int .u8 53, .int .u8 54, .int .u8 55, .int .u8 56, .int .u8 57] 5 (5, 6))) = w') := fun W h => by
    have k := crc_More (sumC l4) l5 (some ⟨W.heap.size, 0, none⟩) 5 _ (moreC_lt (by omega) y5) _ (HT.out.up (h.alloc h.size (.cells #[.int .u8 53, .int .u8 54, .int .u8 55, .int .u8 56, .int .u8 57] 5 (5, 6)))) (lies_litC (W := W) l5 _ (5, 6) rfl) y6 (by decide)
    rw [n6] at k
    exact k
  have J5 : Hid (∀ W, Calls Tryd.prog 17 #[.int .u32 (sumC l4 : Nat), .int .u32 (sumC l5 : Nat), .int .i64 5] W fun e w' => e = .returned (.int .u32 3421780262) ∧ W = w') := fun W => by
    have k := crc_Join (sumC l4) (sumC l5) 5 (moreC_lt (by omega) y5) (moreC_lt (by omega) y6) (by decide) W
    rw [n7] at k
    exact k
  have HKC := Lib.hid (fun (w : World) (C : Array Value) (n c g : Nat) (hg : g = w.heap.size) => Go.Joins.run_convert_bytes_const_at (P := Tryd.prog) w 22 5 C n c g hg Tryd.underlying22 Tryd.underlying5)
  have KV : Hid (∀ W v, OwnsY W w.heap.size v [97, 98] → (convert 22 9 v).run Tryd.prog W = .ok (.string ⟨#[97, 98]⟩) W) := fun W v h => by
    obtain ⟨A9, c9, e9, -, -, h9, -, -⟩ := h.lies
    rw [e9]
    exact conv_y W A9 [97, 98] c9 _ h9
  clear n1 n2 n3 n4 n5 n6 n7 y1 y2 y3 y4 y5 y6 hT
  generalize sumC l4 = s4 at *
  generalize sumC l5 = s5 at *
  have q1 := HKC.out w #[.int .u8 97, .int .u8 98] 2 2 w.heap.size rfl
  have HK1 := Lib.hid (K1.out w (Below.refl _ _))
  go_enter Tryd.func7, Tryd.ntmps7
  go_wp2_with fail
  refine (HK1.out).mono ?_
  rintro e w1 ⟨⟨A1, c1, rfl, g1, g3, g4⟩, g2⟩
  have HK2 := Lib.hid (K2.out w1 A1 c1 g2 g1 g3 g4)
  clear q1 HK1 K1 K2 g1 g2 g3 g4
  go_wp2_with fail
  refine (HK2.out).mono ?_
  rintro e w2 ⟨⟨v1, rfl, g1⟩, g2⟩
  have HV := Lib.hid g1
  have HB := Lib.hid g2
  have HK3 := Lib.hid (K3.out w2 g2)
  clear g1 g2 K3 HK2
  go_wp2_with fail
  refine (HK3.out).mono ?_
  rintro e w3 ⟨⟨v2, rfl⟩, g2⟩
  have HV := Lib.hid (HV.out.below g2)
  have HB := Lib.hid (HB.out.trans (g2.mono HB.out.size))
  have HK4 := Lib.hid (K4.out w3 HB.out)
  clear g2 K4 HK3
  go_wp2_with fail
  refine (HK4.out).mono ?_
  rintro e w4 ⟨⟨v3, rfl⟩, g2⟩
  have HV := Lib.hid (HV.out.below g2)
  have HB := Lib.hid (HB.out.trans (g2.mono HB.out.size))
  have HK5 := Lib.hid (S9.out w4 HB.out)
  have q9 := HKC.out w4 #[.int .u8 49, .int .u8 50, .int .u8 51, .int .u8 52, .int .u8 53, .int .u8 54, .int .u8 55, .int .u8 56, .int .u8 57] 9 9 w4.heap.size rfl
  clear g2 HK4 S9
  go_wp2_with fail
  refine (HK5.out).mono ?_
  rintro e w5 ⟨rfl, hw⟩
  have hal := (Below.refl w4.heap.size w4).alloc (Nat.le_refl _) (.cells #[.int .u8 49, .int .u8 50, .int .u8 51, .int .u8 52, .int .u8 53, .int .u8 54, .int .u8 55, .int .u8 56, .int .u8 57] 5 (9, 10))
  rw [hw] at hal
  have HV := Lib.hid (HV.out.below hal)
  have HB := Lib.hid (HB.out.trans (hal.mono HB.out.size))
  clear hw hal
  have HK6 := Lib.hid (S0.out w5 HB.out)
  clear q9 HK5 S0
  go_wp2_with fail
  refine (HK6.out).mono ?_
  rintro e wq ⟨rfl, rfl⟩
  have HK7 := Lib.hid (S4.out w5 HB.out)
  have q4 := HKC.out w5 #[.int .u8 49, .int .u8 50, .int .u8 51, .int .u8 52] 4 4 w5.heap.size rfl
  clear HK6
  go_wp2_with fail
  refine (HK7.out).mono ?_
  rintro e w6 ⟨rfl, hw⟩
  have hal := (Below.refl w5.heap.size w5).alloc (Nat.le_refl _) (.cells #[.int .u8 49, .int .u8 50, .int .u8 51, .int .u8 52] 5 (4, 5))
  rw [hw] at hal
  have HV := Lib.hid (HV.out.below hal)
  have HB := Lib.hid (HB.out.trans (hal.mono HB.out.size))
  clear hw hal
  have HK8 := Lib.hid (M5.out w6 HB.out)
  have q5 := HKC.out w6 #[.int .u8 53, .int .u8 54, .int .u8 55, .int .u8 56, .int .u8 57] 5 5 w6.heap.size rfl
  clear HK7 q4 M5
  go_wp2_with fail
  refine (HK8.out).mono ?_
  rintro e w7 ⟨rfl, hw⟩
  have hal := (Below.refl w6.heap.size w6).alloc (Nat.le_refl _) (.cells #[.int .u8 53, .int .u8 54, .int .u8 55, .int .u8 56, .int .u8 57] 5 (5, 6))
  rw [hw] at hal
  have HV := Lib.hid (HV.out.below hal)
  have HB := Lib.hid (HB.out.trans (hal.mono HB.out.size))
  clear hw hal
  have HK9 := Lib.hid (S4.out w7 HB.out)
  have q4 := HKC.out w7 #[.int .u8 49, .int .u8 50, .int .u8 51, .int .u8 52] 4 4 w7.heap.size rfl
  clear HK8 q5 S4
  go_wp2_with fail
  refine (HK9.out).mono ?_
  rintro e w8 ⟨rfl, hw⟩
  have hal := (Below.refl w7.heap.size w7).alloc (Nat.le_refl _) (.cells #[.int .u8 49, .int .u8 50, .int .u8 51, .int .u8 52] 5 (4, 5))
  rw [hw] at hal
  have HV := Lib.hid (HV.out.below hal)
  have HB := Lib.hid (HB.out.trans (hal.mono HB.out.size))
  clear hw hal
  have HK10 := Lib.hid (S5.out w8 HB.out)
  have q5 := HKC.out w8 #[.int .u8 53, .int .u8 54, .int .u8 55, .int .u8 56, .int .u8 57] 5 5 w8.heap.size rfl
  clear HK9 q4 S5
  go_wp2_with fail
  refine (HK10.out).mono ?_
  rintro e w9 ⟨rfl, hw⟩
  have hal := (Below.refl w8.heap.size w8).alloc (Nat.le_refl _) (.cells #[.int .u8 53, .int .u8 54, .int .u8 55, .int .u8 56, .int .u8 57] 5 (5, 6))
  rw [hw] at hal
  have HV := Lib.hid (HV.out.below hal)
  have HB := Lib.hid (HB.out.trans (hal.mono HB.out.size))
  clear hw hal
  clear HK10 q5
  have kv := KV.out _ _ HV.out
  go_wp2_with fail
  refine (J5.out _).mono ?_
  rintro e wq ⟨rfl, rfl⟩
  go_wp2
  go_ret
  exact ⟨rfl, HB.out⟩
end Go.Proofs.YtkfmebdpfjjkjaaDoor
