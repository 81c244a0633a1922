/- Layer 19 (quant): what the statements ask of every program. -/
import Derived.Test.YtaeodkpkgbjaeaaQuaD
import Derived.Test.YtaeodkpkgbjaeaaScoZ
namespace Go.Proofs.Ytaeodkpkgbjaeaa
open Go.RowKit
set_option linter.unusedVariables false
set_option linter.unusedSimpArgs false

theorem LiesS.up {w w' : World} {A : Option Addr} {l : List PQ} (h : LiesS w w.heap.size A l) (hb : Below w.heap.size w w') : LiesS w' w'.heap.size A l := (h.below hb).mono hb.size
abbrev l19 : List PQ := [(1, 1), (2, 1), (3, 1)]
abbrev s19 : List PQ := [(3, 1), (2, 1), (1, 1)]
theorem sort19 : IsSort l19 s19 := by
  refine ⟨?_, ?_⟩
  · decide +kernel
  · simp only [s19, List.pairwise_cons, leS]
    decide +kernel
theorem nums19 : idN 11 1 10 = 10 ∧ idE 11 1 10 = 0 ∧ (lnS l19 s19 1 2).1 = 2 ∧ (lnS l19 s19 1 2).2 = 1 ∧ lnE l19 1 2 = 0 ∧ ovN 2 1 2 1 = true ∧ cpE 2 1 2 1 = 0 ∧ cnN l19 2 1 = 2 ∧ cnE l19 2 1 = 0 ∧ shP l19 2 1 = 2 ∧ shQ l19 2 1 = 3 ∧ shE l19 2 1 = 0 := by decide +kernel
set_option maxRecDepth 100000 in
set_option maxHeartbeats 8000000 in
theorem lives19 (w : World) : Calls Try.prog 29 #[] w fun e w' => e = .returned (.bool true) ∧ Below w.heap.size w w' := by
  obtain ⟨v1, v2, v3, v4, v5, v6, v7, v8, v9, v10, v11, v12⟩ := nums19
  have i1 : I64 1 := by unfold I64; omega
  have i2 : I64 2 := by unfold I64; omega
  have hO : okS l19 := fun x hx => by
    simp only [l19, List.mem_cons, List.not_mem_nil, or_false] at hx
    rcases hx with rfl | rfl | rfl <;> exact ⟨by unfold I64; omega, by unfold I64; omega⟩
  have K1 := Lib.hid (fun W => qua_index 11 1 10 W)
  have K2 := Lib.hid (fun W g (h : LiesS W W.heap.size (some ⟨g, 0, none⟩) l19) => qua_line (some ⟨g, 0, none⟩) l19 s19 3 1 2 W h hO (by simp) (by simp) (fun h => by cases h) fun _ => sort19)
  have K3 := Lib.hid (fun W => qua_over 2 1 2 1 i2 i1 i2 i1 W)
  have K4 := Lib.hid (fun W g (h : LiesS W W.heap.size (some ⟨g, 0, none⟩) l19) => qua_count (some ⟨g, 0, none⟩) l19 3 2 1 W h hO (by simp) i2 i1)
  have K5 := Lib.hid (fun W g (h : LiesS W W.heap.size (some ⟨g, 0, none⟩) l19) => qua_share (some ⟨g, 0, none⟩) l19 3 2 1 W h hO (by simp) i2 i1)
  have K6 := Lib.hid (fun W => qua_of_nil 1 2 W)
  unfold idV at K1
  unfold lnV at K2
  unfold ovV at K3
  unfold cnV at K4
  unfold shV at K5
  rw [v1, v2] at K1
  rw [v3, v4, v5] at K2
  rw [v6, v7] at K3
  rw [v8, v9] at K4
  rw [v10, v11, v12] at K5
  simp only [List.length_cons, List.length_nil, Nat.zero_add, Nat.reduceAdd] at K2 K4 K5
  clear v1 v2 v3 v4 v5 v6 v7 v8 v9 v10 v11 v12
  have HG := Lib.hid (Box.new w #[.int .i64 1, .int .i64 1, .int .i64 2, .int .i64 1, .int .i64 3, .int .i64 1] 24)
  have HL : Hid (LiesS (w.alloc (.cells #[.int .i64 1, .int .i64 1, .int .i64 2, .int .i64 1, .int .i64 3, .int .i64 1] 24)) (w.alloc (.cells #[.int .i64 1, .int .i64 1, .int .i64 2, .int .i64 1, .int .i64 3, .int .i64 1] 24)).heap.size (some ⟨w.heap.size, 0, none⟩) l19) := (lies_newS w l19 24).mono (by simp)
  have HB := Lib.hid ((Below.refl w.heap.size w).alloc (Nat.le_refl _) (.cells #[.int .i64 1, .int .i64 1, .int .i64 2, .int .i64 1, .int .i64 3, .int .i64 1] 24))
  go_enter Try.func29, Try.ntmps29
  go_wp2_with fail
  refine (K1.out _).mono ?_
  rintro e w1 ⟨rfl, rfl⟩
  go_wp2_with fail
  refine (K2.out _ _ HL.out).mono ?_
  rintro e w2 ⟨rfl, b⟩
  have b := b.trans (((Below.refl w2.heap.size w2).alloc (Nat.le_refl _) (.cells #[.int .i64 2, .int .i64 1] 24)).mono b.size)
  have H4 := Lib.hid (Box.new w2 #[.int .i64 2, .int .i64 1] 24)
  have HG := Lib.hid (HG.out.below b HG.out.lt)
  have HL := Lib.hid (HL.out.up b)
  have HB := Lib.hid (HB.out.trans (b.mono HB.out.size))
  clear b
  obtain ⟨r0, r1, r2, r3⟩ := H4.out.two
  have g2 := (HG.out.cell 2).trans rfl
  have g3 := (HG.out.cell 3).trans rfl
  go_wp2
  have bd := (Below.refl (w2.alloc (.cells #[.int .i64 2, .int .i64 1] 24)).heap.size (w2.alloc (.cells #[.int .i64 2, .int .i64 1] 24))).drew
  have H4 := Lib.hid (H4.out.below bd H4.out.lt)
  have HG := Lib.hid (HG.out.below bd HG.out.lt)
  have HL := Lib.hid (HL.out.up bd)
  have HB := Lib.hid (HB.out.trans (bd.mono HB.out.size))
  clear bd r0 r1 r2 r3 g2 g3
  obtain ⟨r0, r1, r2, r3⟩ := H4.out.two
  have g2 := (HG.out.cell 2).trans rfl
  have g3 := (HG.out.cell 3).trans rfl
  go_region_held3 (fun W => W.cell? ⟨w2.heap.size, 0, none⟩ = some (.int .i64 2) ∧ W.cell? ⟨w2.heap.size, 1, none⟩ = some (.int .i64 1) ∧ W.cell? ⟨w.heap.size, 2, none⟩ = some (.int .i64 2) ∧ W.cell? ⟨w.heap.size, 3, none⟩ = some (.int .i64 1)) (first | assumption | go_keep)
    (first | (go_at_call 93; refine (K3.out _).mono ?_; rintro e w3 ⟨rfl, b⟩; have H4 := Lib.hid (H4.out.below b H4.out.lt); have HG := Lib.hid (HG.out.below b HG.out.lt); have HL := Lib.hid (HL.out.up b); have HB := Lib.hid (HB.out.trans (b.mono HB.out.size)); clear b; obtain ⟨r0, r1, r2, r3⟩ := H4.out.two; have g2 := (HG.out.cell 2).trans rfl; have g3 := (HG.out.cell 3).trans rfl))
  go_wp2_with fail
  refine (K4.out _ _ HL.out).mono ?_
  rintro e w4 ⟨rfl, b⟩
  have H4 := Lib.hid (H4.out.below b H4.out.lt)
  have HG := Lib.hid (HG.out.below b HG.out.lt)
  have HL := Lib.hid (HL.out.up b)
  have HB := Lib.hid (HB.out.trans (b.mono HB.out.size))
  clear b r0 r1 r2 r3 g2 g3
  obtain ⟨r0, r1, r2, r3⟩ := H4.out.two
  go_wp2_with fail
  refine (K5.out _ _ HL.out).mono ?_
  rintro e w5 ⟨rfl, b⟩
  have b := b.trans (((Below.refl w5.heap.size w5).alloc (Nat.le_refl _) (.cells #[.int .i64 2, .int .i64 3] 141)).mono b.size)
  have H5 := Lib.hid (Box.new w5 #[.int .i64 2, .int .i64 3] 141)
  have H4 := Lib.hid (H4.out.below b H4.out.lt)
  have HG := Lib.hid (HG.out.below b HG.out.lt)
  have HB := Lib.hid (HB.out.trans (b.mono HB.out.size))
  clear b r0 r1 r2 r3 HL
  go_wp2_with fail
  refine (K6.out _).mono ?_
  rintro e w6 ⟨rfl, b⟩
  have b := b.trans (((Below.refl w6.heap.size w6).alloc (Nat.le_refl _) (.cells #[.int .i64 0, .int .i64 0] 24)).mono b.size)
  have H5 := Lib.hid (H5.out.below b H5.out.lt)
  have H4 := Lib.hid (H4.out.below b H4.out.lt)
  have HG := Lib.hid (HG.out.below b HG.out.lt)
  have HB := Lib.hid (HB.out.trans (b.mono HB.out.size))
  clear b
  obtain ⟨r0, r1, r2, r3⟩ := H4.out.two
  obtain ⟨z0, z1, z2, z3⟩ := H5.out.two
  have g2 := (HG.out.cell 2).trans rfl
  have g3 := (HG.out.cell 3).trans rfl
  go_wp2
  go_quiet (fail)
  go_wp2
  go_ret
  exact ⟨rfl, below_drewN2 HB.out _⟩
end Go.Proofs.Ytaeodkpkgbjaeaa
