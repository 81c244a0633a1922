import Derived.Test.YtihfhdnldpjjdaaDrawD

/-! What the statements of layer 6 ask of every program. -/
namespace Go.Proofs.Ytihfhdnldpjjdaa
open Go.RowKit
set_option linter.unusedVariables false
set_option linter.unusedSimpArgs false

theorem liesU_new (w : World) (l : List Int) : LiesU (w.alloc (.cells (litu l).toArray 35)) (w.heap.size + 1) (some ⟨w.heap.size, 0, none⟩) l := fun _ => by
  refine ⟨⟨w.heap.size, 0, none⟩, rfl, Nat.lt_succ_self _, fun j hj => ?_⟩
  have h1 : (⟨w.heap.size, 0, none⟩ : Addr).add j = ⟨w.heap.size, j, none⟩ := by unfold Addr.add; split <;> simp_all
  rw [h1, (Box.new w _ _).cell j]
  simp [litu, List.getD, hj]
abbrev liveL : List Int := [18446744073709551615, 7]
theorem live_u : ∀ x ∈ liveL, U64 x := by intro x hx; simp at hx; unfold U64; omega
theorem lb1 : bnd liveL 0 3 2 = (1, 2, 0) := by decide +kernel
theorem lb2 : bnd liveL 0 3 1 = (0, 0, 61) := by decide +kernel
theorem lb3 : bnd liveL 2 3 1 = (0, 0, 60) := by decide +kernel
theorem lb4 : rng liveL 1 (-2) 0 1 = (-1, 2, 0) := by decide +kernel
theorem lb5 : coin liveL 1 2 3 1 = (true, 2, 0) := by decide +kernel
theorem lb6 : nextV liveL 1 = .tuple #[.int .u64 7, .int .i64 2, .int .i64 0] := rfl
theorem lb7 : topN 3 = 18446744073709551614 := by decide +kernel
theorem lb8 : shareN 3 = 6148914691236517205 := by decide +kernel
theorem lb9 : usedL liveL 1 2 = [7] := by decide +kernel
abbrev liveW (w : World) : World := w.alloc (.cells #[.int .u64 18446744073709551615, .int .u64 7] 35)
set_option maxHeartbeats 2000000 in
theorem lives6 (w : World) : Calls Try.prog 32 #[] w fun e w' => e = .returned (.bool true) ∧ Below w.heap.size w w' := by
  have HL : Hid (LiesU (liveW w) (liveW w).heap.size (some ⟨w.heap.size, 0, none⟩) liveL) := by
    have h := liesU_new w liveL
    rw [← alloc_size' w (.cells (litu liveL).toArray 35)] at h
    exact h
  have HA := Lib.hid (fun W (h : Below (liveW w).heap.size (liveW w) W) => (HL.out.below h).mono h.size)
  have KB := Lib.hid (fun W (h : Below (liveW w).heap.size (liveW w) W) a n t (hn : U64 n) (ha : I64 a) => draw_bound (some ⟨w.heap.size, 0, none⟩) liveL 2 a n t W (HA.out W h) live_u (by decide) hn ha)
  have KR := Lib.hid (fun W (h : Below (liveW w).heap.size (liveW w) W) => draw_range (some ⟨w.heap.size, 0, none⟩) liveL 2 1 (-2) 0 1 W (HA.out W h) live_u (by decide) (by unfold I64; omega) (by unfold I64; omega) (by unfold I64; omega))
  have KC := Lib.hid (fun W (h : Below (liveW w).heap.size (liveW w) W) => draw_coin (some ⟨w.heap.size, 0, none⟩) liveL 2 1 2 3 1 W (HA.out W h) live_u (by decide) (by unfold I64; omega) (by unfold I64; omega) (by unfold I64; omega))
  have KN := Lib.hid (fun W (h : Below (liveW w).heap.size (liveW w) W) => draw_next (some ⟨w.heap.size, 0, none⟩) liveL 2 W.heap.size 1 W (HA.out W h) (by decide))
  have KF := Lib.hid (fun W => draw_left (some ⟨w.heap.size, 0, none⟩) 2 2 1 W (by decide))
  have KU := Lib.hid (fun W (h : Below (liveW w).heap.size (liveW w) W) => draw_used (some ⟨w.heap.size, 0, none⟩) liveL 2 1 2 W (HA.out W h) (by decide) (by decide))
  have hb0 : Below w.heap.size w (liveW w) := (Below.refl _ _).alloc (Nat.le_refl _) _
  rw [lb4] at KR
  rw [lb5] at KC
  rw [lb6] at KN
  rw [lb9] at KU
  rw [show leftN 2 1 = 1 from by decide +kernel] at KF
  have KT := Lib.hid (draw_top 3 (by unfold U64; omega))
  have KS := Lib.hid (draw_share 3 (by unfold U64; omega))
  rw [lb7] at KT
  rw [lb8] at KS
  have K1 := Lib.hid (fun W h => KB.out W h 0 3 2 (by unfold U64; omega) (by unfold I64; omega))
  have K2 := Lib.hid (fun W h => KB.out W h 0 3 1 (by unfold U64; omega) (by unfold I64; omega))
  have K3 := Lib.hid (fun W h => KB.out W h 2 3 1 (by unfold U64; omega) (by unfold I64; omega))
  rw [lb1] at K1
  rw [lb2] at K2
  rw [lb3] at K3
  clear KB HL
  have hs0 : w.heap.size ≤ (liveW w).heap.size := by rw [alloc_size']; omega
  go_enter Try.func32, Try.ntmps32
  go_wp2_with fail
  refine (K1.out _ (Below.refl _ _)).mono ?_
  rintro e w1 ⟨rfl, b1⟩
  go_wp2_with fail
  refine (K2.out _ b1).mono ?_
  rintro e w2 ⟨rfl, b2⟩
  have c2 := b1.trans (b2.mono b1.size)
  go_wp2_with fail
  refine (K3.out _ c2).mono ?_
  rintro e w3 ⟨rfl, b3⟩
  have c3 := c2.trans (b3.mono c2.size)
  go_wp2_with fail
  refine (KR.out _ c3).mono ?_
  rintro e w4 ⟨rfl, b4⟩
  have c4 := c3.trans (b4.mono c3.size)
  go_wp2_with fail
  refine (KC.out _ c4).mono ?_
  rintro e w5 ⟨rfl, b5⟩
  have c5 := c4.trans (b5.mono c4.size)
  go_wp2_with fail
  refine (KN.out _ c5).mono ?_
  rintro e w6 ⟨rfl, rfl⟩
  go_wp2_with fail
  refine (KT.out _).mono ?_
  rintro e w6 ⟨rfl, rfl⟩
  go_wp2_with fail
  refine (KS.out _).mono ?_
  rintro e w6 ⟨rfl, rfl⟩
  go_wp2_with fail
  refine (KF.out _).mono ?_
  rintro e w6 ⟨rfl, rfl⟩
  go_wp2_with fail
  refine (KU.out _ c5).mono ?_
  rintro e w6 ⟨A6, c6, rfl, hc6, hm6, hL6, b6⟩
  have c7 := c5.trans (b6.mono c5.size)
  have KK := Lib.hid (fun W (h : LiesU W W.heap.size (some ⟨w6.heap.size, 0, none⟩) [7]) (g : LiesU W W.heap.size A6 [7]) => ref_same6 A6 (some ⟨w6.heap.size, 0, none⟩) [7] [7] c6 1 W.heap.size W g h (by decide) (by decide))
  rw [show decide (([7] : List Int) = [7]) = true from rfl] at KK
  have hN6 : Hid (LiesU (w6.alloc (.cells #[.int .u64 7] 35)) (w6.alloc (.cells #[.int .u64 7] 35)).heap.size (some ⟨w6.heap.size, 0, none⟩) [7]) := by
    have h := liesU_new w6 [7]
    rw [← alloc_size' w6 (.cells (litu [7]).toArray 35)] at h
    exact h
  go_wp2_with fail
  refine (KK.out _ hN6.out ((hL6.below ((Below.refl _ _).alloc (Nat.le_refl _) _)).mono (by rw [alloc_size']; omega))).mono ?_
  rintro e w7 ⟨rfl, n, rfl⟩
  go_wp2
  go_ret
  have c8 := (c7.alloc (by have := c7.size; omega) (.cells #[.int .u64 7] 35))
  exact ⟨rfl, hb0.trans ((below_drewN' c8 n).mono hs0)⟩
end Go.Proofs.Ytihfhdnldpjjdaa
