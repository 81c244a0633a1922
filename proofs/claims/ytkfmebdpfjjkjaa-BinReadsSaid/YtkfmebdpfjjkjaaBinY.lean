/- Layer 21 (bin): the law's ask, the ways of Fail and End. -/
import Derived.Test.YtkfmebdpfjjkjaaBinX
namespace Go.Proofs.Ytkfmebdpfjjkjaa
open Go.RowKit
set_option linter.unusedVariables false
set_option linter.unusedSimpArgs false

set_option maxRecDepth 100000 in
set_option maxHeartbeats 4000000 in
theorem ask21_5 (b : List Int) (A : Option Addr) (c k B g : Nat) (e m : Int) (w : World) (hR : RdAt w B g b k e) : Calls Try.prog 30 #[.pointer (some ⟨g, 0, none⟩), .agg #[.slice A b.length c, .int .i64 (k : Nat), .int .i64 e], .agg #[.int .i64 5, .int .i64 m]] w fun r w' => r = .returned (.tuple #[.agg #[.slice A b.length c, .int .i64 (k : Nat), .int .i64 (failE e m)], .bool true]) ∧ RdAt w' B g b k (failE e m) ∧ Wr g w w' := by
  obtain ⟨hg, hBg, hk, hbl, hby⟩ := hR.lt
  have KE := Lib.hid (fun W => ref_Fail21 A b.length c k e m W)
  have hW : Below w.heap.size w (((w.alloc (.cells #[.slice A b.length c, .int .i64 (k : Nat), .int .i64 e] 56)).alloc (.cells #[.int .i64 5, .int .i64 m] 60)).alloc (.cells #[.slice none 0 0, .int .i64 0, .int .i64 0] 56)) :=
    (((Below.refl _ _).alloc (Nat.le_refl _) _).alloc (by rw [alloc_size']; omega) _).alloc (by rw [alloc_size', alloc_size']; omega) _
  have HR0 := Lib.hid (hR.below hW)
  have HW := Lib.hid (Wr.of g hW)
  have B4 := Lib.hid (((Box.new w #[.slice A b.length c, .int .i64 (k : Nat), .int .i64 e] 56).alloc (.cells #[.int .i64 5, .int .i64 m] 60)).alloc (.cells #[.slice none 0 0, .int .i64 0, .int .i64 0] 56))
  have b5 := (Box.new (w.alloc (.cells #[.slice A b.length c, .int .i64 (k : Nat), .int .i64 e] 56)) #[.int .i64 5, .int .i64 m] 60).alloc (.cells #[.slice none 0 0, .int .i64 0, .int .i64 0] 56)
  rw [alloc_size'] at b5
  have b6 := Box.new ((w.alloc (.cells #[.slice A b.length c, .int .i64 (k : Nat), .int .i64 e] 56)).alloc (.cells #[.int .i64 5, .int .i64 m] 60)) #[.slice none 0 0, .int .i64 0, .int .i64 0] 56
  rw [alloc_size', alloc_size'] at b6
  have B5 := Lib.hid b5
  have B6 := Lib.hid b6
  have hn3 : ¬ w.heap.size + 1 + 1 = g := by omega
  have hn4 : ¬ w.heap.size = g := by omega
  have hn5 : ¬ w.heap.size + 1 = g := by omega
  clear hR hW b5 b6
  generalize hE : (failE e m) = E1 at *
  generalize hN : b.length = N at *
  clear hN
  go_enter Try.func30, Try.ntmps30
  go_wp2_with fail
  refine (rd_Fail HR0.out m).mono ?_
  rintro r w1 ⟨rfl, h1, h2⟩
  rw [hE] at h1
  have HR1 := Lib.hid h1
  have HW1 := Lib.hid (HW.out.trans h2)
  have b4 := h2.box B4.out hn4
  have b5 := h2.box B5.out hn5
  have b6 := Lib.hid (h2.box B6.out hn3)
  obtain ⟨v0, v1, v2, -, -, -⟩ := b4.three
  obtain ⟨t0, t1, -, -⟩ := b5.two
  clear h1 h2 b4 b5
  go_wp2_with fail
  refine (KE.out _).mono ?_
  rintro r w2 ⟨rfl, hb⟩
  skip
  have b3 := b6.out.below hb b6.out.lt
  have HR2 := Lib.hid (HR1.out.below hb)
  have HW2 := Lib.hid (HW1.out.trans (Wr.of g hb))
  obtain ⟨p0, p1, p2, q0, q1, q2⟩ := b3.three
  have B3 := Lib.hid b3
  clear hb b3 v0 v1 v2 t0 t1
  go_wp2
  have s0 := (B3.out.set 0 (.slice A N c)).cell 0
  have s1 := ((B3.out.set 0 (.slice A N c)).set 1 (.int .i64 (k : Nat))).cell 1
  have s2 := (((B3.out.set 0 (.slice A N c)).set 1 (.int .i64 (k : Nat))).set 2 (.int .i64 E1)).cell 2
  refine bodyPost_ret (v := .tuple #[.agg #[.slice A N c, .int .i64 (k : Nat), .int .i64 E1], .bool true]) (by simp [results, Try.results30, go_sem, s0, s1, s2]) rfl ⟨rfl, ?_, ?_⟩
  · exact ((HR2.out.wr (Wr.set (w.heap.size + 1 + 1) 0 _ _) (.inr (by omega))).wr (Wr.set (w.heap.size + 1 + 1) 1 _ _) (.inr (by omega))).wr (Wr.set (w.heap.size + 1 + 1) 2 _ _) (.inr (by omega))
  · exact ((HW2.out.setNew (p := ⟨w.heap.size + 1 + 1, 0, none⟩) (by show w.heap.size ≤ w.heap.size + 1 + 1; omega) _).setNew (p := ⟨w.heap.size + 1 + 1, 1, none⟩) (by show w.heap.size ≤ w.heap.size + 1 + 1; omega) _).setNew (p := ⟨w.heap.size + 1 + 1, 2, none⟩) (by show w.heap.size ≤ w.heap.size + 1 + 1; omega) _
set_option maxRecDepth 100000 in
set_option maxHeartbeats 4000000 in
theorem ask21_6 (b : List Int) (A : Option Addr) (c k B g : Nat) (e m : Int) (K : Int) (hK0 : (K == 0) = false) (hK1 : (K == 1) = false) (hK2 : (K == 2) = false) (hK3 : (K == 3) = false) (hK4 : (K == 4) = false) (hK5 : (K == 5) = false) (w : World) (hR : RdAt w B g b k e) : Calls Try.prog 30 #[.pointer (some ⟨g, 0, none⟩), .agg #[.slice A b.length c, .int .i64 (k : Nat), .int .i64 e], .agg #[.int .i64 K, .int .i64 m]] w fun r w' => r = .returned (.tuple #[.agg #[.slice A b.length c, .int .i64 (k : Nat), .int .i64 (endE b k e)], .bool true]) ∧ RdAt w' B g b k (endE b k e) ∧ Wr g w w' := by
  obtain ⟨hg, hBg, hk, hbl, hby⟩ := hR.lt
  have KE := Lib.hid (fun W => ref_End21 b A c k e W)
  have hW : Below w.heap.size w (((w.alloc (.cells #[.slice A b.length c, .int .i64 (k : Nat), .int .i64 e] 56)).alloc (.cells #[.int .i64 K, .int .i64 m] 60)).alloc (.cells #[.slice none 0 0, .int .i64 0, .int .i64 0] 56)) :=
    (((Below.refl _ _).alloc (Nat.le_refl _) _).alloc (by rw [alloc_size']; omega) _).alloc (by rw [alloc_size', alloc_size']; omega) _
  have HR0 := Lib.hid (hR.below hW)
  have HW := Lib.hid (Wr.of g hW)
  have B4 := Lib.hid (((Box.new w #[.slice A b.length c, .int .i64 (k : Nat), .int .i64 e] 56).alloc (.cells #[.int .i64 K, .int .i64 m] 60)).alloc (.cells #[.slice none 0 0, .int .i64 0, .int .i64 0] 56))
  have b5 := (Box.new (w.alloc (.cells #[.slice A b.length c, .int .i64 (k : Nat), .int .i64 e] 56)) #[.int .i64 K, .int .i64 m] 60).alloc (.cells #[.slice none 0 0, .int .i64 0, .int .i64 0] 56)
  rw [alloc_size'] at b5
  have b6 := Box.new ((w.alloc (.cells #[.slice A b.length c, .int .i64 (k : Nat), .int .i64 e] 56)).alloc (.cells #[.int .i64 K, .int .i64 m] 60)) #[.slice none 0 0, .int .i64 0, .int .i64 0] 56
  rw [alloc_size', alloc_size'] at b6
  have B5 := Lib.hid b5
  have B6 := Lib.hid b6
  have hn3 : ¬ w.heap.size + 1 + 1 = g := by omega
  have hn4 : ¬ w.heap.size = g := by omega
  have hn5 : ¬ w.heap.size + 1 = g := by omega
  clear hR hW b5 b6
  generalize hE : (endE b k e) = E1 at *
  generalize hN : b.length = N at *
  clear hN
  go_enter Try.func30, Try.ntmps30
  go_wp2_with fail
  refine (rd_End HR0.out).mono ?_
  rintro r w1 ⟨rfl, h1, h2⟩
  rw [hE] at h1
  have HR1 := Lib.hid h1
  have HW1 := Lib.hid (HW.out.trans h2)
  have b4 := h2.box B4.out hn4
  have b5 := h2.box B5.out hn5
  have b6 := Lib.hid (h2.box B6.out hn3)
  obtain ⟨v0, v1, v2, -, -, -⟩ := b4.three
  obtain ⟨t0, t1, -, -⟩ := b5.two
  clear h1 h2 b4 b5
  go_wp2_with fail
  refine (KE.out _).mono ?_
  rintro r w2 ⟨rfl, hb⟩
  skip
  have b3 := b6.out.below hb b6.out.lt
  have HR2 := Lib.hid (HR1.out.below hb)
  have HW2 := Lib.hid (HW1.out.trans (Wr.of g hb))
  obtain ⟨p0, p1, p2, q0, q1, q2⟩ := b3.three
  have B3 := Lib.hid b3
  clear hb b3 v0 v1 v2 t0 t1
  go_wp2
  have s0 := (B3.out.set 0 (.slice A N c)).cell 0
  have s1 := ((B3.out.set 0 (.slice A N c)).set 1 (.int .i64 (k : Nat))).cell 1
  have s2 := (((B3.out.set 0 (.slice A N c)).set 1 (.int .i64 (k : Nat))).set 2 (.int .i64 E1)).cell 2
  refine bodyPost_ret (v := .tuple #[.agg #[.slice A N c, .int .i64 (k : Nat), .int .i64 E1], .bool true]) (by simp [results, Try.results30, go_sem, s0, s1, s2]) rfl ⟨rfl, ?_, ?_⟩
  · exact ((HR2.out.wr (Wr.set (w.heap.size + 1 + 1) 0 _ _) (.inr (by omega))).wr (Wr.set (w.heap.size + 1 + 1) 1 _ _) (.inr (by omega))).wr (Wr.set (w.heap.size + 1 + 1) 2 _ _) (.inr (by omega))
  · exact ((HW2.out.setNew (p := ⟨w.heap.size + 1 + 1, 0, none⟩) (by show w.heap.size ≤ w.heap.size + 1 + 1; omega) _).setNew (p := ⟨w.heap.size + 1 + 1, 1, none⟩) (by show w.heap.size ≤ w.heap.size + 1 + 1; omega) _).setNew (p := ⟨w.heap.size + 1 + 1, 2, none⟩) (by show w.heap.size ≤ w.heap.size + 1 + 1; omega) _
end Go.Proofs.Ytkfmebdpfjjkjaa
