/- Layer 21 (bin): the law's ask. -/
import Derived.Test.YtkfmebdpfjjkjaaBinV
import Derived.Deep.RegionWith
namespace Go.Proofs.Ytkfmebdpfjjkjaa
open Go.RowKit
set_option linter.unusedVariables false
set_option linter.unusedSimpArgs false

theorem Wr.setNew {g : Nat} {w X : World} {p : Addr} (h : Wr g w X) (hp : w.heap.size ≤ p.block) (u : Value) : Wr g w (X.setCell p u) :=
  ⟨h.os, h.tape, h.output, Nat.le_trans h.size (by simp [World.setCell]), fun k hk hg => (Below.heap_setCell _ _ _ _ (by omega)).trans (h.block k hk hg)⟩
set_option maxRecDepth 100000 in
set_option maxHeartbeats 4000000 in
theorem ask21_0 (b : List Int) (A : Option Addr) (c k B g : Nat) (e m : Int) (w : World) (hR : RdAt w B g b k e) (hA : LiesY w w.heap.size A b) : Calls Try.prog 30 #[.pointer (some ⟨g, 0, none⟩), .agg #[.slice A b.length c, .int .i64 (k : Nat), .int .i64 e], .agg #[.int .i64 0, .int .i64 m]] w fun r w' => r = .returned (.tuple #[.agg #[.slice A b.length c, .int .i64 ((rU b k e).1.1 : Nat), .int .i64 (rU b k e).1.2], .bool true]) ∧ RdAt w' B g b (rU b k e).1.1 (rU b k e).1.2 ∧ Wr g w w' := by
  obtain ⟨hg, hBg, hk, hbl, hby⟩ := hR.lt
  have KU : Hid (∀ W, Below w.heap.size w W → Calls Try.prog 77 #[.agg #[.slice A b.length c, .int .i64 (k : Nat), .int .i64 e]] W (RefU A b.length c (rU b k e) W)) := fun W h => ref_ReadU21 b A c k e W ((hA.below h).mono h.size) hby hbl hk
  have KR := Lib.hid (fun W (h : RdAt W B g b k e) => rd_U h)
  have HR := Lib.hid hR
  have hW : Below w.heap.size w (((w.alloc (.cells #[.slice A b.length c, .int .i64 (k : Nat), .int .i64 e] 56)).alloc (.cells #[.int .i64 0, .int .i64 m] 60)).alloc (.cells #[.slice none 0 0, .int .i64 0, .int .i64 0] 56)) :=
    (((Below.refl _ _).alloc (Nat.le_refl _) _).alloc (by rw [alloc_size']; omega) _).alloc (by rw [alloc_size', alloc_size']; omega) _
  have HW := Lib.hid hW
  clear hR hA hW
  unfold RefU at KU
  generalize (rU b k e).2 = n at *
  generalize (rU b k e).1.1 = K1 at *
  generalize (rU b k e).1.2 = E1 at *
  generalize hN : b.length = N at *
  clear hN
  go_enter Try.func30, Try.ntmps30
  go_wp2_with fail
  refine (KU.out _ HW.out).mono ?_
  rintro r w1 ⟨rfl, hb⟩
  have hz : w.heap.size + 3 ≤ w1.heap.size := by
    have := hb.size
    rw [alloc_size', alloc_size', alloc_size'] at this
    omega
  have hbw := HW.out.trans (hb.mono HW.out.size)
  have b6 : Box (w1.alloc (.cells #[.slice A N c, .int .i64 (K1 : Nat), .int .i64 E1] 56)) (w.heap.size + 1 + 1) #[.slice none 0 0, .int .i64 0, .int .i64 0] 56 := by
    have h0 := Box.new ((w.alloc (.cells #[.slice A N c, .int .i64 (k : Nat), .int .i64 e] 56)).alloc (.cells #[.int .i64 0, .int .i64 m] 60)) #[.slice none 0 0, .int .i64 0, .int .i64 0] 56
    have h1 := (h0.below hb h0.lt).alloc (.cells #[.slice A N c, .int .i64 (K1 : Nat), .int .i64 E1] 56)
    rw [alloc_size', alloc_size'] at h1
    exact h1
  have b8 := Box.new w1 #[.slice A N c, .int .i64 (K1 : Nat), .int .i64 E1] 56
  have hbw2 := hbw.alloc hbw.size (.cells #[.slice A N c, .int .i64 (K1 : Nat), .int .i64 E1] 56)
  have HRD : Hid (RdAt (w1.alloc (.cells #[.slice A N c, .int .i64 (K1 : Nat), .int .i64 E1] 56)).drew B g b k e) := (HR.out.below hbw2).below (Below.refl _ _).drew
  have HWD : Hid (Wr g w (w1.alloc (.cells #[.slice A N c, .int .i64 (K1 : Nat), .int .i64 E1] 56)).drew) := Wr.of g hbw2.drew
  have hn1 : ¬ w1.heap.size = w.heap.size + 1 + 1 := by omega
  have hn2 : ¬ w.heap.size + 1 + 1 = w1.heap.size := by omega
  have hn3 : ¬ w.heap.size + 1 + 1 = g := by omega
  have hn4 : ¬ w1.heap.size = g := by omega
  clear hb hbw hbw2 KU HW HR
  go_wp2
  generalize w1.heap.size = G8 at *
  generalize w1.alloc (.cells #[.slice A N c, .int .i64 (K1 : Nat), .int .i64 E1] 56) = w2 at *
  have HB6 : Hid (∀ W, Wr g w2.drew W → Box W (w.heap.size + 1 + 1) #[.slice none 0 0, .int .i64 0, .int .i64 0] 56) := fun W h => h.box (box_drew21 b6) hn3
  have HB8 : Hid (∀ W, Wr g w2.drew W → Box W G8 #[.slice A N c, .int .i64 (K1 : Nat), .int .i64 E1] 56) := fun W h => h.box (box_drew21 b8) hn4
  obtain ⟨v0, v1, v2, -, -, -⟩ := b8.three
  obtain ⟨v0', v1', v2', -, -, -⟩ := (box_drew21 b8).three
  have HB8' := Lib.hid b8
  have HB6' := Lib.hid b6
  clear b6 b8
  go_region_with (go_at_call 71; refine (KR.out _ HRD.out).mono ?_; rintro r w3 ⟨rfl, g1, g2⟩; have HR3 := Lib.hid g1; have HW3 := Lib.hid g2; obtain ⟨p0, p1, p2, q0, q1, q2⟩ := (HB6.out _ g2).three; obtain ⟨u0, u1, u2, -, -, -⟩ := (HB8.out _ g2).three; clear g1 g2)
  all_goals
    go_wp2
    have b3 := HB6.out _ HW3.out
    have s0 := (b3.set 0 (.slice A N c)).cell 0
    have s1 := ((b3.set 0 (.slice A N c)).set 1 (.int .i64 (K1 : Nat))).cell 1
    have s2 := (((b3.set 0 (.slice A N c)).set 1 (.int .i64 (K1 : Nat))).set 2 (.int .i64 E1)).cell 2
    refine bodyPost_ret (v := .tuple #[.agg #[.slice A N c, .int .i64 (K1 : Nat), .int .i64 E1], .bool true]) (by simp [results, Try.results30, go_sem, s0, s1, s2]) rfl ⟨rfl, ?_, ?_⟩
    · exact ((HR3.out.wr (Wr.set (w.heap.size + 1 + 1) 0 _ _) (.inr (by omega))).wr (Wr.set (w.heap.size + 1 + 1) 1 _ _) (.inr (by omega))).wr (Wr.set (w.heap.size + 1 + 1) 2 _ _) (.inr (by omega))
    · exact (((HWD.out.trans HW3.out).setNew (p := ⟨w.heap.size + 1 + 1, 0, none⟩) (by show w.heap.size ≤ w.heap.size + 1 + 1; omega) _).setNew (p := ⟨w.heap.size + 1 + 1, 1, none⟩) (by show w.heap.size ≤ w.heap.size + 1 + 1; omega) _).setNew (p := ⟨w.heap.size + 1 + 1, 2, none⟩) (by show w.heap.size ≤ w.heap.size + 1 + 1; omega) _
set_option maxRecDepth 100000 in
set_option maxHeartbeats 4000000 in
theorem ask21_2 (b : List Int) (A : Option Addr) (c k B g : Nat) (e m : Int) (w : World) (hR : RdAt w B g b k e) (hA : LiesY w w.heap.size A b) : Calls Try.prog 30 #[.pointer (some ⟨g, 0, none⟩), .agg #[.slice A b.length c, .int .i64 (k : Nat), .int .i64 e], .agg #[.int .i64 2, .int .i64 m]] w fun r w' => r = .returned (.tuple #[.agg #[.slice A b.length c, .int .i64 ((rU b k e).1.1 : Nat), .int .i64 (rU b k e).1.2], .bool true]) ∧ RdAt w' B g b (rU b k e).1.1 (rU b k e).1.2 ∧ Wr g w w' := by
  obtain ⟨hg, hBg, hk, hbl, hby⟩ := hR.lt
  have KU : Hid (∀ W, Below w.heap.size w W → Calls Try.prog 80 #[.agg #[.slice A b.length c, .int .i64 (k : Nat), .int .i64 e]] W fun r w' => r = .returned (.tuple #[.agg #[.slice A b.length c, .int .i64 ((rU b k e).1.1 : Nat), .int .i64 (rU b k e).1.2], .int .i64 (unfoldI (rU b k e).2)]) ∧ Below W.heap.size W w') := fun W h => ref_ReadI21 b A c k e W ((hA.below h).mono h.size) hby hbl hk
  have KR := Lib.hid (fun W (h : RdAt W B g b k e) => rd_I h)
  have HR := Lib.hid hR
  have hW : Below w.heap.size w (((w.alloc (.cells #[.slice A b.length c, .int .i64 (k : Nat), .int .i64 e] 56)).alloc (.cells #[.int .i64 2, .int .i64 m] 60)).alloc (.cells #[.slice none 0 0, .int .i64 0, .int .i64 0] 56)) :=
    (((Below.refl _ _).alloc (Nat.le_refl _) _).alloc (by rw [alloc_size']; omega) _).alloc (by rw [alloc_size', alloc_size']; omega) _
  have HW := Lib.hid hW
  clear hR hA hW
  generalize unfoldI (rU b k e).2 = n at *
  generalize (rU b k e).1.1 = K1 at *
  generalize (rU b k e).1.2 = E1 at *
  generalize hN : b.length = N at *
  clear hN
  go_enter Try.func30, Try.ntmps30
  go_wp2_with fail
  refine (KU.out _ HW.out).mono ?_
  rintro r w1 ⟨rfl, hb⟩
  have hz : w.heap.size + 3 ≤ w1.heap.size := by
    have := hb.size
    rw [alloc_size', alloc_size', alloc_size'] at this
    omega
  have hbw := HW.out.trans (hb.mono HW.out.size)
  have b6 : Box (w1.alloc (.cells #[.slice A N c, .int .i64 (K1 : Nat), .int .i64 E1] 56)) (w.heap.size + 1 + 1) #[.slice none 0 0, .int .i64 0, .int .i64 0] 56 := by
    have h0 := Box.new ((w.alloc (.cells #[.slice A N c, .int .i64 (k : Nat), .int .i64 e] 56)).alloc (.cells #[.int .i64 2, .int .i64 m] 60)) #[.slice none 0 0, .int .i64 0, .int .i64 0] 56
    have h1 := (h0.below hb h0.lt).alloc (.cells #[.slice A N c, .int .i64 (K1 : Nat), .int .i64 E1] 56)
    rw [alloc_size', alloc_size'] at h1
    exact h1
  have b8 := Box.new w1 #[.slice A N c, .int .i64 (K1 : Nat), .int .i64 E1] 56
  have hbw2 := hbw.alloc hbw.size (.cells #[.slice A N c, .int .i64 (K1 : Nat), .int .i64 E1] 56)
  have HRD : Hid (RdAt (w1.alloc (.cells #[.slice A N c, .int .i64 (K1 : Nat), .int .i64 E1] 56)).drew B g b k e) := (HR.out.below hbw2).below (Below.refl _ _).drew
  have HWD : Hid (Wr g w (w1.alloc (.cells #[.slice A N c, .int .i64 (K1 : Nat), .int .i64 E1] 56)).drew) := Wr.of g hbw2.drew
  have hn1 : ¬ w1.heap.size = w.heap.size + 1 + 1 := by omega
  have hn2 : ¬ w.heap.size + 1 + 1 = w1.heap.size := by omega
  have hn3 : ¬ w.heap.size + 1 + 1 = g := by omega
  have hn4 : ¬ w1.heap.size = g := by omega
  clear hb hbw hbw2 KU HW HR
  go_wp2
  generalize w1.heap.size = G8 at *
  generalize w1.alloc (.cells #[.slice A N c, .int .i64 (K1 : Nat), .int .i64 E1] 56) = w2 at *
  have HB6 : Hid (∀ W, Wr g w2.drew W → Box W (w.heap.size + 1 + 1) #[.slice none 0 0, .int .i64 0, .int .i64 0] 56) := fun W h => h.box (box_drew21 b6) hn3
  have HB8 : Hid (∀ W, Wr g w2.drew W → Box W G8 #[.slice A N c, .int .i64 (K1 : Nat), .int .i64 E1] 56) := fun W h => h.box (box_drew21 b8) hn4
  obtain ⟨v0, v1, v2, -, -, -⟩ := b8.three
  obtain ⟨v0', v1', v2', -, -, -⟩ := (box_drew21 b8).three
  have HB8' := Lib.hid b8
  have HB6' := Lib.hid b6
  clear b6 b8
  go_region_with (go_at_call 72; refine (KR.out _ HRD.out).mono ?_; rintro r w3 ⟨rfl, g1, g2⟩; have HR3 := Lib.hid g1; have HW3 := Lib.hid g2; obtain ⟨p0, p1, p2, q0, q1, q2⟩ := (HB6.out _ g2).three; obtain ⟨u0, u1, u2, -, -, -⟩ := (HB8.out _ g2).three; clear g1 g2)
  all_goals
    go_wp2
    have b3 := HB6.out _ HW3.out
    have s0 := (b3.set 0 (.slice A N c)).cell 0
    have s1 := ((b3.set 0 (.slice A N c)).set 1 (.int .i64 (K1 : Nat))).cell 1
    have s2 := (((b3.set 0 (.slice A N c)).set 1 (.int .i64 (K1 : Nat))).set 2 (.int .i64 E1)).cell 2
    refine bodyPost_ret (v := .tuple #[.agg #[.slice A N c, .int .i64 (K1 : Nat), .int .i64 E1], .bool true]) (by simp [results, Try.results30, go_sem, s0, s1, s2]) rfl ⟨rfl, ?_, ?_⟩
    · exact ((HR3.out.wr (Wr.set (w.heap.size + 1 + 1) 0 _ _) (.inr (by omega))).wr (Wr.set (w.heap.size + 1 + 1) 1 _ _) (.inr (by omega))).wr (Wr.set (w.heap.size + 1 + 1) 2 _ _) (.inr (by omega))
    · exact (((HWD.out.trans HW3.out).setNew (p := ⟨w.heap.size + 1 + 1, 0, none⟩) (by show w.heap.size ≤ w.heap.size + 1 + 1; omega) _).setNew (p := ⟨w.heap.size + 1 + 1, 1, none⟩) (by show w.heap.size ≤ w.heap.size + 1 + 1; omega) _).setNew (p := ⟨w.heap.size + 1 + 1, 2, none⟩) (by show w.heap.size ≤ w.heap.size + 1 + 1; omega) _
end Go.Proofs.Ytkfmebdpfjjkjaa
