/- Layer 18 (bag): lives. -/
import Derived.Test.YtaeodkpkgbjaeaaBbG
namespace Go.Proofs.Ytaeodkpkgbjaeaa
open Go.RowKit
set_option linter.unusedVariables false
set_option linter.unusedSimpArgs false

abbrev bagL3 : List PQ := [(3, 1), (1, 2), (1, 2)]
theorem lv_kth (w0 : World) (g : Nat) (bx : List (Nat × Array Value)) (W : World) (h : LvS w0 g bx bagL3 W) :
    Calls Try.prog 24 #[.pointer (some ⟨g, 0, none⟩), .int .i64 1] W fun e w' => e = .returned (.tuple #[.agg #[.int .i64 3, .int .i64 1], .int .i64 0]) ∧ Hid (LvS w0 g bx bagL3 w') := by
  have hL := h
  obtain ⟨O, h1, h2, h4, h5⟩ := h
  have K := bag_Kth O g bagL3 0 (by decide) W h1
  refine Calls.mono (by simpa using K) ?_
  rintro e w' ⟨rfl, hb⟩
  exact ⟨rfl, hL.below hb⟩
theorem lv_rank (w0 : World) (g : Nat) (bx : List (Nat × Array Value)) (W : World) (h : LvS w0 g bx bagL3 W) :
    Calls Try.prog 22 #[.pointer (some ⟨g, 0, none⟩), .agg #[.int .i64 1, .int .i64 2]] W fun e w' => e = .returned (.tuple #[.int .i64 1, .int .i64 2, .int .i64 0]) ∧ Hid (LvS w0 g bx bagL3 w') := by
  have hL := h
  obtain ⟨O, h1, h2, h4, h5⟩ := h
  refine (bag_Rank O g bagL3 1 2 (by unfold I64; omega) (by unfold I64; omega) W h1).mono ?_
  rintro e w' ⟨rfl, hb⟩
  refine ⟨?_, hL.below hb⟩
  unfold bagL3
  rw [lv_e5.1, lv_e5.2.1, lv_e5.2.2]; rfl
theorem lv_len (w0 : World) (g : Nat) (bx : List (Nat × Array Value)) (W : World) (h : LvS w0 g bx bagL3 W) :
    Calls Try.prog 19 #[.pointer (some ⟨g, 0, none⟩)] W fun e w' => e = .returned (.int .i64 3) ∧ W = w' := by
  obtain ⟨O, h1, h2, h4, h5⟩ := h
  exact bag_Len O g bagL3 W h1
theorem lv_all (w0 : World) (g : Nat) (bx : List (Nat × Array Value)) (W : World) (h : LvS w0 g bx bagL3 W) :
    Calls Try.prog 21 #[.pointer (some ⟨g, 0, none⟩)] W fun e w' => ∃ A c, e = .returned (.slice A 3 c) ∧ Hid (LvS w0 g bx bagL3 w') := by
  have hL := h
  obtain ⟨O, h1, h2, h4, h5⟩ := h
  refine (bag_all O g bagL3 W h1).mono ?_
  rintro e w' ⟨⟨v, rfl, hv⟩, hb⟩
  obtain ⟨A, c, rfl, -⟩ := OwnS.lies hv
  exact ⟨A, c, rfl, hL.below hb⟩
set_option maxRecDepth 100000 in
set_option maxHeartbeats 8000000 in
theorem lives18 (w : World) : Calls Try.prog 17 #[] w fun e w' => e = .returned (.bool true) ∧ Below w.heap.size w w' := by
  go_enter Try.func17, Try.ntmps17
  go_wp2_with fail
  refine (bag_new w).mono ?_
  rintro e w1 ⟨g, O, rfl, hB, hb, hlo⟩
  have H0 : Hid (LvS w g [(w1.heap.size, #[.int .i64 1, .int .i64 2])] [] (w1.alloc (.cells #[.int .i64 1, .int .i64 2] 24))) := by
    have hal : Below w1.heap.size w1 (w1.alloc (.cells #[.int .i64 1, .int .i64 2] 24)) := (Below.refl _ _).alloc (Nat.le_refl _) _
    refine ⟨O, hB.below hal, fun x hx => ?_, hlo, hb.trans (hal.mono hb.size)⟩
    rw [List.mem_singleton] at hx
    subst hx
    exact ⟨fun hx => by have := hB.lt _ hx; exact Nat.lt_irrefl _ this, Box.new _ _ _⟩
  clear hB hb hlo
  have HBX := Lib.hid (Box.new w1 #[.int .i64 0, .int .i64 0] 24)
  obtain ⟨s0, s1, f0, f1⟩ := HBX.out.two
  go_upto_region 5 with fail
  have c0 := H0.out.cells
  obtain ⟨c0, c1⟩ := c0
  generalize w1.alloc (.cells #[.int .i64 1, .int .i64 2] 24) = W0 at *
  generalize w1.heap.size = gh at *
  go_cut [3, 4, 5] from 13 to 25 (fun a b c wx => a = .int .i64 0 ∧ b = .int .i64 0 ∧ c = .int .i64 0 ∧ Hid (LvS w g [(gh, #[.int .i64 1, .int .i64 2])] bagL3 wx))
  case first =>
    go_wp2_with fail
    go_region_with (first
      | (go_at_call 25; with_reducible refine Calls.mono (lv_add w g gh (.int .i64 1) (.int .i64 2) [] [] [(1, 2)] 1 2 0 (by unfold I64; omega) (by unfold I64; omega) lv_e1.1 lv_e1.2 _ (by first | exact H0.out | exact H0.out.drew | exact H0.out.drewN _)) ?_; rintro e w2 ⟨rfl, ⟨c0, c1⟩, H1⟩)
      | (go_at_call 25; with_reducible refine Calls.mono (lv_add w g gh (.int .i64 1) (.int .i64 2) [] [(1, 2)] [(3, 1), (1, 2)] 3 1 0 (by unfold I64; omega) (by unfold I64; omega) lv_e2.1 lv_e2.2 _ (by first | exact H1.out | exact H1.out.drew | exact H1.out.drewN _)) ?_; rintro e w3 ⟨rfl, ⟨c0, c1⟩, H2⟩)
      | (go_at_call 25; with_reducible refine Calls.mono (lv_add w g gh (.int .i64 1) (.int .i64 2) [] [(3, 1), (1, 2)] [(3, 1), (1, 2), (1, 2)] 1 2 0 (by unfold I64; omega) (by unfold I64; omega) lv_e3.1 lv_e3.2 _ (by first | exact H2.out | exact H2.out.drew | exact H2.out.drewN _)) ?_; rintro e w4 ⟨rfl, ⟨c0, c1⟩, H3⟩))
    all_goals
      go_wp2_with fail
      simp only [Act.put, List.getElem_toArray, List.getElem_cons_succ, List.getElem_cons_zero, List.setIfInBounds_toArray, List.set_cons_succ, List.set_cons_zero]
      go_meet
      exact ⟨rfl, rfl, rfl, H3⟩
  case rest =>
  obtain ⟨rfl, rfl, rfl, HL⟩ := hcut
  clear H0 c0 c1 s0 s1 f0 f1 HBX
  go_wp2_with fail
  refine (lv_kth w g _ _ HL.out).mono ?_
  rintro e w2 ⟨rfl, H2⟩
  have HBX := Lib.hid (Box.new w2 #[.int .i64 0, .int .i64 0] 24)
  obtain ⟨s0, s1, f0, f1⟩ := HBX.out.two
  have H3 := Lib.hid (H2.out.more #[.int .i64 3, .int .i64 1])
  obtain ⟨c0, c1⟩ := H3.out.cells
  go_wp2_with fail
  refine (lv_rank w g _ _ H3.out).mono ?_
  rintro e w3 ⟨rfl, H4⟩
  clear s0 s1 f0 f1 c0 c1 HBX H3 H2
  go_wp2_with fail
  refine (lv_drop w g _ bagL3 bagL3 1 3 4 (by unfold I64; omega) (by unfold I64; omega) lv_e4.1 lv_e4.2 _ H4.out).mono ?_
  rintro e w4 ⟨rfl, H5⟩
  obtain ⟨c0, c1⟩ := H5.out.cells
  obtain ⟨d0, d1, _, _⟩ := (H5.out.box (gh := w2.heap.size) (cs := #[.int .i64 3, .int .i64 1]) (by simp)).two
  go_wp2_with fail
  refine (lv_len w g _ _ H5.out).mono ?_
  rintro e w5 ⟨rfl, rfl⟩
  go_wp2_with fail
  refine (lv_all w g _ _ H5.out).mono ?_
  rintro e w6 ⟨A, cc, rfl, H6⟩
  clear c0 c1 d0 d1
  obtain ⟨c0, c1⟩ := H6.out.cells
  go_wp2_with fail
  refine (bag_add0 1 2 (by unfold I64; omega) (by unfold I64; omega) _).mono ?_
  rintro e w7 ⟨rfl, b7⟩
  have H7 := Lib.hid (H6.out.below b7)
  clear b7 c0 c1
  go_wp2_with fail
  refine (bag_len0 _).mono ?_
  rintro e w8 ⟨rfl, rfl⟩
  go_wp2
  go_ret
  obtain ⟨O7, -, -, -, h7⟩ := H7.out
  exact ⟨rfl, h7⟩
end Go.Proofs.Ytaeodkpkgbjaeaa
