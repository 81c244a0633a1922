/- What the statements of layer 13 ask of every program. -/
import Derived.Test.YtiepfkhbebdkeaaDoorScoD
import Derived.Test.YtiepfkhbebdkeaaDoorScoV
namespace Go.Proofs.YtiepfkhbebdkeaaDoor
open Go.RowKit
set_option linter.unusedVariables false
set_option linter.unusedSimpArgs false
set_option maxRecDepth 100000

theorem i64s {n : Int} (h : -9223372036854775808 ≤ n ∧ n ≤ 9223372036854775807) : I64 n := h
theorem live13_of1 (w : World) : Calls Tryd.prog 8 #[.int .i64 6442450944, .int .i64 4] w fun e w' => e = .returned (.tuple #[.agg #[.int .i64 1610612736, .int .i64 1], .int .i64 0]) ∧ Below w.heap.size w w' := by
  have h := sco_of 6442450944 4 (i64s (by omega)) (i64s (by omega)) w
  unfold scV at h
  rw [show scP 6442450944 4 = 1610612736 by decide +kernel, show scQ 6442450944 4 = 1 by decide +kernel, show scE 6442450944 4 = 0 by decide +kernel] at h
  exact h
theorem live13_of2 (w : World) : Calls Tryd.prog 8 #[.int .i64 1073741824, .int .i64 1] w fun e w' => e = .returned (.tuple #[.agg #[.int .i64 1073741824, .int .i64 1], .int .i64 0]) ∧ Below w.heap.size w w' := by
  have h := sco_of 1073741824 1 (i64s (by omega)) (i64s (by omega)) w
  unfold scV at h
  rw [show scP 1073741824 1 = 1073741824 by decide +kernel, show scQ 1073741824 1 = 1 by decide +kernel, show scE 1073741824 1 = 0 by decide +kernel] at h
  exact h
theorem live13_cmp (w : World) : Calls Tryd.prog 14 #[.agg #[.int .i64 1073741824, .int .i64 1], .agg #[.int .i64 1610612736, .int .i64 1]] w fun e w' => e = .returned (.tuple #[.int .i64 1, .int .i64 0]) ∧ Below w.heap.size w w' := by
  have h := sco_cmp 1073741824 1 1610612736 1 (i64s (by omega)) (i64s (by omega)) (i64s (by omega)) (i64s (by omega)) w
  unfold cpV at h
  rw [show cpN 1073741824 1 1610612736 1 = 1 by decide +kernel, show cpE 1073741824 1 1610612736 1 = 0 by decide +kernel] at h
  exact h
theorem live13_level (w : World) : Calls Tryd.prog 16 #[.agg #[.int .i64 1610612736, .int .i64 1], .int .i64 2] w fun e w' => e = .returned (.tuple #[.int .i64 400, .int .i64 0]) ∧ Below w.heap.size w w' := by
  have h := sco_level 1610612736 1 2 (i64s (by omega)) (i64s (by omega)) w
  unfold lvV at h
  rw [show lvN 1610612736 1 2 = 400 by decide +kernel, show lvE 1610612736 1 2 = 0 by decide +kernel] at h
  exact h
theorem live13_mean (w : World) : Calls Tryd.prog 13 #[.agg #[.int .i64 1610612736, .int .i64 1]] w fun e w' => e = .returned (.tuple #[.int .i64 1610612736, .int .i64 0]) ∧ Below w.heap.size w w' := by
  have h := sco_mean 1610612736 1 (i64s (by omega)) (i64s (by omega)) w
  unfold mnV at h
  rw [show mnN 1610612736 1 = 1610612736 by decide +kernel, show mnE 1610612736 1 = 0 by decide +kernel] at h
  exact h
abbrev lvs : List PQ := [(1610612736, 1), (1073741824, 1)]
theorem lvs_ok : okS lvs := okS_two (i64s (by omega)) (i64s (by omega)) (i64s (by omega)) (i64s (by omega))
theorem lvs_all : allS lvs = true := by decide +kernel
theorem lvs_all2 : allS [((1073741824 : Int), (1 : Int)), (1610612736, 1)] = true := by decide +kernel
theorem lvs_sort : IsSort [((1073741824 : Int), (1 : Int)), (1610612736, 1)] lvs := by
  refine ⟨List.Perm.swap _ _ _, ?_⟩
  rw [List.pairwise_cons]
  refine ⟨?_, List.pairwise_singleton _ _⟩
  intro y hy
  rw [List.mem_singleton] at hy
  subst hy
  decide +kernel
theorem live13_sort (g : Nat) (W : World) (hg : W.heap.size = g) : Calls Tryd.prog 18 #[.slice (some ⟨g, 0, none⟩) 2 2] (W.alloc (.cells #[.int .i64 1073741824, .int .i64 1, .int .i64 1610612736, .int .i64 1] 23))
    fun e w' => ∃ A c, e = .returned (.tuple #[.slice A 2 c, .int .i64 0]) ∧ LiesS w' w'.heap.size A lvs ∧ Below W.heap.size W w' := by
  subst hg
  have h := sco_sort_ok (some ⟨W.heap.size, 0, none⟩) [(1073741824, 1), (1610612736, 1)] 2 2 (W.alloc (.cells (celS [(1073741824, 1), (1610612736, 1)]).toArray 23)) rfl (by omega) (by omega) (fun h => by cases h) ((lies_newS W _ _).mono (by simp)) (okS_two (i64s (by omega)) (i64s (by omega)) (i64s (by omega)) (i64s (by omega))) lvs_all2
  refine Calls.mono h fun e w' h => ?_
  obtain ⟨s, A, c, he, hL, hb, hs⟩ := h
  obtain rfl := hs.same (all_okP lvs_all2) lvs_sort
  exact ⟨A, c, he, hL, ((Below.refl _ _).alloc (Nat.le_refl _) _).trans (hb.mono (by simp))⟩
theorem live13_oddest (A : Option Addr) (c : Nat) (w : World) (hL : LiesS w w.heap.size A lvs) : Calls Tryd.prog 20 #[.slice A 2 c] w fun e w' => e = .returned (.tuple #[.int .i64 1, .int .i64 0]) ∧ Below w.heap.size w w' := by
  have h := sco_oddest A lvs 2 c w rfl (by omega) hL lvs_ok
  unfold odV at h
  rw [show odN lvs = 1 by decide +kernel, show odE lvs = 0 by decide +kernel] at h
  exact h
theorem live13_same (A : Option Addr) (c g : Nat) (W : World) (hg : W.heap.size = g) (hL : LiesS W W.heap.size A lvs) : Calls Tryd.prog 22 #[.slice A 2 c, .slice (some ⟨g, 0, none⟩) 2 2] (W.alloc (.cells #[.int .i64 1610612736, .int .i64 1, .int .i64 1073741824, .int .i64 1] 23))
    fun e w' => e = .returned (.bool true) ∧ Below W.heap.size W w' := by
  subst hg
  have h := ref13_same A (some ⟨W.heap.size, 0, none⟩) lvs lvs 2 2 c 2 W.heap.size (W.heap.size + 1) (W.alloc (.cells (celS lvs).toArray 23)) rfl rfl (hL.below ((Below.refl _ _).alloc (Nat.le_refl _) _)) (lies_newS W _ _) (by omega) (by omega)
  refine Calls.mono h fun e w' h => ?_
  obtain ⟨he, n, rfl⟩ := h
  refine ⟨?_, below_drewN ((Below.refl _ _).alloc (Nat.le_refl _) _) n⟩
  rw [he]
  simp
abbrev s13 : ByteArray := ⟨#[49, 47, 51]⟩
theorem stx_13 : stx 1 3 = s13.data.toList := by
  have hv : ScoOk 1 3 := by decide +kernel
  unfold stx itxt
  rw [if_pos hv, if_neg (by decide), if_neg (by decide), txt_small (by decide), txt_small (by decide)]
  rfl
theorem live13_parse (w : World) (ht : Tab w) (he : Ers w) : Calls Tryd.prog 24 #[.string s13] w fun e w' => e = .returned (.tuple #[.agg #[.int .i64 1, .int .i64 3], .int .i64 0]) ∧ Below w.heap.size w w' := by
  have h := sco_parse s13 (by decide) w ht he
  rw [← spV_ok (p := 1) (q := 3) (by decide +kernel) stx_13] at h
  exact h
theorem live13_text (w : World) (ht : Tab w) : Calls Tryd.prog 23 #[.agg #[.int .i64 1, .int .i64 3]] w fun e w' => e = .returned (.string s13) ∧ Below w.heap.size w w' := by
  have h := sco_text 1 3 (i64s (by omega)) (i64s (by omega)) w ht
  rw [stx_13] at h
  exact h
theorem live13_is (w : World) : Calls Tryd.prog 11 #[.agg #[.int .i64 1, .int .i64 3]] w fun e w' => e = .returned (.bool true) ∧ Below w.heap.size w w' := by
  have h := sco_is 1 3 (i64s (by omega)) (i64s (by omega)) w
  rw [show scoB 1 3 = true by decide +kernel] at h
  exact h
theorem live13_no (w : World) : Calls Tryd.prog 11 #[.agg #[.int .i64 2, .int .i64 4]] w fun e w' => e = .returned (.bool false) ∧ Below w.heap.size w w' := by
  have h := sco_is 2 4 (i64s (by omega)) (i64s (by omega)) w
  rw [show scoB 2 4 = false by decide +kernel] at h
  exact h
set_option maxHeartbeats 4000000 in
theorem lives13 (w : World) (ht : Tab w) (he : Ers w) : Calls Tryd.prog 10 #[] w fun e w' => e = .returned (.bool true) ∧ Below w.heap.size w w' := by
  have T := Lib.hid ht
  have R := Lib.hid he
  have J := Lib.hid (Keeps.start w)
  clear ht he
  go_enter Tryd.func10, Tryd.ntmps10
  go_wp2_with fail
  refine (live13_of1 _).mono ?_
  rintro e w1 ⟨rfl, b⟩
  have J := Lib.hid ((J.out.below b).alloc #[.int .i64 1610612736, .int .i64 1] 23)
  have T := Lib.hid ((T.out.below b).alloc (.cells #[.int .i64 1610612736, .int .i64 1] 23))
  have R := Lib.hid ((R.out.below b).alloc (.cells #[.int .i64 1610612736, .int .i64 1] 23))
  clear b
  go_wp2_with fail
  refine (live13_of2 _).mono ?_
  rintro e w2 ⟨rfl, b⟩
  have J := Lib.hid ((J.out.below b).alloc #[.int .i64 1073741824, .int .i64 1] 23)
  have T := Lib.hid ((T.out.below b).alloc (.cells #[.int .i64 1073741824, .int .i64 1] 23))
  have R := Lib.hid ((R.out.below b).alloc (.cells #[.int .i64 1073741824, .int .i64 1] 23))
  obtain ⟨y0, y1, _, _⟩ := J.out.head.two
  obtain ⟨x0, x1, _, _⟩ := J.out.tail.head.two
  clear b
  go_wp2_with fail
  refine (live13_cmp _).mono ?_
  rintro e w3 ⟨rfl, b⟩
  clear x0 x1 y0 y1
  have J := Lib.hid (J.out.below b)
  have T := Lib.hid (T.out.below b)
  have R := Lib.hid (R.out.below b)
  obtain ⟨y0, y1, _, _⟩ := J.out.head.two
  obtain ⟨x0, x1, _, _⟩ := J.out.tail.head.two
  clear b
  go_wp2_with fail
  refine (live13_level _).mono ?_
  rintro e w4 ⟨rfl, b⟩
  clear x0 x1 y0 y1
  have J := Lib.hid (J.out.below b)
  have T := Lib.hid (T.out.below b)
  have R := Lib.hid (R.out.below b)
  obtain ⟨y0, y1, _, _⟩ := J.out.head.two
  obtain ⟨x0, x1, _, _⟩ := J.out.tail.head.two
  clear b
  go_wp2_with fail
  refine (live13_mean _).mono ?_
  rintro e w5 ⟨rfl, b⟩
  clear x0 x1 y0 y1
  have J := Lib.hid (J.out.below b)
  have T := Lib.hid (T.out.below b)
  have R := Lib.hid (R.out.below b)
  obtain ⟨y0, y1, _, _⟩ := J.out.head.two
  obtain ⟨x0, x1, _, _⟩ := J.out.tail.head.two
  clear b
  go_wp2_with fail
  refine (live13_sort _ _ (by simp)).mono ?_
  rintro e w6 ⟨A, c, rfl, hL, b⟩
  clear x0 x1 y0 y1
  have J := Lib.hid (J.out.below b)
  have T := Lib.hid (T.out.below b)
  have R := Lib.hid (R.out.below b)
  have L := Lib.hid hL
  clear b hL
  go_wp2_with fail
  refine (live13_oddest _ _ _ L.out).mono ?_
  rintro e w7 ⟨rfl, b⟩
  have J := Lib.hid (J.out.below b)
  have T := Lib.hid (T.out.below b)
  have R := Lib.hid (R.out.below b)
  have L := Lib.hid ((L.out.below b).mono b.size)
  clear b
  go_wp2_with fail
  refine (live13_parse _ T.out R.out).mono ?_
  rintro e w8 ⟨rfl, b⟩
  have J := Lib.hid ((J.out.below b).alloc #[.int .i64 1, .int .i64 3] 23)
  have T := Lib.hid ((T.out.below b).alloc (.cells #[.int .i64 1, .int .i64 3] 23))
  have L := Lib.hid (((L.out.below b).below ((Below.refl _ w8).alloc b.size (.cells #[.int .i64 1, .int .i64 3] 23))).mono (B' := (w8.alloc (.cells #[.int .i64 1, .int .i64 3] 23)).heap.size) (by rw [alloc_size']; have := b.size; omega))
  obtain ⟨z0, z1, _, _⟩ := J.out.head.two
  obtain ⟨y0, y1, _, _⟩ := J.out.tail.head.two
  obtain ⟨x0, x1, _, _⟩ := J.out.tail.tail.head.two
  clear b
  go_wp2_with fail
  refine (live13_same A c _ _ (by simp) L.out).mono ?_
  rintro e w9 ⟨rfl, b⟩
  clear x0 x1 y0 y1 z0 z1
  have J := Lib.hid (J.out.below b)
  have T := Lib.hid (T.out.below b)
  obtain ⟨z0, z1, _, _⟩ := J.out.head.two
  clear b
  go_wp2_with fail
  refine (live13_text _ T.out).mono ?_
  rintro e w10 ⟨rfl, b⟩
  clear z0 z1
  have J := Lib.hid (J.out.below b)
  obtain ⟨z0, z1, _, _⟩ := J.out.head.two
  clear b
  go_wp2_with fail
  refine (live13_is _).mono ?_
  rintro e w11 ⟨rfl, b⟩
  have J := Lib.hid (J.out.below b)
  clear b z0 z1
  go_wp2_with fail
  refine (live13_no _).mono ?_
  rintro e w12 ⟨rfl, b⟩
  go_wp2
  go_ret
  exact ⟨rfl, (J.out.below b).2.1⟩
end Go.Proofs.YtiepfkhbebdkeaaDoor
