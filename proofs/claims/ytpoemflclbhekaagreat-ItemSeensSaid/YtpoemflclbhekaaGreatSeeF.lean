/- Layer 22 (item): seen events read: bad dimensions; SameSeen and GetSeen of the reference. -/
import Derived.Test.YtpoemflclbhekaaGreatSeeE
namespace Go.Proofs.YtpoemflclbhekaaGreat
open Go.RowKit
set_option linter.unusedVariables false
set_option linter.unusedSimpArgs false

set_option maxRecDepth 100000 in
set_option maxHeartbeats 8000000 in
theorem it_GetSeen_bad (b : List Int) (B g k : Nat) (e : Int) (dim : Int) (hd : ¬ (1 ≤ dim ∧ dim ≤ 8)) (w : World) (hR : RdAt w B g b k e) : Calls Tryz.prog 17 #[.pointer (some ⟨g, 0, none⟩), .int .i64 dim] w (GivesE B g b ((k, failE e 211), (0, [], 0, 0, false)) w) := by
  have hgw := hR.lt.1
  have hb1 := (Below.refl w.heap.size w).alloc (Nat.le_refl _) (.cells #[.int .i64 0, .slice none 0 0, .int .i64 0, .int .i64 0, .bool false] 41)
  have hb2 := hb1.alloc hb1.size (.cells #[.int .i64 dim] 3)
  have hx0 := (Box.new w #[.int .i64 0, .slice none 0 0, .int .i64 0, .int .i64 0, .bool false] 41).alloc (.cells #[.int .i64 dim] 3)
  have hl := Box.new (w.alloc (.cells #[.int .i64 0, .slice none 0 0, .int .i64 0, .int .i64 0, .bool false] 41)) #[.int .i64 dim] 3
  rw [alloc_size'] at hl
  have KW := Lib.hid (it_within 1 8 [dim] (some ⟨w.heap.size + 1, 0, none⟩) 1 _ _ (boxLies hl rfl) (by simp))
  rw [show inB 1 8 [dim] = false from by unfold inB; simp; omega] at KW
  have KF := Lib.hid (rd_Fail (hR.below hb2) 211)
  have HW0 := Lib.hid (Wr.of g hb2)
  have HX0 := Lib.hid hx0
  have hgn : ¬ w.heap.size = g := by omega
  clear hb1 hb2 hx0 hl hR hd
  generalize failE e 211 = E at *
  go_enter Tryz.func17, Tryz.ntmps17
  go_wp2_with fail
  refine (KW.out).mono ?_
  rintro r wq ⟨rfl, rfl⟩
  go_wp2_with fail
  refine (KF.out).mono ?_
  rintro r w3 ⟨rfl, h1, h2⟩
  have HRa := Lib.hid h1
  have HXa := Lib.hid (h2.box HX0.out hgn)
  have HWa := Lib.hid (HW0.out.trans h2)
  clear h1 h2 HX0 HW0 KF KW
  obtain ⟨t0, t1, t2, t3, t4⟩ := HXa.out.five
  obtain ⟨f0, f1, f2, f3, f4⟩ := HXa.out.frees
  go_wp2
  have z0 := (HXa.out.set 0 (.int .i64 0)).cell 0
  have z1 := ((HXa.out.set 0 (.int .i64 0)).set 1 (.slice none 0 0)).cell 1
  have z2 := (((HXa.out.set 0 (.int .i64 0)).set 1 (.slice none 0 0)).set 2 (.int .i64 0)).cell 2
  have z3 := ((((HXa.out.set 0 (.int .i64 0)).set 1 (.slice none 0 0)).set 2 (.int .i64 0)).set 3 (.int .i64 0)).cell 3
  have z4 := (((((HXa.out.set 0 (.int .i64 0)).set 1 (.slice none 0 0)).set 2 (.int .i64 0)).set 3 (.int .i64 0)).set 4 (.bool false)).cell 4
  refine bodyPost_ret (v := .agg #[.int .i64 0, .slice none 0 0, .int .i64 0, .int .i64 0, .bool false]) (by simp [results, Tryz.results17, go_sem, z0, z1, z2, z3, z4]) rfl ⟨none, 0, rfl, lies0, (((((HRa.out.wr (Wr.set w.heap.size 0 _ _) (.inr (by omega))).wr (Wr.set w.heap.size 1 _ _) (.inr (by omega))).wr (Wr.set w.heap.size 2 _ _) (.inr (by omega))).wr (Wr.set w.heap.size 3 _ _) (.inr (by omega))).wr (Wr.set w.heap.size 4 _ _) (.inr (by omega))), (((((HWa.out.setNewI (p := ⟨w.heap.size, 0, none⟩) (Nat.le_refl _) _).setNewI (p := ⟨w.heap.size, 1, none⟩) (Nat.le_refl _) _).setNewI (p := ⟨w.heap.size, 2, none⟩) (Nat.le_refl _) _).setNewI (p := ⟨w.heap.size, 3, none⟩) (Nat.le_refl _) _).setNewI (p := ⟨w.heap.size, 4, none⟩) (Nat.le_refl _) _)⟩
theorem it_GetSeen (b : List Int) (B g k : Nat) (e : Int) (dim : Int) (w : World) (hR : RdAt w B g b k e) : Calls Tryz.prog 17 #[.pointer (some ⟨g, 0, none⟩), .int .i64 dim] w (GivesE B g b (gE b (k, e) dim) w) := by
  unfold gE
  by_cases hd : 1 ≤ dim ∧ dim ≤ 8
  · rw [if_pos hd]
    obtain ⟨D, rfl⟩ := Int.eq_ofNat_of_zero_le (show 0 ≤ dim by omega)
    exact it_GetSeen_ok b B g k e D (by omega) w hR
  · rw [if_neg hd]
    exact it_GetSeen_bad b B g k e dim hd w hR
set_option maxRecDepth 100000 in
set_option maxHeartbeats 4000000 in
theorem ref_Same17' (id p q : Int) (s : Bool) (A A2 : Option Addr) (x : List Int) (c c2 : Nat) (w : World) (hx : Lies w w.heap.size A x) (hx2 : Lies w w.heap.size A2 x) (hn : x.length ≤ 1000) : Calls Tryz.prog 49 #[.agg #[.int .i64 id, .slice A x.length c, .int .i64 p, .int .i64 q, .bool s], .agg #[.int .i64 id, .slice A2 x.length c2, .int .i64 p, .int .i64 q, .bool s]] w fun e w' => e = .returned (.bool true) ∧ Below w.heap.size w w' := by
  have hb1 := (Below.refl w.heap.size w).alloc (Nat.le_refl _) (.cells #[.int .i64 id, .slice A x.length c, .int .i64 p, .int .i64 q, .bool s] 41)
  have hb2 := hb1.alloc hb1.size (.cells #[.int .i64 id, .slice A2 x.length c2, .int .i64 p, .int .i64 q, .bool s] 41)
  have hx0 := (Box.new w #[.int .i64 id, .slice A x.length c, .int .i64 p, .int .i64 q, .bool s] 41).alloc (.cells #[.int .i64 id, .slice A2 x.length c2, .int .i64 p, .int .i64 q, .bool s] 41)
  have hx1 := Box.new (w.alloc (.cells #[.int .i64 id, .slice A x.length c, .int .i64 p, .int .i64 q, .bool s] 41)) #[.int .i64 id, .slice A2 x.length c2, .int .i64 p, .int .i64 q, .bool s] 41
  rw [alloc_size'] at hx1
  obtain ⟨y0, y1, y2, y3, y4⟩ := hx0.five
  obtain ⟨z0, z1, z2, z3, z4⟩ := hx1.five
  have KC := Lib.hid (ref_same1 A A2 x x c c2 w.heap.size _ (hx.below hb2) (hx2.below hb2) (by omega) (by omega))
  have HB := Lib.hid hb2
  rw [decide_eq_true rfl] at KC
  clear hx hx2 hb1 hb2 hx0 hx1
  generalize x.length = N at *
  cases s
  all_goals
    go_enter Tryz.func49, Tryz.ntmps49
    go_wp2_with fail
    refine (KC.out).mono ?_
    rintro e w1 ⟨rfl, n, rfl⟩
    have HB2 := Lib.hid (below_drewN2 HB.out n)
    go_wp2
    go_ret
    exact ⟨rfl, HB2.out⟩
set_option maxRecDepth 100000 in
set_option maxHeartbeats 4000000 in
theorem ref_SameSeen (id p q : Int) (s : Bool) (A A2 : Option Addr) (x : List Int) (c c2 : Nat) (w : World) (hx : Lies w w.heap.size A x) (hx2 : Lies w w.heap.size A2 x) (hn : x.length ≤ 1000) : Calls Tryz.prog 19 #[.agg #[.int .i64 id, .slice A x.length c, .int .i64 p, .int .i64 q, .bool s], .agg #[.int .i64 id, .slice A2 x.length c2, .int .i64 p, .int .i64 q, .bool s]] w fun e w' => e = .returned (.bool true) ∧ Below w.heap.size w w' := by
  have hb1 := (Below.refl w.heap.size w).alloc (Nat.le_refl _) (.cells #[.int .i64 id, .slice A x.length c, .int .i64 p, .int .i64 q, .bool s] 41)
  have hb2 := hb1.alloc hb1.size (.cells #[.int .i64 id, .slice A2 x.length c2, .int .i64 p, .int .i64 q, .bool s] 41)
  have hx0 := (Box.new w #[.int .i64 id, .slice A x.length c, .int .i64 p, .int .i64 q, .bool s] 41).alloc (.cells #[.int .i64 id, .slice A2 x.length c2, .int .i64 p, .int .i64 q, .bool s] 41)
  have hx1 := Box.new (w.alloc (.cells #[.int .i64 id, .slice A x.length c, .int .i64 p, .int .i64 q, .bool s] 41)) #[.int .i64 id, .slice A2 x.length c2, .int .i64 p, .int .i64 q, .bool s] 41
  rw [alloc_size'] at hx1
  obtain ⟨y0, y1, y2, y3, y4⟩ := hx0.five
  obtain ⟨z0, z1, z2, z3, z4⟩ := hx1.five
  have KC := Lib.hid (ref_Same17' id p q s A A2 x c c2 _ ((hx.below hb2).mono hb2.size) ((hx2.below hb2).mono hb2.size) hn)
  have HB := Lib.hid hb2
  clear hx hx2 hb1 hb2 hx0 hx1
  generalize x.length = N at *
  go_enter Tryz.func19, Tryz.ntmps19
  go_wp2_with fail
  refine (KC.out).mono ?_
  rintro e w1 ⟨rfl, h1⟩
  have HB2 := Lib.hid (HB.out.trans (h1.mono HB.out.size))
  clear h1
  go_wp2
  go_ret
  exact ⟨rfl, HB2.out⟩
end Go.Proofs.YtpoemflclbhekaaGreat
