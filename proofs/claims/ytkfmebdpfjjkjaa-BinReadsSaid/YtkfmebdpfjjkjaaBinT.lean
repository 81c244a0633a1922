/- Layer 21 (bin): the reference's reader: Fail, End, ReadText. -/
import Derived.Test.YtkfmebdpfjjkjaaBinS
import Derived.StillTailTactics
namespace Go.Proofs.Ytkfmebdpfjjkjaa
open Go.RowKit
set_option linter.unusedVariables false
set_option linter.unusedSimpArgs false

set_option maxRecDepth 100000 in
set_option maxHeartbeats 8000000 in
theorem ref_Fail21 (A : Option Addr) (N c k : Nat) (e x : Int) (w : World) : Calls Try.prog 84 #[.agg #[.slice A N c, .int .i64 (k : Nat), .int .i64 e], .int .i64 x] w fun r w' => r = .returned (.agg #[.slice A N c, .int .i64 (k : Nat), .int .i64 (failE e x)]) ∧ Below w.heap.size w w' := by
  obtain ⟨hX, hX0, hW⟩ := box_r w A N c (k : Nat) e
  have HX := Lib.hid hX
  have HW := Lib.hid hW
  clear hX hX0 hW
  by_cases h1 : e = 0
  · subst h1
    by_cases h2 : x = 0
    · subst h2
      rw [show failE 0 0 = 211 from rfl]
      go_enter Try.func84, Try.ntmps84
      go_wp2_with fail
      refine (ref_fail21 A N c (k : Nat) 0 211 _).mono ?_
      rintro r w2 ⟨rfl, hb2⟩
      have b4 := HX.out.below hb2 HX.out.lt
      have HBC := Lib.hid (HW.out.trans (hb2.mono HW.out.size))
      clear hb2
      obtain ⟨x0, x1, x2, y0, y1, y2⟩ := b4.three
      have HB4 := Lib.hid b4
      clear b4
      go_wp2
      have s0 := (HB4.out.set 0 (.slice A N c)).cell 0
      have s1 := ((HB4.out.set 0 (.slice A N c)).set 1 (.int .i64 (k : Nat))).cell 1
      have s2 := (((HB4.out.set 0 (.slice A N c)).set 1 (.int .i64 (k : Nat))).set 2 (.int .i64 211)).cell 2
      refine bodyPost_ret (v := .agg #[.slice A N c, .int .i64 (k : Nat), .int .i64 211]) (by simp [results, Try.results84, go_sem, s0, s1, s2]) rfl ⟨rfl, ?_⟩
      exact ((HBC.out.setCell (by simp) _).setCell (by simp) _).setCell (by simp) _
    · rw [show failE 0 x = x from by unfold failE; rw [if_neg (by simp), if_neg h2]]
      have hxb : (x == 0) = false := by simpa using h2
      go_enter Try.func84, Try.ntmps84
      go_wp2_with fail
      refine (ref_fail21 A N c (k : Nat) 0 x _).mono ?_
      rintro r w2 ⟨rfl, hb2⟩
      have b4 := HX.out.below hb2 HX.out.lt
      have HBC := Lib.hid (HW.out.trans (hb2.mono HW.out.size))
      clear hb2
      obtain ⟨x0, x1, x2, y0, y1, y2⟩ := b4.three
      have HB4 := Lib.hid b4
      clear b4
      go_wp2
      have s0 := (HB4.out.set 0 (.slice A N c)).cell 0
      have s1 := ((HB4.out.set 0 (.slice A N c)).set 1 (.int .i64 (k : Nat))).cell 1
      have s2 := (((HB4.out.set 0 (.slice A N c)).set 1 (.int .i64 (k : Nat))).set 2 (.int .i64 x)).cell 2
      refine bodyPost_ret (v := .agg #[.slice A N c, .int .i64 (k : Nat), .int .i64 x]) (by simp [results, Try.results84, go_sem, s0, s1, s2]) rfl ⟨rfl, ?_⟩
      exact ((HBC.out.setCell (by simp) _).setCell (by simp) _).setCell (by simp) _
  · rw [show failE e x = e from by unfold failE; rw [if_pos h1]]
    have heb : (e == 0) = false := by simpa using h1
    have hne : (e != 0) = true := by simpa using h1
    go_enter Try.func84, Try.ntmps84
    have hal := (Below.refl w.heap.size w).alloc (Nat.le_refl _) (.cells #[.slice A N c, .int .i64 (k : Nat), .int .i64 e] 56)
    go_wp2
    refine bodyPost_ret (v := .agg #[.slice A N c, .int .i64 (k : Nat), .int .i64 e]) (by simp [results, Try.results84, go_sem]) rfl ⟨rfl, ?_⟩
    exact hal.alloc hal.size _
set_option maxRecDepth 100000 in
set_option maxHeartbeats 8000000 in
theorem ref_End21 (b : List Int) (A : Option Addr) (c k : Nat) (e : Int) (w : World) : Calls Try.prog 85 #[.agg #[.slice A b.length c, .int .i64 (k : Nat), .int .i64 e]] w fun r w' => r = .returned (.agg #[.slice A b.length c, .int .i64 (k : Nat), .int .i64 (endE b k e)]) ∧ Below w.heap.size w w' := by
  obtain ⟨hX, hX0, hW⟩ := box_r w A b.length c (k : Nat) e
  have HX := Lib.hid hX
  have HW := Lib.hid hW
  clear hX hX0 hW
  unfold endE
  generalize b.length = N at *
  by_cases h1 : e = 0
  · subst h1
    by_cases h2 : k < N
    · rw [if_pos h2, show failE 0 211 = 211 from rfl]
      have hg : (k : Int) < (N : Int) := by omega
      clear h2
      go_enter Try.func85, Try.ntmps85
      go_wp2_with fail
      refine (ref_fail21 A N c (k : Nat) 0 211 _).mono ?_
      rintro r w2 ⟨rfl, hb2⟩
      have b4 := HX.out.below hb2 HX.out.lt
      have HBC := Lib.hid (HW.out.trans (hb2.mono HW.out.size))
      clear hb2
      obtain ⟨x0, x1, x2, y0, y1, y2⟩ := b4.three
      have HB4 := Lib.hid b4
      clear b4
      go_wp2
      have s0 := (HB4.out.set 0 (.slice A N c)).cell 0
      have s1 := ((HB4.out.set 0 (.slice A N c)).set 1 (.int .i64 (k : Nat))).cell 1
      have s2 := (((HB4.out.set 0 (.slice A N c)).set 1 (.int .i64 (k : Nat))).set 2 (.int .i64 211)).cell 2
      refine bodyPost_ret (v := .agg #[.slice A N c, .int .i64 (k : Nat), .int .i64 211]) (by simp [results, Try.results85, go_sem, s0, s1, s2]) rfl ⟨rfl, ?_⟩
      exact ((HBC.out.setCell (by simp) _).setCell (by simp) _).setCell (by simp) _
    · rw [if_neg h2]
      have hg : ¬ (k : Int) < (N : Int) := by omega
      clear h2
      go_enter Try.func85, Try.ntmps85
      have hal := (Below.refl w.heap.size w).alloc (Nat.le_refl _) (.cells #[.slice A N c, .int .i64 (k : Nat), .int .i64 0] 56)
      go_wp2
      refine bodyPost_ret (v := .agg #[.slice A N c, .int .i64 (k : Nat), .int .i64 0]) (by simp [results, Try.results85, go_sem]) rfl ⟨rfl, ?_⟩
      exact hal.alloc hal.size _
  · rw [show (if k < N then failE e 211 else e) = e from by split; (unfold failE; rw [if_pos h1]); rfl]
    have heb : (e == 0) = false := by simpa using h1
    go_enter Try.func85, Try.ntmps85
    have hal := (Below.refl w.heap.size w).alloc (Nat.le_refl _) (.cells #[.slice A N c, .int .i64 (k : Nat), .int .i64 e] 56)
    go_wp2
    refine bodyPost_ret (v := .agg #[.slice A N c, .int .i64 (k : Nat), .int .i64 e]) (by simp [results, Try.results85, go_sem]) rfl ⟨rfl, ?_⟩
    exact hal.alloc hal.size _
end Go.Proofs.Ytkfmebdpfjjkjaa
