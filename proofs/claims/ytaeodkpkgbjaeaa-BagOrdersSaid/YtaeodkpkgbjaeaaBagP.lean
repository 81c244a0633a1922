/- Layer 18 (bag): block. -/
import Derived.Test.YtaeodkpkgbjaeaaBagO
import Derived.Laws.CopyOwn
namespace Go.Proofs.Ytaeodkpkgbjaeaa
open Go.RowKit
set_option linter.unusedVariables false
set_option linter.unusedSimpArgs false

theorem run_makeM (w : World) (n m : Nat) (h : n ≤ m) (h0 : 0 < m) (hm : m ≤ 1000) : ∃ cs : Array Value, cs.size = m * 2 ∧ (Instr.makeSlice 28 (.int .i64 n) (.int .i64 m)).run Try.prog w = .ok (.slice (some ⟨w.heap.size, 0, none⟩) n m) (w.alloc (.cells cs 24)) := by
  obtain ⟨i0, hi0, hz0, hz1, hz2⟩ := info_parts3 info_sc
  refine ⟨(Array.range (m * 2)).map (fun x => [Value.int IntKind.i64 0, Value.int IntKind.i64 0][x % 2]?.getD default), by simp, ?_⟩
  have hw : IntKind.i64.wrap (n : Int) = n := by rw [IntKind.wrap_i64]; omega
  have hwm : IntKind.i64.wrap (m : Int) = m := by rw [IntKind.wrap_i64]; omega
  have h1 : ¬ ((n : Int) < 0) := by omega
  have h2 : ¬ ((m : Int) < (n : Int)) := by omega
  have h2' : ¬ (m < n) := by omega
  have h3 : ¬ ((m : Int) < 0) := by omega
  have h4 : ¬ (281474976710656 < 16 * (m : Int)) := by omega
  have h5 : ¬ (m = 0) := by omega
  simp [Instr.makeSlice, run_underlying Try.underlying28, sizeOf, typeInfo, zeroValue, hi0, hz0, hz1, hz2, asInt, asIntOf, hw, hwm, h1, h2, h2', h3, h4, h5, newRow, go_sem]
  exact fun h => absurd h (by omega)
theorem run_make64 (w : World) (n : Nat) (h : n ≤ 64) : ∃ cs : List Value, cs.length = 128 ∧ (Instr.makeSlice 28 (.int .i64 n) (.int .i64 64)).run Try.prog w = .ok (.slice (some ⟨w.heap.size, 0, none⟩) n 64) (w.alloc (.cells cs.toArray 24)) := by
  obtain ⟨cs, h1, h2⟩ := run_makeM w n 64 h (by omega) (by omega)
  exact ⟨cs.toList, by simp [h1], by simpa using h2⟩
set_option maxRecDepth 100000 in
set_option maxHeartbeats 4000000 in
theorem bag_block (sd : Addr) (l : List PQ) (n c : Nat) (w : World) (hn : l.length = n) (h64 : n ≤ 64) (hsrc : ∀ j v, (celS l)[j]? = some v → w.cell? (sd.add j) = some v) :
    Calls Try.prog 80 #[.slice (some sd) n c] w fun e w' => e = .returned (.slice (some ⟨w.heap.size, 0, none⟩) n 64) ∧ BlkAt w' (w.heap.size, l) ∧ Below w.heap.size w w' := by
  obtain ⟨i0, hi0, hz0, hz1, hz2⟩ := info_parts3 info_sc
  obtain ⟨cs, hcs, hmk⟩ := run_make64 w n h64
  have HM := Lib.hid hmk
  have hbx : Box (w.alloc (.cells cs.toArray 24)) w.heap.size cs.toArray 24 := Box.new _ _ _
  have hlt : sd.block < w.heap.size ∨ n = 0 := by
    rcases Nat.eq_zero_or_pos n with h | h
    · exact Or.inr h
    · left
      have h0 : (celS l)[0]? = some ((celS l)[0]'(by rw [celS_len]; omega)) := List.getElem?_eq_getElem _
      have := hsrc 0 _ h0
      rw [show sd.add 0 = sd by unfold Addr.add; simp] at this
      rcases Nat.lt_or_ge sd.block w.heap.size with g | g
      · exact g
      · simp [World.cell?, Array.getElem?_eq_none g] at this
  have hsrc2 : ∀ j v, (celS l)[j]? = some v → (w.alloc (.cells cs.toArray 24)).cell? (sd.add j) = some v := fun j v hv => by
    have hpos : 0 < n := by
      rcases Nat.eq_zero_or_pos n with h | h
      · have : l = [] := List.eq_nil_of_length_eq_zero (by omega)
        subst this; simp [celS] at hv
      · exact h
    have hb := hlt.resolve_right (by omega)
    exact ((Below.refl _ w).alloc (Nat.le_refl _) _).cell (p := sd.add j) (by rw [add_block]; exact hb) |>.trans (hsrc j v hv)
  have hrun := run_copy_k (P := Try.prog) (w.alloc (.cells cs.toArray 24)) 28 28 3 24 i0 2 Try.underlying28 hi0 hz1 w.heap.size 0 n 64 sd n c cs 24 (celS l) hbx (by rw [celS_len, hn]; show n * 2 = min n n * 2; rw [Nat.min_self]) hsrc2 (by rw [celS_len, hcs]; omega) celS_one
  have HC := Lib.hid hrun
  have hfin := setRow_heap _ w.heap.size _ (layL cs 0 (celS l)).toArray _ _ hbx
  have HF := Lib.hid hfin
  clear hrun hmk hbx hfin hsrc hsrc2
  have h1 : (n : Int) ≤ 64 := by omega
  go_enter Try.func80, Try.ntmps80
  go_wp2_with fail
  rw [HM.out]
  go_wp2_with fail
  rw [HC.out]
  go_wp2
  go_ret
  refine ⟨rfl, ⟨cs.drop (n * 2), ?_, ?_⟩, below_setRow ((Below.refl _ _).alloc (Nat.le_refl _) _) (Nat.le_refl _) _⟩
  · rw [List.length_append, celS_len, List.length_drop, hcs, hn]; omega
  · have e : layL cs 0 (celS l) = celS l ++ cs.drop (n * 2) := by unfold layL; simp [celS_len, hn]
    have := HF.out
    rw [e] at this ⊢
    exact this
end Go.Proofs.Ytaeodkpkgbjaeaa
