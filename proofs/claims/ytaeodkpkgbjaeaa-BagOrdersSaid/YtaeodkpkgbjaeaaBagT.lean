/- Layer 18 (bag): slices.Insert of one block ahead of others, where there is no room; all ways together. -/
import Derived.Test.YtaeodkpkgbjaeaaBagS
import Derived.Laws.CopyOwn
namespace Go.Proofs.Ytaeodkpkgbjaeaa
open Go.RowKit
set_option linter.unusedVariables false
set_option linter.unusedSimpArgs false

theorem grow_rows (A D Z R : List Value) (x : Value) (i : Nat) (hA : A.length = i) (hZ : Z.length = D.length + 1) :
    layL (layL (A ++ Z ++ R) i [x]) (i + 1) D = A ++ [x] ++ D ++ R := by
  obtain ⟨z0, Z', rfl⟩ : ∃ d0 D', Z = d0 :: D' := by cases Z with | nil => simp at hZ | cons a b => exact ⟨a, b, rfl⟩
  rw [layL_mid' (A ++ (z0 :: Z') ++ R) A [z0] (Z' ++ R) [x] i (by simp) hA.symm (by simp)]
  rw [layL_mid' _ (A ++ [x]) Z' R D (i + 1) (by simp) (by simp [hA]) (by simpa using hZ.symm)]
set_option maxRecDepth 100000 in
set_option maxHeartbeats 4000000 in
theorem ins_grow (bs : List Blk) (x : Blk) (gB n i vb : Nat) (T TV : TypeId) (w : World) (hbx : Box w gB (bs.map blkV).toArray T) (hn : bs.length = n) (hn4 : n ≤ 100000) (hi : i < n) (hv : Box w vb #[blkV x] TV) :
    Calls Try.prog 190 #[.slice (some ⟨gB, 0, none⟩) n n, .int .i64 i, .slice (some ⟨vb, 0, none⟩) 1 1] w (InsR w gB (bs.take i ++ x :: bs.drop i)) := by
  obtain ⟨i0, hi0, hz0, hz1, hz2⟩ := info_parts3 info_bl
  obtain ⟨A, hA⟩ : ∃ A, A = (bs.take i).map blkV := ⟨_, rfl⟩
  obtain ⟨D, hD⟩ : ∃ D, D = (bs.drop i).map blkV := ⟨_, rfl⟩
  have hAl : A.length = i := by rw [hA, List.length_map, List.length_take]; omega
  have hDl : D.length = n - i := by rw [hD, List.length_map, List.length_drop, hn]
  have hD1 : ∀ v ∈ D, v.oneCell' = true := by rw [hD]; exact blkV_one
  have hbx' : Box w gB (bs.map blkV ++ []).toArray T := by rw [List.append_nil]; exact hbx
  have hDc : ∀ j v, D[j]? = some v → w.cell? ((⟨gB, i, none⟩ : Addr).add j) = some v := fun j v hj => row_from hbx' i j v (by rw [← hD]; exact hj)
  have hAc : ∀ j v, A[j]? = some v → w.cell? ((⟨gB, 0, none⟩ : Addr).add j) = some v := fun j v hj => row_all hbx' j v (by
    rw [← List.take_append_drop i bs, List.map_append, ← hA, List.getElem?_append_left]
    · exact hj
    · rcases Nat.lt_or_ge j A.length with g | g
      · exact g
      · rw [List.getElem?_eq_none g] at hj; cases hj)
  have hgl := hbx.lt
  have hvl := hv.lt
  obtain ⟨n1, hn1⟩ : ∃ n1, n1 = n + 1 := ⟨_, rfl⟩
  obtain ⟨i1, hi1⟩ : ∃ i1, i1 = i + 1 := ⟨_, rfl⟩
  obtain ⟨kz, hkz⟩ : ∃ kz, kz = n1 - i := ⟨_, rfl⟩
  obtain ⟨c', hc'⟩ : ∃ c', c' = grownCap w n1 n 28 := ⟨_, rfl⟩
  have hgc := grownCap_ge w n1 n 28
  have hgm := grownCap_le_maxLen w n1 n 28 (by unfold maxLen; omega)
  rw [← hc'] at hgc hgm
  have hrz : ∀ ty, (Builtin.append_ #[124, 3] ty #[.slice (some ⟨gB, 0, none⟩) i n, .int .i64 (kz : Nat)]).run Try.prog w = .ok (.slice (some ⟨w.heap.size, 0, none⟩) n1 c') (w.drew.alloc (.cells (A ++ (Builtin.zeroCells (Value.slice none 0 0).cells kz).toList ++ (Builtin.zeroCells (Value.slice none 0 0).cells (c' - n1)).toList).toArray 28)) := fun ty => by
    have hf := run_firstCells_some (P := Try.prog) w.drew i0.size i ⟨gB, 0, none⟩ i n A (by rw [hAl, hz1, Nat.mul_one]) hAc
    have h := Lib.run_append_grow_zeros w 124 3 ty 28 i0 _ .i64 .i64 Try.underlying124 Try.underlying3 hi0 hz0 (some ⟨gB, 0, none⟩) i n A hf kz (by omega) (by omega) (by omega) (by omega) (by rw [hz2]; omega) (by rw [hz2]; exact growslice_fits (by omega) (by omega))
    rw [h, show i + kz = n1 by omega, ← hc']
    congr 3
    apply Array.ext'
    simp [List.append_assoc]
  obtain ⟨Z, hZ⟩ : ∃ Z, Z = (Builtin.zeroCells (Value.slice none 0 0).cells kz).toList := ⟨_, rfl⟩
  obtain ⟨R, hR⟩ : ∃ R, R = (Builtin.zeroCells (Value.slice none 0 0).cells (c' - n1)).toList := ⟨_, rfl⟩
  have hZl : Z.length = kz := by rw [hZ]; exact zeros_len _ rfl _
  have hRl : R.length = c' - n1 := by rw [hR]; exact zeros_len _ rfl _
  rw [← hZ, ← hR] at hrz
  obtain ⟨W1, hW1⟩ : ∃ W1, W1 = w.drew.alloc (.cells (A ++ Z ++ R).toArray 28) := ⟨_, rfl⟩
  have hb1 : Below w.heap.size w W1 := by rw [hW1]; exact (Below.refl _ _).drew.alloc (Nat.le_refl _) _
  have hbx1 : Box W1 w.heap.size (A ++ Z ++ R).toArray 28 := by rw [hW1]; exact Box.new w.drew _ _
  have hL : (A ++ Z ++ R).length = c' := by simp; omega
  have hv1 : Box W1 vb #[blkV x] TV := hv.below hb1 hvl
  have hcp1 := run_copy_k (P := Try.prog) W1 124 123 3 28 i0 1 Try.underlying124 hi0 hz1 w.heap.size i (n1 - i) (c' - i) ⟨vb, 0, none⟩ 1 1 (A ++ Z ++ R) 28 [blkV x] hbx1 (by rw [Nat.mul_one]; simp only [Nat.min_def, List.length_singleton]; split <;> omega) (one_cell hv1) (by rw [hL]; simp; omega) (one_one x)
  have hl1 := layL_len (A ++ Z ++ R) i [blkV x] (by rw [hL]; simp; omega)
  have hbx2 : Box ((W1.setRow w.heap.size (layL (A ++ Z ++ R) i [blkV x]).toArray).drew) w.heap.size (layL (A ++ Z ++ R) i [blkV x]).toArray 28 := setRow_heap _ _ _ _ _ _ hbx1
  have hDc2 : ∀ j v, D[j]? = some v → (W1.setRow w.heap.size (layL (A ++ Z ++ R) i [blkV x]).toArray).drew.cell? ((⟨gB, i, none⟩ : Addr).add j) = some v := fun j v hj => by
    refine ((below_setRow hb1 (Nat.le_refl _) (layL (A ++ Z ++ R) i [blkV x]).toArray).drew.cell (p := (⟨gB, i, none⟩ : Addr).add j) (by rw [add_block]; exact hgl)).trans (hDc j v hj)
  have hcp2 := run_copy_k (P := Try.prog) (W1.setRow w.heap.size (layL (A ++ Z ++ R) i [blkV x]).toArray).drew 124 124 3 28 i0 1 Try.underlying124 hi0 hz1 w.heap.size i1 (n1 - i1) (c' - i1) ⟨gB, i, none⟩ (n - i) (n - i) _ 28 D hbx2 (by rw [hDl, Nat.mul_one]; simp only [Nat.min_def]; split <;> omega) hDc2 (by rw [hl1, hL, hDl]; omega) hD1
  have hfin := setRow_heap _ w.heap.size _ (layL (layL (A ++ Z ++ R) i [blkV x]) i1 D).toArray _ _ hbx2
  have hrow := grow_rows A D Z R (blkV x) i hAl (by omega)
  rw [← hi1] at hrow
  rw [hrow] at hfin hcp2
  have hres : InsR w gB (bs.take i ++ x :: bs.drop i) (.returned (.slice (some ⟨w.heap.size, 0, none⟩) n1 c')) (((W1.setRow w.heap.size (layL (A ++ Z ++ R) i [blkV x]).toArray).drew).setRow w.heap.size (A ++ [blkV x] ++ D ++ R).toArray) := by
    refine ⟨w.heap.size, c', ?_, ⟨R, 28, ?_, hgm, ?_⟩, WrS.of _ (below_setRow (below_setRow hb1 (Nat.le_refl _) _).drew (Nat.le_refl _) _), Or.inr (Nat.le_refl _)⟩
    · rw [show (bs.take i ++ x :: bs.drop i).length = n1 by simp; omega]
    · simp; omega
    · have e : (bs.take i ++ x :: bs.drop i).map blkV ++ R = A ++ [blkV x] ++ D ++ R := by rw [hA, hD]; simp
      rw [e]; exact hfin
  generalize layL (A ++ Z ++ R) i [blkV x] = L1 at hcp1 hcp2 hres
  generalize A ++ [blkV x] ++ D ++ R = LF at hcp2 hres
  have HRZ := Lib.hid hrz
  have HW1 := Lib.hid hW1
  have HC1 := Lib.hid hcp1
  have HC2 := Lib.hid hcp2
  have HRES := Lib.hid hres
  have hw1 : IntKind.i64.wrap ((n : Int) + 1) = (n1 : Int) := by rw [IntKind.wrap_i64]; omega
  have hw2 : IntKind.i64.wrap ((i : Int) + 1) = (i1 : Int) := by rw [IntKind.wrap_i64]; omega
  have hw3 : IntKind.i64.wrap ((n1 : Int) - (i : Int)) = (kz : Int) := by rw [IntKind.wrap_i64]; omega
  have b1 : ¬ ((i : Int) = (n : Int)) := by omega
  have b2 : ¬ (c' = i1) := by omega
  have b3 : ¬ (c' = i) := by omega
  have b3' : ¬ (n = i) := by omega
  have b4 : i ≤ n := by omega
  have b5 : n1 ≤ c' := by omega
  have b6 : i1 ≤ n1 := by omega
  have b7 : i ≤ n1 := by omega
  have b9 : (n : Int) < (n1 : Int) := by omega
  clear hrz hW1 hcp1 hcp2 hres hbx hbx1 hbx2 hv1 hfin hDc hDc2 hAc hL hl1 hn1 hi1 hA hD hrow hv hb1 hZ hR hbx' hc' hkz
  go_enter Try.func190, Try.ntmps190
  go_wp2_with (at_builtin; refine Lib.wpList_append_run _ rfl (.tmp 34) (.tmp 39) 124 3 rfl _ _ rfl rfl _ _ (HRZ.out _) ?_; rw [← HW1.out]; have hq1 := HC1.out)
  have hq2 := HC2.out
  go_region
  clear hq2
  go_wp2
  go_ret
  exact HRES.out
end Go.Proofs.Ytaeodkpkgbjaeaa
