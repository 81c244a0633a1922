/- Layer 18 (bag): slices.Insert of one block ahead of others. -/
import Derived.Test.YtaeodkpkgbjaeaaBagR
import Derived.Deep.RegionLaw
namespace Go.Proofs.Ytaeodkpkgbjaeaa
open Go.RowKit
set_option linter.unusedVariables false
set_option linter.unusedSimpArgs false

theorem ins_rows (A D sp zs : List Value) (x : Value) (i : Nat) (hA : A.length = i) (hD : 0 < D.length) (hsp : 0 < sp.length) :
    layL (layL (A ++ D ++ sp) (i + 1) D) i [x] = A ++ [x] ++ D ++ sp.drop 1 := by
  obtain ⟨d0, D', rfl⟩ : ∃ d0 D', D = d0 :: D' := by cases D with | nil => simp at hD | cons a b => exact ⟨a, b, rfl⟩
  obtain ⟨s0, S', rfl⟩ : ∃ s0 S', sp = s0 :: S' := by cases sp with | nil => simp at hsp | cons a b => exact ⟨a, b, rfl⟩
  rw [layL_mid' (A ++ (d0 :: D') ++ (s0 :: S')) (A ++ [d0]) (D' ++ [s0]) S' (d0 :: D') (i + 1) (by simp) (by simp [hA]) (by simp)]
  rw [layL_mid' _ A [d0] ((d0 :: D') ++ S') [x] i (by simp) hA.symm (by simp)]
  simp
theorem Box.shape {w : World} {g : Nat} {cs : Array Value} {t : TypeId} (h : Box w g cs t) : w.shape? g = some (t, cs.size) := by
  unfold Box at h
  simp [World.shape?, h]
set_option maxRecDepth 100000 in
set_option maxHeartbeats 4000000 in
theorem ins_room (bs : List Blk) (x : Blk) (gB c n i vb : Nat) (T TV : TypeId) (sp : List Value) (w : World) (hbx : Box w gB (bs.map blkV ++ sp).toArray T) (hn : bs.length = n) (hc : n + sp.length = c) (hm : c ≤ maxLen) (hn4 : n ≤ 100000) (hi : i < n) (hroom : n + 1 ≤ c) (hv : Box w vb #[blkV x] TV) (hvb : vb ≠ gB) :
    Calls Try.prog 190 #[.slice (some ⟨gB, 0, none⟩) n c, .int .i64 i, .slice (some ⟨vb, 0, none⟩) 1 1] w (InsR w gB (bs.take i ++ x :: bs.drop i)) := by
  obtain ⟨i0, hi0, hz0, hz1, hz2⟩ := info_parts3 info_bl
  have hL : (bs.map blkV ++ sp).length = c := by rw [List.length_append, List.length_map, hn]; exact hc
  have hmL : c ≤ 9223372036854775807 := by unfold maxLen at hm; omega
  obtain ⟨A, hA⟩ : ∃ A, A = (bs.take i).map blkV := ⟨_, rfl⟩
  obtain ⟨D, hD⟩ : ∃ D, D = (bs.drop i).map blkV := ⟨_, rfl⟩
  have hAl : A.length = i := by rw [hA, List.length_map, List.length_take]; omega
  have hDl : D.length = n - i := by rw [hD, List.length_map, List.length_drop, hn]
  have hAD : bs.map blkV ++ sp = A ++ D ++ sp := by rw [hA, hD, ← List.map_append, List.take_append_drop]
  have hD1 : ∀ v ∈ D, v.oneCell' = true := by rw [hD]; exact blkV_one
  have hDc : ∀ j v, D[j]? = some v → w.cell? ((⟨gB, i, none⟩ : Addr).add j) = some v := fun j v hj => row_from hbx i j v (by rw [← hD]; exact hj)
  rw [hAD] at hbx hL
  obtain ⟨n1, hn1⟩ : ∃ n1, n1 = n + 1 := ⟨_, rfl⟩
  obtain ⟨i1, hi1⟩ : ∃ i1, i1 = i + 1 := ⟨_, rfl⟩
  have hsz0 : (A ++ D ++ sp).toArray.size ≠ 0 := by rw [List.size_toArray, hL]; omega
  have hov : ∀ lb cb, (callFunc 220 #[.slice (some ⟨vb, 0, none⟩) 1 1, .slice (some ⟨gB, i1, none⟩) lb cb]).run Try.prog w = .ok (.value (.bool false)) w := fun lb cb => by
    rw [run_callFunc_extern Try.func220 (by kernel_rfl) (by kernel_rfl) (by kernel_rfl) (e := Extern.SlicesOverlaps.overlaps #[123, 123] #[4]) (by kernel_rfl),
      Lib.run_overlaps_apart w 123 4 28 Try.underlying123 1 (fun w => by simp [sizeOf, typeInfo, hi0, hz1]) ⟨vb, 0, none⟩ ⟨gB, i1, none⟩ 1 1 lb cb hvb TV T _ _ hv.shape hbx.shape hsz0 (hv.free 0) (hv.free _)]
    rfl
  have hcp1 := fun ty dc sc => run_copy_k (P := Try.prog) w.drew 124 124 ty 28 i0 1 Try.underlying124 hi0 hz1 gB i1 (n1 - i1) dc ⟨gB, i, none⟩ (n1 - i) sc (A ++ D ++ sp) T D hbx (by rw [hDl, Nat.mul_one]; simp only [Nat.min_def]; split <;> omega) hDc (by rw [hL, hDl]; omega) hD1
  have hl1 := layL_len (A ++ D ++ sp) i1 D (by rw [hL, hDl]; omega)
  have hbx1 : Box (w.drew.setRow gB (layL (A ++ D ++ sp) i1 D).toArray) gB (layL (A ++ D ++ sp) i1 D).toArray T := setRow_heap _ _ _ _ _ _ hbx
  have hv1 : Box (w.drew.setRow gB (layL (A ++ D ++ sp) i1 D).toArray) vb #[blkV x] TV := (setRow_other w.drew gB vb _ hvb).trans hv
  have hcp2 := fun ty dc => run_copy_k (P := Try.prog) (w.drew.setRow gB (layL (A ++ D ++ sp) i1 D).toArray) 124 123 ty 28 i0 1 Try.underlying124 hi0 hz1 gB i (n1 - i) dc ⟨vb, 0, none⟩ 1 1 _ T [blkV x] hbx1 (by rw [Nat.mul_one]; simp only [Nat.min_def, List.length_singleton]; split <;> omega) (one_cell hv1) (by rw [hl1, hL]; simp; omega) (one_one x)
  have hfin := setRow_heap _ gB _ (layL (layL (A ++ D ++ sp) i1 D) i [blkV x]).toArray _ _ hbx1
  have hrow := ins_rows A D sp [] (blkV x) i hAl (by omega) (by omega)
  rw [← hi1] at hrow
  rw [hrow] at hfin hcp2
  have hres : InsR w gB (bs.take i ++ x :: bs.drop i) (.returned (.slice (some ⟨gB, 0, none⟩) n1 c)) ((w.drew.setRow gB (layL (A ++ D ++ sp) i1 D).toArray).setRow gB (A ++ [blkV x] ++ D ++ sp.drop 1).toArray) := by
    refine ⟨gB, c, ?_, ⟨sp.drop 1, T, ?_, hm, ?_⟩, ((WrS.of [gB] (Below.refl _ _).drew).trans (WrS.row [gB] _ gB _ (by simp)) fun x hx => Or.inl hx).trans (WrS.row [gB] _ gB _ (by simp)) fun x hx => Or.inl hx, Or.inl rfl⟩
    · rw [show (bs.take i ++ x :: bs.drop i).length = n1 by simp; omega]
    · simp; omega
    · have e : (bs.take i ++ x :: bs.drop i).map blkV ++ sp.drop 1 = A ++ [blkV x] ++ D ++ sp.drop 1 := by rw [hA, hD]; simp
      rw [e]; exact hfin
  generalize layL (A ++ D ++ sp) i1 D = L1 at hcp1 hcp2 hres
  generalize A ++ [blkV x] ++ D ++ sp.drop 1 = LF at hcp2 hres
  have HC1 := Lib.hid hcp1
  have HC2 := Lib.hid hcp2
  have HRES := Lib.hid hres
  have hw1 : IntKind.i64.wrap ((n : Int) + 1) = (n1 : Int) := by rw [IntKind.wrap_i64]; omega
  have hw2 : IntKind.i64.wrap ((i : Int) + 1) = (i1 : Int) := by rw [IntKind.wrap_i64]; omega
  have b1 : ¬ ((i : Int) = (n : Int)) := by omega
  have b2 : ¬ (c = i1) := by omega
  have b3 : ¬ (c = i) := by omega
  have b4 : i ≤ n := by omega
  have b5 : n1 ≤ c := by omega
  have b6 : i1 ≤ n1 := by omega
  have b7 : i ≤ n1 := by omega
  have b8 : n ≤ c := by omega
  have b9 : ¬ ((c : Int) < (n1 : Int)) := by omega
  clear hsz0 hbx hbx1 hv1 hfin hres hcp1 hcp2 hDc hAD hL hl1 hn1 hi1 hA hD hrow hroom hv
  go_enter Try.func190, Try.ntmps190
  go_wp2_with (simp only [hov])
  have hq := HC1.out 3 (c - i1) (c - i)
  go_region
  clear hq
  go_wp2_with fail
  rw [HC2.out]
  go_wp2
  go_ret
  exact HRES.out
end Go.Proofs.Ytaeodkpkgbjaeaa
