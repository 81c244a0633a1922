/- BagR BagS BagT BagU BagW BagX BagY -/
import Derived.Test.YtaeodkpkgbjaeaaBgB
import Derived.Lib.AppendZerosOnto
import Derived.Laws.Externs
import Derived.Deep.RegionLaw
import Derived.Laws.CopyOwn
import Derived.Test.YtaeodkpkgbjaeaaBgA

/-! Layer 18 (bag): slices.Insert of one block. -/
namespace Go.Proofs.Ytaeodkpkgbjaeaa
open Go.RowKit
set_option linter.unusedVariables false
set_option linter.unusedSimpArgs false

section
variable {P : Program}
theorem run_app_k2 (w : World) (t tx ty e ex : TypeId) (i : TypeInfo) (k : Nat) (hu : P.underlying t = some (.slice e)) (hux : P.underlying tx = some (.slice ex)) (hi : P.info? e = some i) (hk : i.size = k) (g o n c : Nat) (sd : Addr) (m sCap : Nat) (L : List Value) (T : TypeId) (news : List Value)
    (hg : w.heap[g]? = some (.cells L.toArray T (0, 0))) (hn : news.length = m * k) (hsrc : ∀ j v, news[j]? = some v → w.cell? (sd.add j) = some v) (hroom : n + m ≤ c) (hfit : o + n * k + news.length ≤ L.length) (h1 : ∀ v ∈ news, v.oneCell' = true) :
    (Builtin.append_ #[t, tx] ty #[.slice (some ⟨g, o, none⟩) n c, .slice (some sd) m sCap]).run P w = .ok (.slice (some ⟨g, o, none⟩) (n + m) c) (w.setRow g (layL L (o + n * k) news).toArray) := by
  subst hk
  have hl := run_firstCells_some (P := P) w i.size m sd m sCap news hn hsrc
  have hst := run_storeCells_at P g (o + n * i.size) T news 0 L.toArray w hg (by simpa using hfit) h1
  simp only [Nat.add_zero] at hst
  unfold layL
  simp [Builtin.append_, run_underlying hu, run_underlying hux, sizeOf, typeInfo, hi, Builtin.lenOf, hroom, hl, Addr.add_lit, hst]
theorem run_grow_k2 (w : World) (t tx ty e ex : TypeId) (i : TypeInfo) (z : Value) (hu : P.underlying t = some (.slice e)) (hux : P.underlying tx = some (.slice ex)) (hi : P.info? e = some i) (hz : i.zero = some z)
    (b : Addr) (sLen sCap : Nat) (olds : List Value) (hlo : olds.length = sLen * i.size) (holds : ∀ j v, olds[j]? = some v → w.cell? (b.add j) = some v)
    (a : Addr) (n c : Nat) (news : List Value) (hl : news.length = n * i.size) (hnews : ∀ j v, news[j]? = some v → w.cell? (a.add j) = some v)
    (hg : sCap < sLen + n) (h63 : ((sLen + n : Nat) : Int) ≤ 9223372036854775807) (hfit : Builtin.nextslicecap (sLen + n) sCap * i.bytes ≤ 281474976710656) :
    (Builtin.append_ #[t, tx] ty #[.slice (some b) sLen sCap, .slice (some a) n c]).run P w =
      .ok (.slice (some ⟨w.heap.size, 0, none⟩) (sLen + n) (grownCap w (sLen + n) sCap e))
        (w.drew.alloc (.cells (olds ++ news ++ (Builtin.zeroCells z.cells (grownCap w (sLen + n) sCap e - (sLen + n))).toList).toArray e)) := by
  have hn : ¬ (sLen + n ≤ sCap) := by omega
  have h63' : ¬ (9223372036854775807 < ((sLen : Int) + (n : Int))) := by omega
  have h48' : ¬ (281474976710656 < Builtin.nextslicecap (sLen + n) sCap * i.bytes) := by omega
  have hf := run_firstCells_some (P := P) w.drew i.size n a n c news hl (by simpa using hnews)
  have hfo := run_firstCells_some (P := P) w.drew i.size sLen b sLen sCap olds hlo (by simpa using holds)
  simp [Builtin.append_, run_underlying hu, run_underlying hux, sizeOf, typeInfo, zeroValue, hi, hz, Builtin.lenOf, hn, h63', h48', Question.forced, hf, hfo, newRow, grownCap]
  congr 2
  apply Array.ext'
  simp [List.append_assoc]
end
/-- what Insert gives -/
def InsR (w : World) (gB : Nat) (bs : List Blk) (e : Ending) (w' : World) : Prop :=
  ∃ (g' c' : Nat), e = .returned (.slice (some ⟨g', 0, none⟩) bs.length c') ∧ RowAt w' g' c' bs ∧ WrS [gB] w w' ∧ (g' = gB ∨ w.heap.size ≤ g')
theorem row_all {w : World} {gB : Nat} {T : TypeId} {bs : List Blk} {sp : List Value} (h : Box w gB (bs.map blkV ++ sp).toArray T) (j : Nat) (v : Value) (hv : (bs.map blkV)[j]? = some v) : w.cell? ((⟨gB, 0, none⟩ : Addr).add j) = some v :=
  row_from h 0 j v (by simpa using hv)
theorem one_cell {w : World} {vb : Nat} {x : Value} {T : TypeId} (h : Box w vb #[x] T) (j : Nat) (v : Value) (hv : [x][j]? = some v) : w.cell? ((⟨vb, 0, none⟩ : Addr).add j) = some v := by
  rw [Addr.add_lit, Nat.zero_add, h.cell]
  simpa using hv
theorem zeros_len (z : Value) (hz : z.cells.size = 1) (n : Nat) : (Builtin.zeroCells z.cells n).toList.length = n := by simp [Builtin.zeroCells, hz]
theorem row_ins_end (bs : List Blk) (x : Blk) (sp : List Value) (n : Nat) (hn : bs.length = n) : layL (bs.map blkV ++ sp) (0 + n * 1) [blkV x] = (bs ++ [x]).map blkV ++ sp.drop 1 := by
  unfold layL
  have e1 : (bs.map blkV ++ sp).take (0 + n * 1) = bs.map blkV := by rw [show 0 + n * 1 = (bs.map blkV).length by simp [hn]]; simp
  have e2 : (bs.map blkV ++ sp).drop (0 + n * 1 + [blkV x].length) = sp.drop 1 := by
    rw [show 0 + n * 1 + [blkV x].length = (bs.map blkV).length + 1 by simp [hn], List.drop_append]; simp
  rw [e1, e2]; simp
theorem one_one (x : Blk) : ∀ v ∈ [blkV x], v.oneCell' = true := by intro u hu; rw [List.mem_singleton] at hu; subst hu; rfl
set_option maxRecDepth 100000 in
set_option maxHeartbeats 4000000 in
theorem ins_end (bs : List Blk) (x : Blk) (gB c n vb : Nat) (T TV : TypeId) (sp : List Value) (w : World) (hbx : Box w gB (bs.map blkV ++ sp).toArray T) (hn : bs.length = n) (hc : n + sp.length = c) (hm : c ≤ maxLen) (hn4 : n ≤ 100000) (hv : Box w vb #[blkV x] TV) :
    Calls Try.prog 190 #[.slice (some ⟨gB, 0, none⟩) n c, .int .i64 n, .slice (some ⟨vb, 0, none⟩) 1 1] w (InsR w gB (bs ++ [x])) := by
  obtain ⟨i0, hi0, hz0, hz1, hz2⟩ := info_parts3 info_bl
  have hL : (bs.map blkV ++ sp).length = c := by rw [List.length_append, List.length_map, hn]; exact hc
  have hnc : n ≤ c := by omega
  have HR : Hid (∃ g' c' w', (∀ ty, (Builtin.append_ #[124, 123] ty #[.slice (some ⟨gB, 0, none⟩) n c, .slice (some ⟨vb, 0, none⟩) 1 1]).run Try.prog w = .ok (.slice (some ⟨g', 0, none⟩) (n + 1) c') w') ∧ InsR w gB (bs ++ [x]) (.returned (.slice (some ⟨g', 0, none⟩) (n + 1) c')) w') := by
    by_cases hroom : n + 1 ≤ c
    · refine ⟨gB, c, _, fun ty => run_app_k2 (P := Try.prog) w 124 123 ty 28 28 i0 1 Try.underlying124 Try.underlying123 hi0 hz1 gB 0 n c ⟨vb, 0, none⟩ 1 1 (bs.map blkV ++ sp) T [blkV x] hbx rfl (one_cell hv) hroom (by rw [hL]; simp; omega) (one_one x), gB, c, by rw [List.length_append, hn]; rfl, ⟨sp.drop 1, T, ?_, hm, ?_⟩, WrS.row [gB] _ gB _ (by simp), Or.inl rfl⟩
      · simp; omega
      · have := setRow_heap _ gB _ (layL (bs.map blkV ++ sp) (0 + n * 1) [blkV x]).toArray _ _ hbx
        rw [row_ins_end bs x sp n hn] at this ⊢
        exact this
    · have hcn : sp = [] := List.eq_nil_of_length_eq_zero (by omega)
      subst hcn
      have hgc := grownCap_ge w (n + 1) c 28
      have hgm := grownCap_le_maxLen w (n + 1) c 28 (by unfold maxLen; omega)
      refine ⟨_, _, _, fun ty => run_grow_k2 (P := Try.prog) w 124 123 ty 28 28 i0 _ Try.underlying124 Try.underlying123 hi0 hz0 ⟨gB, 0, none⟩ n c (bs.map blkV) (by rw [List.length_map, hn, hz1, Nat.mul_one]) (row_all (sp := []) hbx) ⟨vb, 0, none⟩ 1 1 [blkV x] (by rw [hz1]; rfl) (one_cell hv) (by omega) (by omega) (growslice_fits (by omega) (by rw [hz2]; omega)), w.heap.size, grownCap w (n + 1) c 28, by rw [List.length_append, hn]; rfl, ⟨(Builtin.zeroCells (Value.slice none 0 0).cells (grownCap w (n + 1) c 28 - (n + 1))).toList, 28, ?_, hgm, ?_⟩, WrS.of _ ((Below.refl _ _).drew.alloc (Nat.le_refl _) _), Or.inr (Nat.le_refl _)⟩
      · rw [List.length_append, hn, zeros_len _ rfl]
        show n + 1 + _ = _
        omega
      · have := Box.new w.drew ((bs.map blkV ++ [blkV x] ++ (Builtin.zeroCells (Value.slice none 0 0).cells (grownCap w (n + 1) c 28 - (n + 1))).toList).toArray) 28
        rw [List.map_append]
        exact this
  clear hbx hL
  obtain ⟨g', c', w', hr, hI⟩ := HR.out
  have HQ := Lib.hid hr
  have HI := Lib.hid hI
  clear hr hI HR hv
  go_enter Try.func190, Try.ntmps190
  go_wp2_with (at_builtin; refine Lib.wpList_append_run _ rfl (.tmp 23) (.tmp 24) 124 123 rfl _ _ rfl rfl _ _ (HQ.out _) ?_)
  all_goals (go_ret; exact HI.out)
end Go.Proofs.Ytaeodkpkgbjaeaa

/-! Layer 18 (bag): slices.Insert of one block ahead of others. -/
namespace Go.Proofs.Ytaeodkpkgbjaeaa
open Go.RowKit
set_option linter.unusedVariables false
set_option linter.unusedSimpArgs false

theorem ins_rows (A D sp zs : List Value) (x : Value) (i : Nat) (hA : A.length = i) (hD : 0 < D.length) (hsp : 0 < sp.length) :
    layL (layL (A ++ D ++ sp) (i + 1) D) i [x] = A ++ [x] ++ D ++ sp.drop 1 := by
  obtain ⟨d0, D', rfl⟩ : ∃ d0 D', D = d0 :: D' := by cases D with | nil => simp at hD | cons a b => exact ⟨a, b, rfl⟩
  obtain ⟨s0, S', rfl⟩ : ∃ s0 S', sp = s0 :: S' := by cases sp with | nil => simp at hsp | cons a b => exact ⟨a, b, rfl⟩
  rw [layL_mid' (A ++ (d0 :: D') ++ (s0 :: S')) (A ++ [d0]) (D' ++ [s0]) S' (d0 :: D') (i + 1) (by simp) (by simp [hA]) (by simp)]
  rw [layL_mid' _ A [d0] ((d0 :: D') ++ S') [x] i (by simp) hA.symm (by simp)]
  simp
theorem Box.shape {w : World} {g : Nat} {cs : Array Value} {t : TypeId} (h : Box w g cs t) : w.shape? g = some (t, cs.size) := by
  unfold Box at h
  simp [World.shape?, h]
set_option maxRecDepth 100000 in
set_option maxHeartbeats 4000000 in
theorem ins_room (bs : List Blk) (x : Blk) (gB c n i vb : Nat) (T TV : TypeId) (sp : List Value) (w : World) (hbx : Box w gB (bs.map blkV ++ sp).toArray T) (hn : bs.length = n) (hc : n + sp.length = c) (hm : c ≤ maxLen) (hn4 : n ≤ 100000) (hi : i < n) (hroom : n + 1 ≤ c) (hv : Box w vb #[blkV x] TV) (hvb : vb ≠ gB) :
    Calls Try.prog 190 #[.slice (some ⟨gB, 0, none⟩) n c, .int .i64 i, .slice (some ⟨vb, 0, none⟩) 1 1] w (InsR w gB (bs.take i ++ x :: bs.drop i)) := by
  obtain ⟨i0, hi0, hz0, hz1, hz2⟩ := info_parts3 info_bl
  have hL : (bs.map blkV ++ sp).length = c := by rw [List.length_append, List.length_map, hn]; exact hc
  have hmL : c ≤ 9223372036854775807 := by unfold maxLen at hm; omega
  obtain ⟨A, hA⟩ : ∃ A, A = (bs.take i).map blkV := ⟨_, rfl⟩
  obtain ⟨D, hD⟩ : ∃ D, D = (bs.drop i).map blkV := ⟨_, rfl⟩
  have hAl : A.length = i := by rw [hA, List.length_map, List.length_take]; omega
  have hDl : D.length = n - i := by rw [hD, List.length_map, List.length_drop, hn]
  have hAD : bs.map blkV ++ sp = A ++ D ++ sp := by rw [hA, hD, ← List.map_append, List.take_append_drop]
  have hD1 : ∀ v ∈ D, v.oneCell' = true := by rw [hD]; exact blkV_one
  have hDc : ∀ j v, D[j]? = some v → w.cell? ((⟨gB, i, none⟩ : Addr).add j) = some v := fun j v hj => row_from hbx i j v (by rw [← hD]; exact hj)
  rw [hAD] at hbx hL
  obtain ⟨n1, hn1⟩ : ∃ n1, n1 = n + 1 := ⟨_, rfl⟩
  obtain ⟨i1, hi1⟩ : ∃ i1, i1 = i + 1 := ⟨_, rfl⟩
  have hsz0 : (A ++ D ++ sp).toArray.size ≠ 0 := by rw [List.size_toArray, hL]; omega
  have hov : ∀ lb cb, (callFunc 220 #[.slice (some ⟨vb, 0, none⟩) 1 1, .slice (some ⟨gB, i1, none⟩) lb cb]).run Try.prog w = .ok (.value (.bool false)) w := fun lb cb => by
    rw [run_callFunc_extern Try.func220 (by kernel_rfl) (by kernel_rfl) (by kernel_rfl) (e := Extern.SlicesOverlaps.overlaps #[123, 123] #[4]) (by kernel_rfl),
      Lib.run_overlaps_apart w 123 4 28 Try.underlying123 1 (fun w => by simp [sizeOf, typeInfo, hi0, hz1]) ⟨vb, 0, none⟩ ⟨gB, i1, none⟩ 1 1 lb cb hvb TV T _ _ hv.shape hbx.shape hsz0 (hv.free 0) (hv.free _)]
    rfl
  have hcp1 := fun ty dc sc => run_copy_k (P := Try.prog) w.drew 124 124 ty 28 i0 1 Try.underlying124 hi0 hz1 gB i1 (n1 - i1) dc ⟨gB, i, none⟩ (n1 - i) sc (A ++ D ++ sp) T D hbx (by rw [hDl, Nat.mul_one]; simp only [Nat.min_def]; split <;> omega) hDc (by rw [hL, hDl]; omega) hD1
  have hl1 := layL_len (A ++ D ++ sp) i1 D (by rw [hL, hDl]; omega)
  have hbx1 : Box (w.drew.setRow gB (layL (A ++ D ++ sp) i1 D).toArray) gB (layL (A ++ D ++ sp) i1 D).toArray T := setRow_heap _ _ _ _ _ _ hbx
  have hv1 : Box (w.drew.setRow gB (layL (A ++ D ++ sp) i1 D).toArray) vb #[blkV x] TV := (setRow_other w.drew gB vb _ hvb).trans hv
  have hcp2 := fun ty dc => run_copy_k (P := Try.prog) (w.drew.setRow gB (layL (A ++ D ++ sp) i1 D).toArray) 124 123 ty 28 i0 1 Try.underlying124 hi0 hz1 gB i (n1 - i) dc ⟨vb, 0, none⟩ 1 1 _ T [blkV x] hbx1 (by rw [Nat.mul_one]; simp only [Nat.min_def, List.length_singleton]; split <;> omega) (one_cell hv1) (by rw [hl1, hL]; simp; omega) (one_one x)
  have hfin := setRow_heap _ gB _ (layL (layL (A ++ D ++ sp) i1 D) i [blkV x]).toArray _ _ hbx1
  have hrow := ins_rows A D sp [] (blkV x) i hAl (by omega) (by omega)
  rw [← hi1] at hrow
  rw [hrow] at hfin hcp2
  have hres : InsR w gB (bs.take i ++ x :: bs.drop i) (.returned (.slice (some ⟨gB, 0, none⟩) n1 c)) ((w.drew.setRow gB (layL (A ++ D ++ sp) i1 D).toArray).setRow gB (A ++ [blkV x] ++ D ++ sp.drop 1).toArray) := by
    refine ⟨gB, c, ?_, ⟨sp.drop 1, T, ?_, hm, ?_⟩, ((WrS.of [gB] (Below.refl _ _).drew).trans (WrS.row [gB] _ gB _ (by simp)) fun x hx => Or.inl hx).trans (WrS.row [gB] _ gB _ (by simp)) fun x hx => Or.inl hx, Or.inl rfl⟩
    · rw [show (bs.take i ++ x :: bs.drop i).length = n1 by simp; omega]
    · simp; omega
    · have e : (bs.take i ++ x :: bs.drop i).map blkV ++ sp.drop 1 = A ++ [blkV x] ++ D ++ sp.drop 1 := by rw [hA, hD]; simp
      rw [e]; exact hfin
  generalize layL (A ++ D ++ sp) i1 D = L1 at hcp1 hcp2 hres
  generalize A ++ [blkV x] ++ D ++ sp.drop 1 = LF at hcp2 hres
  have HC1 := Lib.hid hcp1
  have HC2 := Lib.hid hcp2
  have HRES := Lib.hid hres
  have hw1 : IntKind.i64.wrap ((n : Int) + 1) = (n1 : Int) := by rw [IntKind.wrap_i64]; omega
  have hw2 : IntKind.i64.wrap ((i : Int) + 1) = (i1 : Int) := by rw [IntKind.wrap_i64]; omega
  have b1 : ¬ ((i : Int) = (n : Int)) := by omega
  have b2 : ¬ (c = i1) := by omega
  have b3 : ¬ (c = i) := by omega
  have b4 : i ≤ n := by omega
  have b5 : n1 ≤ c := by omega
  have b6 : i1 ≤ n1 := by omega
  have b7 : i ≤ n1 := by omega
  have b8 : n ≤ c := by omega
  have b9 : ¬ ((c : Int) < (n1 : Int)) := by omega
  clear hsz0 hbx hbx1 hv1 hfin hres hcp1 hcp2 hDc hAD hL hl1 hn1 hi1 hA hD hrow hroom hv
  go_enter Try.func190, Try.ntmps190
  go_wp2_with (simp only [hov])
  have hq := HC1.out 3 (c - i1) (c - i)
  go_region
  clear hq
  go_wp2_with fail
  rw [HC2.out]
  go_wp2
  go_ret
  exact HRES.out
end Go.Proofs.Ytaeodkpkgbjaeaa

/-! Layer 18 (bag): slices.Insert of one block ahead of others, where there is no room; all ways together. -/
namespace Go.Proofs.Ytaeodkpkgbjaeaa
open Go.RowKit
set_option linter.unusedVariables false
set_option linter.unusedSimpArgs false

theorem grow_rows (A D Z R : List Value) (x : Value) (i : Nat) (hA : A.length = i) (hZ : Z.length = D.length + 1) :
    layL (layL (A ++ Z ++ R) i [x]) (i + 1) D = A ++ [x] ++ D ++ R := by
  obtain ⟨z0, Z', rfl⟩ : ∃ d0 D', Z = d0 :: D' := by cases Z with | nil => simp at hZ | cons a b => exact ⟨a, b, rfl⟩
  rw [layL_mid' (A ++ (z0 :: Z') ++ R) A [z0] (Z' ++ R) [x] i (by simp) hA.symm (by simp)]
  rw [layL_mid' _ (A ++ [x]) Z' R D (i + 1) (by simp) (by simp [hA]) (by simpa using hZ.symm)]
set_option maxRecDepth 100000 in
set_option maxHeartbeats 4000000 in
theorem ins_grow (bs : List Blk) (x : Blk) (gB n i vb : Nat) (T TV : TypeId) (w : World) (hbx : Box w gB (bs.map blkV).toArray T) (hn : bs.length = n) (hn4 : n ≤ 100000) (hi : i < n) (hv : Box w vb #[blkV x] TV) :
    Calls Try.prog 190 #[.slice (some ⟨gB, 0, none⟩) n n, .int .i64 i, .slice (some ⟨vb, 0, none⟩) 1 1] w (InsR w gB (bs.take i ++ x :: bs.drop i)) := by
  obtain ⟨i0, hi0, hz0, hz1, hz2⟩ := info_parts3 info_bl
  obtain ⟨A, hA⟩ : ∃ A, A = (bs.take i).map blkV := ⟨_, rfl⟩
  obtain ⟨D, hD⟩ : ∃ D, D = (bs.drop i).map blkV := ⟨_, rfl⟩
  have hAl : A.length = i := by rw [hA, List.length_map, List.length_take]; omega
  have hDl : D.length = n - i := by rw [hD, List.length_map, List.length_drop, hn]
  have hD1 : ∀ v ∈ D, v.oneCell' = true := by rw [hD]; exact blkV_one
  have hbx' : Box w gB (bs.map blkV ++ []).toArray T := by rw [List.append_nil]; exact hbx
  have hDc : ∀ j v, D[j]? = some v → w.cell? ((⟨gB, i, none⟩ : Addr).add j) = some v := fun j v hj => row_from hbx' i j v (by rw [← hD]; exact hj)
  have hAc : ∀ j v, A[j]? = some v → w.cell? ((⟨gB, 0, none⟩ : Addr).add j) = some v := fun j v hj => row_all hbx' j v (by
    rw [← List.take_append_drop i bs, List.map_append, ← hA, List.getElem?_append_left]
    · exact hj
    · rcases Nat.lt_or_ge j A.length with g | g
      · exact g
      · rw [List.getElem?_eq_none g] at hj; cases hj)
  have hgl := hbx.lt
  have hvl := hv.lt
  obtain ⟨n1, hn1⟩ : ∃ n1, n1 = n + 1 := ⟨_, rfl⟩
  obtain ⟨i1, hi1⟩ : ∃ i1, i1 = i + 1 := ⟨_, rfl⟩
  obtain ⟨kz, hkz⟩ : ∃ kz, kz = n1 - i := ⟨_, rfl⟩
  obtain ⟨c', hc'⟩ : ∃ c', c' = grownCap w n1 n 28 := ⟨_, rfl⟩
  have hgc := grownCap_ge w n1 n 28
  have hgm := grownCap_le_maxLen w n1 n 28 (by unfold maxLen; omega)
  rw [← hc'] at hgc hgm
  have hrz : ∀ ty, (Builtin.append_ #[124, 3] ty #[.slice (some ⟨gB, 0, none⟩) i n, .int .i64 (kz : Nat)]).run Try.prog w = .ok (.slice (some ⟨w.heap.size, 0, none⟩) n1 c') (w.drew.alloc (.cells (A ++ (Builtin.zeroCells (Value.slice none 0 0).cells kz).toList ++ (Builtin.zeroCells (Value.slice none 0 0).cells (c' - n1)).toList).toArray 28)) := fun ty => by
    have hf := run_firstCells_some (P := Try.prog) w.drew i0.size i ⟨gB, 0, none⟩ i n A (by rw [hAl, hz1, Nat.mul_one]) hAc
    have h := Lib.run_append_grow_zeros w 124 3 ty 28 i0 _ .i64 .i64 Try.underlying124 Try.underlying3 hi0 hz0 (some ⟨gB, 0, none⟩) i n A hf kz (by omega) (by omega) (by omega) (by omega) (by rw [hz2]; omega) (by rw [hz2]; exact growslice_fits (by omega) (by omega))
    rw [h, show i + kz = n1 by omega, ← hc']
    congr 3
    apply Array.ext'
    simp [List.append_assoc]
  obtain ⟨Z, hZ⟩ : ∃ Z, Z = (Builtin.zeroCells (Value.slice none 0 0).cells kz).toList := ⟨_, rfl⟩
  obtain ⟨R, hR⟩ : ∃ R, R = (Builtin.zeroCells (Value.slice none 0 0).cells (c' - n1)).toList := ⟨_, rfl⟩
  have hZl : Z.length = kz := by rw [hZ]; exact zeros_len _ rfl _
  have hRl : R.length = c' - n1 := by rw [hR]; exact zeros_len _ rfl _
  rw [← hZ, ← hR] at hrz
  obtain ⟨W1, hW1⟩ : ∃ W1, W1 = w.drew.alloc (.cells (A ++ Z ++ R).toArray 28) := ⟨_, rfl⟩
  have hb1 : Below w.heap.size w W1 := by rw [hW1]; exact (Below.refl _ _).drew.alloc (Nat.le_refl _) _
  have hbx1 : Box W1 w.heap.size (A ++ Z ++ R).toArray 28 := by rw [hW1]; exact Box.new w.drew _ _
  have hL : (A ++ Z ++ R).length = c' := by simp; omega
  have hv1 : Box W1 vb #[blkV x] TV := hv.below hb1 hvl
  have hcp1 := run_copy_k (P := Try.prog) W1 124 123 3 28 i0 1 Try.underlying124 hi0 hz1 w.heap.size i (n1 - i) (c' - i) ⟨vb, 0, none⟩ 1 1 (A ++ Z ++ R) 28 [blkV x] hbx1 (by rw [Nat.mul_one]; simp only [Nat.min_def, List.length_singleton]; split <;> omega) (one_cell hv1) (by rw [hL]; simp; omega) (one_one x)
  have hl1 := layL_len (A ++ Z ++ R) i [blkV x] (by rw [hL]; simp; omega)
  have hbx2 : Box ((W1.setRow w.heap.size (layL (A ++ Z ++ R) i [blkV x]).toArray).drew) w.heap.size (layL (A ++ Z ++ R) i [blkV x]).toArray 28 := setRow_heap _ _ _ _ _ _ hbx1
  have hDc2 : ∀ j v, D[j]? = some v → (W1.setRow w.heap.size (layL (A ++ Z ++ R) i [blkV x]).toArray).drew.cell? ((⟨gB, i, none⟩ : Addr).add j) = some v := fun j v hj => by
    refine ((below_setRow hb1 (Nat.le_refl _) (layL (A ++ Z ++ R) i [blkV x]).toArray).drew.cell (p := (⟨gB, i, none⟩ : Addr).add j) (by rw [add_block]; exact hgl)).trans (hDc j v hj)
  have hcp2 := run_copy_k (P := Try.prog) (W1.setRow w.heap.size (layL (A ++ Z ++ R) i [blkV x]).toArray).drew 124 124 3 28 i0 1 Try.underlying124 hi0 hz1 w.heap.size i1 (n1 - i1) (c' - i1) ⟨gB, i, none⟩ (n - i) (n - i) _ 28 D hbx2 (by rw [hDl, Nat.mul_one]; simp only [Nat.min_def]; split <;> omega) hDc2 (by rw [hl1, hL, hDl]; omega) hD1
  have hfin := setRow_heap _ w.heap.size _ (layL (layL (A ++ Z ++ R) i [blkV x]) i1 D).toArray _ _ hbx2
  have hrow := grow_rows A D Z R (blkV x) i hAl (by omega)
  rw [← hi1] at hrow
  rw [hrow] at hfin hcp2
  have hres : InsR w gB (bs.take i ++ x :: bs.drop i) (.returned (.slice (some ⟨w.heap.size, 0, none⟩) n1 c')) (((W1.setRow w.heap.size (layL (A ++ Z ++ R) i [blkV x]).toArray).drew).setRow w.heap.size (A ++ [blkV x] ++ D ++ R).toArray) := by
    refine ⟨w.heap.size, c', ?_, ⟨R, 28, ?_, hgm, ?_⟩, WrS.of _ (below_setRow (below_setRow hb1 (Nat.le_refl _) _).drew (Nat.le_refl _) _), Or.inr (Nat.le_refl _)⟩
    · rw [show (bs.take i ++ x :: bs.drop i).length = n1 by simp; omega]
    · simp; omega
    · have e : (bs.take i ++ x :: bs.drop i).map blkV ++ R = A ++ [blkV x] ++ D ++ R := by rw [hA, hD]; simp
      rw [e]; exact hfin
  generalize layL (A ++ Z ++ R) i [blkV x] = L1 at hcp1 hcp2 hres
  generalize A ++ [blkV x] ++ D ++ R = LF at hcp2 hres
  have HRZ := Lib.hid hrz
  have HW1 := Lib.hid hW1
  have HC1 := Lib.hid hcp1
  have HC2 := Lib.hid hcp2
  have HRES := Lib.hid hres
  have hw1 : IntKind.i64.wrap ((n : Int) + 1) = (n1 : Int) := by rw [IntKind.wrap_i64]; omega
  have hw2 : IntKind.i64.wrap ((i : Int) + 1) = (i1 : Int) := by rw [IntKind.wrap_i64]; omega
  have hw3 : IntKind.i64.wrap ((n1 : Int) - (i : Int)) = (kz : Int) := by rw [IntKind.wrap_i64]; omega
  have b1 : ¬ ((i : Int) = (n : Int)) := by omega
  have b2 : ¬ (c' = i1) := by omega
  have b3 : ¬ (c' = i) := by omega
  have b3' : ¬ (n = i) := by omega
  have b4 : i ≤ n := by omega
  have b5 : n1 ≤ c' := by omega
  have b6 : i1 ≤ n1 := by omega
  have b7 : i ≤ n1 := by omega
  have b9 : (n : Int) < (n1 : Int) := by omega
  clear hrz hW1 hcp1 hcp2 hres hbx hbx1 hbx2 hv1 hfin hDc hDc2 hAc hL hl1 hn1 hi1 hA hD hrow hv hb1 hZ hR hbx' hc' hkz
  go_enter Try.func190, Try.ntmps190
  go_wp2_with (at_builtin; refine Lib.wpList_append_run _ rfl (.tmp 34) (.tmp 39) 124 3 rfl _ _ rfl rfl _ _ (HRZ.out _) ?_; rw [← HW1.out]; have hq1 := HC1.out)
  have hq2 := HC2.out
  go_region
  clear hq2
  go_wp2
  go_ret
  exact HRES.out
end Go.Proofs.Ytaeodkpkgbjaeaa

/-! Layer 18 (bag): split. -/
namespace Go.Proofs.Ytaeodkpkgbjaeaa
open Go.RowKit
set_option linter.unusedVariables false
set_option linter.unusedSimpArgs false

theorem bag_ins (bs : List Blk) (x : Blk) (gB c i vb : Nat) (TV : TypeId) (w : World) (hr : RowAt w gB c bs) (hi : i ≤ bs.length) (hn4 : bs.length ≤ 100000) (hv : Box w vb #[blkV x] TV) (hvb : vb ≠ gB) :
    Calls Try.prog 190 #[.slice (some ⟨gB, 0, none⟩) bs.length c, .int .i64 i, .slice (some ⟨vb, 0, none⟩) 1 1] w (InsR w gB (bs.take i ++ x :: bs.drop i)) := by
  obtain ⟨sp, T, hc, hm, hbx⟩ := hr
  rcases Nat.lt_or_ge i bs.length with h | h
  · by_cases hroom : bs.length + 1 ≤ c
    · exact ins_room bs x gB c bs.length i vb T TV sp w hbx rfl hc hm hn4 h hroom hv hvb
    · have hs : sp = [] := List.eq_nil_of_length_eq_zero (by omega)
      subst hs
      have e : c = bs.length := by simp at hc; omega
      subst e
      exact ins_grow bs x gB bs.length i vb T TV w (by rwa [List.append_nil] at hbx) rfl hn4 h hv
  · have e : i = bs.length := by omega
    subst e
    rw [List.take_length, List.drop_length]
    exact ins_end bs x gB c bs.length vb T TV sp w hbx rfl hc hm hn4 hv
/-- a result that is a row of blocks -/
def BkR (w : World) (gB : Nat) (bs bs' : List Blk) (e : Ending) (w' : World) : Prop :=
  ∃ g' c' : Nat, e = .returned (.slice (some ⟨g', 0, none⟩) bs'.length c') ∧ BksAt w' g' c' bs' ∧ WrS (memB gB bs) w w' ∧ ∀ x ∈ memB g' bs', x ∈ memB gB bs ∨ w.heap.size ≤ x
theorem RowAt.set {w : World} {gB c : Nat} {A C : List Blk} {b : Blk} (b' : Blk) (h : RowAt w gB c (A ++ b :: C)) : RowAt (w.setCell ⟨gB, A.length, none⟩ (blkV b')) gB c (A ++ b' :: C) := by
  obtain ⟨sp, T, h1, h2, h3⟩ := h
  refine ⟨sp, T, by simpa using h1, h2, ?_⟩
  have := h3.set A.length (blkV b')
  have e : ((A ++ b :: C).map blkV ++ sp).toArray.setIfInBounds A.length (blkV b') = ((A ++ b' :: C).map blkV ++ sp).toArray := by
    apply Array.ext'
    simp
  rwa [e] at this
theorem RowAt.free {w : World} {gB c : Nat} {bs : List Blk} (h : RowAt w gB c bs) (i : Nat) : w.frozen? ⟨gB, i, none⟩ = false := by
  obtain ⟨sp, T, h1, h2, h3⟩ := h; exact h3.free i
theorem RowAt.mid {w : World} {gB c : Nat} {A C : List Blk} {b : Blk} (h : RowAt w gB c (A ++ b :: C)) : w.cell? ⟨gB, A.length, none⟩ = some (blkV b) := by
  obtain ⟨sp, T, h1, h2, h3⟩ := h
  rw [h3.cell]
  simp
theorem BlkAt.take {w : World} {b : Blk} (h : BlkAt w b) (k : Nat) : BlkAt w (b.1, b.2.take k) := by
  obtain ⟨sp, h1, h2⟩ := h
  have e : celS b.2 ++ sp = celS (b.2.take k) ++ (celS (b.2.drop k) ++ sp) := by rw [← List.append_assoc, ← celS_app, List.take_append_drop]
  rw [e] at h1 h2
  exact ⟨_, h1, h2⟩
set_option maxRecDepth 100000 in
set_option maxHeartbeats 4000000 in
theorem bag_split (A C : List Blk) (b : Blk) (gB c d : Nat) (w : World) (h : BksAt w gB c (A ++ b :: C)) (hd : A.length = d) (hb : b.2.length = 64) (hn4 : (A ++ b :: C).length ≤ 90000) :
    Calls Try.prog 150 #[.slice (some ⟨gB, 0, none⟩) (A ++ b :: C).length c, .int .i64 d] w (BkR w gB (A ++ b :: C) (A ++ (b.1, b.2.take 32) :: (w.heap.size, b.2.drop 32) :: C)) := by
  have HH := Lib.hid h
  obtain ⟨hne, hne2⟩ := memB_ne h.nd
  have hcap := h.cap
  have c1 := h.row.mid
  rw [hd] at c1
  unfold blkV at c1
  rw [hb] at c1
  have K := Lib.hid (bag_block ⟨b.1, 64, none⟩ (b.2.drop 32) 32 32 w (by rw [List.length_drop, hb]) (by omega) (fun j v hv => by have := blk_from (h.blk b (by simp)) 32 j v hv; simpa using this))
  have hgB := h.row.lt
  obtain ⟨n, hn⟩ : ∃ n, n = (A ++ b :: C).length := ⟨_, rfl⟩
  rw [← hn] at hcap ⊢
  have hdn : (d : Int) < (n : Int) := by rw [hn]; simp; omega
  have HN := Lib.hid hn
  have HD := Lib.hid hd
  have hwd : IntKind.i64.wrap ((d : Int) + 1) = ((d + 1 : Nat) : Int) := by rw [IntKind.wrap_i64]; have : n ≤ 90000 := by rw [hn]; exact hn4
                                                                            omega
  obtain ⟨d1, hd1⟩ : ∃ d1, d1 = d + 1 := ⟨_, rfl⟩
  rw [← hd1] at hwd
  have HD1 := Lib.hid hd1
  have HN4 := Lib.hid hn4
  clear h hd1 hn hd hn4
  go_enter Try.func150, Try.ntmps150
  go_wp2_with fail
  refine K.out.mono ?_
  rintro e w1 ⟨rfl, hB1, hb1⟩
  have R1 := Lib.hid (HH.out.row.keep (hb1.block gB hgB))
  have c2 := R1.out.mid
  rw [HD.out] at c2
  unfold blkV at c2
  rw [hb] at c2
  have f2 := R1.out.free d
  have HB1 := Lib.hid hB1
  have Hb1 := Lib.hid hb1
  have R2 := Lib.hid (R1.out.set (b.1, b.2.take 32))
  rw [HD.out] at R2
  have hl32 : (b.2.take 32).length = 32 := by rw [List.length_take, hb]; rfl
  unfold blkV at R2
  simp only [hl32] at R2
  have hsz : (w1.setCell ⟨gB, d, none⟩ (.slice (some ⟨b.1, 0, none⟩) 32 64)).heap.size = w1.heap.size := by simp [World.setCell]
  have hnew := Box.new (w1.setCell ⟨gB, d, none⟩ (.slice (some ⟨b.1, 0, none⟩) 32 64)) #[.slice (some ⟨w.heap.size, 0, none⟩) 32 64] 28
  rw [hsz] at hnew
  have R3 := R2.out.keep (w' := (w1.setCell ⟨gB, d, none⟩ (.slice (some ⟨b.1, 0, none⟩) 32 64)).alloc (.cells #[.slice (some ⟨w.heap.size, 0, none⟩) 32 64] 28)) (Below.heap_alloc _ _ _ R2.out.lt)
  have hx : blkV (w.heap.size, b.2.drop 32) = .slice (some ⟨w.heap.size, 0, none⟩) 32 64 := by unfold blkV; simp only [List.length_drop, hb]
  have hgw : gB < w1.heap.size := Nat.lt_of_lt_of_le hgB hb1.size
  have K2 := bag_ins (A ++ (b.1, b.2.take 32) :: C) (w.heap.size, b.2.drop 32) gB c d1 w1.heap.size 28 _ R3 (by have := HN.out; have := HD1.out; have := HD.out; simp; omega) (by have := HN.out; have := HN4.out; simp at *; omega) (by rw [hx]; exact hnew) (by omega)
  have hln : (A ++ (b.1, b.2.take 32) :: C).length = n := by rw [HN.out]; simp
  have htd : (A ++ (b.1, b.2.take 32) :: C).take d1 ++ (w.heap.size, b.2.drop 32) :: (A ++ (b.1, b.2.take 32) :: C).drop d1 = A ++ (b.1, b.2.take 32) :: (w.heap.size, b.2.drop 32) :: C := by
    have e : A ++ (b.1, b.2.take 32) :: C = (A ++ [(b.1, b.2.take 32)]) ++ C := by simp
    have el : (A ++ [(b.1, b.2.take 32)]).length = d1 := by have := HD1.out; have := HD.out; simp; omega
    rw [e, ← el, List.take_left, List.drop_left]
    simp
  rw [hln, htd] at K2
  have HK2 := Lib.hid K2
  have hw2 : Hid (WrS [gB] w1 ((w1.setCell ⟨gB, d, none⟩ (.slice (some ⟨b.1, 0, none⟩) 32 64)).alloc (.cells #[.slice (some ⟨w.heap.size, 0, none⟩) 32 64] 28))) :=
    (WrS.cell [gB] w1 gB d _ (by simp)).trans (WrS.of [gB] ((Below.refl _ _).alloc (Nat.le_refl _) _)) fun x hx => Or.inl hx
  have hsz3 : Hid (w1.heap.size < ((w1.setCell ⟨gB, d, none⟩ (.slice (some ⟨b.1, 0, none⟩) 32 64)).alloc (.cells #[.slice (some ⟨w.heap.size, 0, none⟩) 32 64] 28)).heap.size) := by
    show _ < _
    rw [alloc_size', hsz]; omega
  clear hB1 hb1 K2 R3 hnew hx hln htd hsz
  go_wp2_with fail
  refine HK2.out.mono ?_
  rintro e w4 ⟨g', c', rfl, hrow, hwr, hg'⟩
  have HX : Hid (BkR w gB (A ++ b :: C) (A ++ (b.1, b.2.take 32) :: (w.heap.size, b.2.drop 32) :: C) (.returned (.slice (some ⟨g', 0, none⟩) (A ++ (b.1, b.2.take 32) :: (w.heap.size, b.2.drop 32) :: C).length c')) w4) := by
    have hb1 := Hb1.out
    have hH := HH.out
    have W14 : WrS [gB] w1 w4 := hw2.out.trans hwr fun x hx => Or.inl hx
    have W04 : WrS [gB] w w4 := (WrS.of [gB] hb1).trans W14 fun x hx => Or.inl hx
    have hs01 : w.heap.size < w1.heap.size := HB1.out.lt
    have hs3 := hsz3.out
    have hg2 : g' = gB ∨ w1.heap.size ≤ g' := hg'.imp id fun h => by omega
    have hold : ∀ y ∈ A ++ C, y.1 ≠ gB ∧ y.1 < w.heap.size := fun y hy => by
      refine ⟨(hne2 y.1 (List.mem_map.2 ⟨y, hy, rfl⟩)).2, ?_⟩
      refine (hH.blk y ?_).lt
      rcases List.mem_append.1 hy with g | g
      · exact List.mem_append_left _ g
      · exact List.mem_append_right _ (List.mem_cons_of_mem _ g)
    have hbl : b.1 < w.heap.size := (hH.blk b (by simp)).lt
    refine ⟨g', c', rfl, ⟨hrow, fun y hy => ?_, ?_⟩, ?_, ?_⟩
    · rcases List.mem_append.1 hy with g | g
      · have := hold y (List.mem_append_left _ g)
        exact (hH.blk y (List.mem_append_left _ g)).keep (W04.block y.1 this.2 (by simpa using this.1))
      · rcases List.mem_cons.1 g with rfl | g
        · exact ((hH.blk b (by simp)).take 32).keep (W04.block b.1 hbl (by simpa using Ne.symm hne))
        · rcases List.mem_cons.1 g with rfl | g
          · exact HB1.out.keep (W14.block w.heap.size hs01 (by simp; omega))
          · have := hold y (List.mem_append_right _ g)
            exact (hH.blk y (List.mem_append_right _ (List.mem_cons_of_mem _ g))).keep (W04.block y.1 this.2 (by simpa using this.1))
    · have hnd := hH.nd
      have hlt := hH.ltM
      unfold memB at *
      rw [List.nodup_cons] at hnd ⊢
      simp only [List.map_append, List.map_cons] at *
      have hfresh : ∀ z, z ∈ A.map (fun b => b.1) ++ b.1 :: C.map (fun b => b.1) → z < w.heap.size := fun z hz => hlt z (List.mem_cons_of_mem _ hz)
      refine ⟨fun hm => ?_, ?_⟩
      · have : g' = w.heap.size ∨ g' ∈ A.map (fun b => b.1) ++ b.1 :: C.map (fun b => b.1) := by
          simp only [List.mem_append, List.mem_cons] at hm ⊢
          rcases hm with h | h | h | h
          · exact Or.inr (Or.inl h)
          · exact Or.inr (Or.inr (Or.inl h))
          · exact Or.inl h
          · exact Or.inr (Or.inr (Or.inr h))
        rcases hg2 with rfl | h
        · rcases this with e | e
          · omega
          · exact hnd.1 e
        · rcases this with e | e
          · omega
          · have := hfresh _ e; omega
      · have h2 := hnd.2
        have : (w.heap.size :: (A.map (fun b => b.1) ++ b.1 :: C.map (fun b => b.1))).Nodup := List.nodup_cons.2 ⟨fun hm => Nat.lt_irrefl _ (hfresh _ hm), h2⟩
        refine this.perm ?_
        have p : (A.map (fun b => b.1) ++ b.1 :: w.heap.size :: C.map (fun b => b.1)) = (A.map (fun b => b.1) ++ [b.1]) ++ w.heap.size :: C.map (fun b => b.1) := by simp
        rw [p]
        have q : A.map (fun b => b.1) ++ b.1 :: C.map (fun b => b.1) = (A.map (fun b => b.1) ++ [b.1]) ++ C.map (fun b => b.1) := by simp
        rw [q]
        exact List.perm_middle.symm
    · exact ⟨W04.os, W04.tape, W04.output, W04.size, fun k hk hm => W04.block k hk fun hx => hm (by rw [List.mem_singleton.1 hx]; exact List.mem_cons_self)⟩
    · intro z hz
      unfold memB at hz ⊢
      simp only [List.map_append, List.map_cons, List.mem_cons, List.mem_append] at hz ⊢
      rcases hz with rfl | h | h | h | h
      · rcases hg2 with e | e
        · exact Or.inl (Or.inl e)
        · right; omega
      · exact Or.inl (Or.inr (Or.inl h))
      · exact Or.inl (Or.inr (Or.inr (Or.inl h)))
      · right; omega
      · exact Or.inl (Or.inr (Or.inr (Or.inr h)))
  clear hrow hwr hg'
  generalize (A ++ (b.1, b.2.take 32) :: (w.heap.size, b.2.drop 32) :: C).length = n2 at HX ⊢
  go_wp2
  go_ret
  exact HX.out
end Go.Proofs.Ytaeodkpkgbjaeaa

/-! Layer 18 (bag): what put does to a block that has room. -/
namespace Go.Proofs.Ytaeodkpkgbjaeaa
open Go.RowKit
set_option linter.unusedVariables false
set_option linter.unusedSimpArgs false

theorem set_mid2 (A C : List Value) (a b x y : Value) (k : Nat) (hk : A.length = k) : ((A ++ a :: b :: C).set k x).set (k + 1) y = A ++ x :: y :: C := by
  subst hk
  rw [List.set_append_right _ _ (Nat.le_refl _), Nat.sub_self, List.set_cons_zero, List.set_append_right _ _ (by omega)]
  simp
theorem WrS.mono {G G' : List Nat} {w w' : World} (h : WrS G w w') (hG : ∀ x ∈ G, x ∈ G') : WrS G' w w' := ⟨h.os, h.tape, h.output, h.size, fun k hk hn => h.block k hk fun hx => hn (hG k hx)⟩
theorem celS_cons (x : PQ) (l : List PQ) : celS (x :: l) = .int .i64 x.1 :: .int .i64 x.2 :: celS l := rfl
theorem put_cells1 (l : List PQ) (sp : List Value) (m : Nat) (s : PQ) (hm : l.length = m) (hsp : 2 ≤ sp.length) : layL (celS l ++ sp) (0 + m * 2) [.int .i64 s.1, .int .i64 s.2] = celS (l ++ [s]) ++ sp.drop 2 := by
  obtain ⟨a, b, sp', rfl⟩ : ∃ a b sp', sp = a :: b :: sp' := by
    cases sp with
    | nil => simp at hsp
    | cons a t => cases t with
      | nil => simp at hsp
      | cons b t => exact ⟨a, b, t, rfl⟩
  rw [layL_mid' _ (celS l) [a, b] sp' [.int .i64 s.1, .int .i64 s.2] (0 + m * 2) (by simp) (by rw [celS_len]; omega) (by rfl), celS_app]
  rfl
theorem put_cells2 (l : List PQ) (sp : List Value) (m r : Nat) (s : PQ) (hm : l.length = m) (hr : r ≤ m) :
    ∃ (u0 u1 : Value), layL (celS (l ++ [s]) ++ sp) ((r + 1) * 2) (celS (l.drop r)) = celS (l.take r) ++ u0 :: u1 :: (celS (l.drop r) ++ sp) := by
  have hA : (celS (l.take r)).length = r * 2 := by rw [celS_len, List.length_take]; omega
  rcases Nat.lt_or_ge r m with h | h
  · have e : l ++ [s] = l.take r ++ (l.getD r pq0) :: (l.drop (r + 1) ++ [s]) := by
      have e2 : l.getD r pq0 = l[r]'(by omega) := by simp [List.getElem?_eq_getElem (show r < l.length by omega)]
      rw [e2, ← List.cons_append, ← List.drop_eq_getElem_cons (by omega), ← List.append_assoc, List.take_append_drop]
    refine ⟨.int .i64 (l.getD r pq0).1, .int .i64 (l.getD r pq0).2, ?_⟩
    rw [e, celS_app, celS_cons]
    rw [layL_mid' _ (celS (l.take r) ++ [.int .i64 (l.getD r pq0).1, .int .i64 (l.getD r pq0).2]) (celS (l.drop (r + 1) ++ [s])) sp (celS (l.drop r)) ((r + 1) * 2) (by simp) (by rw [List.length_append, hA]; simp; omega) (by rw [celS_len, celS_len]; simp; omega)]
    simp
  · have e0 : l.drop r = [] := List.drop_eq_nil_of_le (by omega)
    have e1 : l.take r = l := List.take_of_length_le (by omega)
    refine ⟨.int .i64 s.1, .int .i64 s.2, ?_⟩
    rw [e0, e1]
    show layL _ _ [] = _
    rw [layL_nil, celS_app]
    simp [celS]
theorem put_cells3 (l : List PQ) (sp : List Value) (r : Nat) (s : PQ) : celS (l.take r) ++ .int .i64 s.1 :: .int .i64 s.2 :: (celS (l.drop r) ++ sp) = celS (insS l r s) ++ sp := by
  unfold insS
  rw [celS_app, celS_app]
  simp [celS]
/-- the worlds that put goes through -/
abbrev pw1 (W : World) (p q : Int) : World := (W.alloc (.cells #[.int .i64 p, .int .i64 q] 24)).drew
theorem put_tail (W : World) (A C : List Blk) (b : Blk) (gB c d m r ws : Nat) (p q : Int) (h : BksAt W gB c (A ++ b :: C)) (hd : A.length = d) (hm : b.2.length = m) (h64 : m < 64) (hr : r ≤ m) (hs : Box W ws #[.int .i64 p, .int .i64 q] 24) (hws : ws ≠ gB ∧ ws ≠ b.1) :
    ∃ (L1 L2 : List Value) (o : Nat) (u0 u1 : Value),
      (∀ ty, (Builtin.append_ #[28, 28] ty #[.slice (some ⟨b.1, 0, none⟩) m 64, .slice (some ⟨W.heap.size, 0, none⟩) 1 1]).run Try.prog (pw1 W p q) = .ok (.slice (some ⟨b.1, 0, none⟩) (m + 1) 64) ((pw1 W p q).setRow b.1 L1.toArray)) ∧
      (if 64 = r + 1 then (some ⟨b.1, 0, none⟩ : Option Addr) else some ⟨b.1, (r + 1) * 2, none⟩) = some ⟨b.1, o, none⟩ ∧
      (∀ ty dc sc, (Builtin.copy_ #[28, 28] ty #[.slice (some ⟨b.1, o, none⟩) (m + 1 - (r + 1)) dc, .slice (some ⟨b.1, r * 2, none⟩) (m + 1 - r) sc]).run Try.prog (((pw1 W p q).setRow b.1 L1.toArray).drew) = .ok (goInt (m - r : Nat)) ((((pw1 W p q).setRow b.1 L1.toArray).drew).setRow b.1 L2.toArray)) ∧
      Box ((((pw1 W p q).setRow b.1 L1.toArray).drew).setRow b.1 L2.toArray) ws #[.int .i64 p, .int .i64 q] 24 ∧
      ((((pw1 W p q).setRow b.1 L1.toArray).drew).setRow b.1 L2.toArray).cell? ⟨b.1, r * 2, none⟩ = some u0 ∧ ((((pw1 W p q).setRow b.1 L1.toArray).drew).setRow b.1 L2.toArray).cell? ⟨b.1, r * 2 + 1, none⟩ = some u1 ∧
      (∀ i, ((((pw1 W p q).setRow b.1 L1.toArray).drew).setRow b.1 L2.toArray).frozen? ⟨b.1, i, none⟩ = false) ∧
      (((((pw1 W p q).setRow b.1 L1.toArray).drew).setRow b.1 L2.toArray).cell? ⟨gB, d, none⟩ = some (.slice (some ⟨b.1, 0, none⟩) m 64) ∧ (((((pw1 W p q).setRow b.1 L1.toArray).drew).setRow b.1 L2.toArray).frozen? ⟨gB, d, none⟩ = false)) ∧
      (∀ X : World, X = ((((((pw1 W p q).setRow b.1 L1.toArray).drew).setRow b.1 L2.toArray).setCell ⟨b.1, r * 2, none⟩ (.int .i64 p)).setCell ⟨b.1, r * 2 + 1, none⟩ (.int .i64 q)).setCell ⟨gB, d, none⟩ (.slice (some ⟨b.1, 0, none⟩) (m + 1) 64) →
        BksAt X gB c (A ++ (b.1, insS b.2 r (p, q)) :: C) ∧ WrS (memB gB (A ++ b :: C)) W X) := by
  obtain ⟨i0, hi0, hz0, hz1, hz2⟩ := info_parts3 info_sc
  obtain ⟨hne, hne2⟩ := memB_ne h.nd
  obtain ⟨sp, hsp, hbx⟩ := h.blk b (by simp)
  have hbl := hbx.lt
  rw [List.length_append, celS_len, hm] at hsp
  have hX1 : Below W.heap.size W (pw1 W p q) := ((Below.refl _ _).alloc (Nat.le_refl _) _).drew
  have hbx1 : Box (pw1 W p q) b.1 (celS b.2 ++ sp).toArray 24 := hbx.below hX1 hbl
  have hnew : Box (pw1 W p q) W.heap.size #[.int .i64 p, .int .i64 q] 24 := Box.new W _ _
  have hL0 : (celS b.2 ++ sp).length = 128 := by rw [List.length_append, celS_len, hm]; omega
  have e1 := put_cells1 b.2 sp m (p, q) hm (by omega)
  obtain ⟨u0, u1, e2⟩ := put_cells2 b.2 (sp.drop 2) m r (p, q) hm hr
  have hL1 : (celS (b.2 ++ [(p, q)]) ++ sp.drop 2).length = 128 := by rw [List.length_append, celS_len]; simp; omega
  have hbx2 : Box (((pw1 W p q).setRow b.1 (celS (b.2 ++ [(p, q)]) ++ sp.drop 2).toArray).drew) b.1 (celS (b.2 ++ [(p, q)]) ++ sp.drop 2).toArray 24 := setRow_heap _ _ _ _ _ _ hbx1
  have hbx3 := setRow_heap _ b.1 _ (celS (b.2.take r) ++ u0 :: u1 :: (celS (b.2.drop r) ++ sp.drop 2)).toArray _ _ hbx2
  have hA : (celS (b.2.take r)).length = r * 2 := by rw [celS_len, List.length_take]; omega
  have hW13 : WrS [b.1] W ((((pw1 W p q).setRow b.1 (celS (b.2 ++ [(p, q)]) ++ sp.drop 2).toArray).drew).setRow b.1 (celS (b.2.take r) ++ u0 :: u1 :: (celS (b.2.drop r) ++ sp.drop 2)).toArray) :=
    (((WrS.of [b.1] hX1).trans (WrS.row [b.1] _ b.1 _ (by simp)) fun x hx => Or.inl hx).trans (WrS.of [b.1] (Below.refl _ _).drew) fun x hx => Or.inl hx).trans (WrS.row [b.1] _ b.1 _ (by simp)) fun x hx => Or.inl hx
  have hrow3 : RowAt ((((pw1 W p q).setRow b.1 (celS (b.2 ++ [(p, q)]) ++ sp.drop 2).toArray).drew).setRow b.1 (celS (b.2.take r) ++ u0 :: u1 :: (celS (b.2.drop r) ++ sp.drop 2)).toArray) gB c (A ++ b :: C) := h.row.keep (hW13.block gB h.row.lt (by simpa using hne))
  have hsrc2 : ∀ j v, (celS (b.2.drop r))[j]? = some v → (((pw1 W p q).setRow b.1 (celS (b.2 ++ [(p, q)]) ++ sp.drop 2).toArray).drew).cell? ((⟨b.1, r * 2, none⟩ : Addr).add j) = some v := fun j v hj => by
    have hjl : j < (celS (b.2.drop r)).length := by
      rcases Nat.lt_or_ge j (celS (b.2.drop r)).length with g | g
      · exact g
      · rw [List.getElem?_eq_none g] at hj; cases hj
    rw [celS_len, List.length_drop] at hjl
    rw [Addr.add_lit, hbx2.cell]
    simp only [List.getElem?_toArray]
    rw [List.getElem?_append_left (by rw [celS_len]; simp; omega), celS_app, List.getElem?_append_left (by rw [celS_len]; omega), ← hj, ← celS_drop, List.getElem?_drop]
  refine ⟨celS (b.2 ++ [(p, q)]) ++ sp.drop 2, celS (b.2.take r) ++ u0 :: u1 :: (celS (b.2.drop r) ++ sp.drop 2), if 64 = r + 1 then 0 else (r + 1) * 2, u0, u1, ?_, ?_, ?_, ?_, ?_, ?_, ?_, ?_, ?_⟩
  · intro ty
    have hrun := run_app_k (P := Try.prog) (pw1 W p q) 28 ty 24 i0 2 Try.underlying28 hi0 hz1 b.1 0 m 64 ⟨W.heap.size, 0, none⟩ 1 1 (celS b.2 ++ sp) 24 [.int .i64 p, .int .i64 q] hbx1 rfl (fun j v hj => by rw [Addr.add_lit, Nat.zero_add, hnew.cell]; simpa using hj) (by omega) (by rw [hL0]; simp; omega) (by intro v hv; simp at hv; rcases hv with rfl | rfl <;> rfl)
    rw [e1] at hrun
    exact hrun
  · split <;> rfl
  · intro ty dc sc
    have hlen : (celS (b.2.drop r)).length = Nat.min (m + 1 - r) (m + 1 - (r + 1)) * 2 := by
      rw [celS_len, List.length_drop, hm]; simp only [Nat.min_def]; split <;> omega
    have hmin : Nat.min (m + 1 - r) (m + 1 - (r + 1)) = m - r := by simp only [Nat.min_def]; split <;> omega
    by_cases h64' : 64 = r + 1
    · rw [if_pos h64']
      have e0 : b.2.drop r = [] := List.drop_eq_nil_of_le (by omega)
      have hrun := run_copy_k (P := Try.prog) (((pw1 W p q).setRow b.1 (celS (b.2 ++ [(p, q)]) ++ sp.drop 2).toArray).drew) 28 28 ty 24 i0 2 Try.underlying28 hi0 hz1 b.1 0 (m + 1 - (r + 1)) dc ⟨b.1, r * 2, none⟩ (m + 1 - r) sc _ 24 (celS (b.2.drop r)) hbx2 hlen hsrc2 (by rw [hL1, e0]; simp [celS]) celS_one
      rw [hmin] at hrun
      have e3 : layL (celS (b.2 ++ [(p, q)]) ++ sp.drop 2) 0 (celS (b.2.drop r)) = layL (celS (b.2 ++ [(p, q)]) ++ sp.drop 2) ((r + 1) * 2) (celS (b.2.drop r)) := by
        rw [e0]; show layL _ _ [] = layL _ _ []; rw [layL_nil, layL_nil]
      rw [e3, e2] at hrun
      exact hrun
    · rw [if_neg h64']
      have hrun := run_copy_k (P := Try.prog) (((pw1 W p q).setRow b.1 (celS (b.2 ++ [(p, q)]) ++ sp.drop 2).toArray).drew) 28 28 ty 24 i0 2 Try.underlying28 hi0 hz1 b.1 ((r + 1) * 2) (m + 1 - (r + 1)) dc ⟨b.1, r * 2, none⟩ (m + 1 - r) sc _ 24 (celS (b.2.drop r)) hbx2 hlen hsrc2 (by rw [hL1, celS_len, List.length_drop, hm]; omega) celS_one
      rw [hmin, e2] at hrun
      exact hrun
  · exact hW13.box hs (by simpa using hws.2)
  · have := Box.cell hbx3 (r * 2)
    rw [this]
    simp only [List.getElem?_toArray]
    rw [← hA, List.getElem?_append_right (Nat.le_refl _)]; simp
  · have := Box.cell hbx3 (r * 2 + 1)
    rw [this]
    simp only [List.getElem?_toArray]
    rw [← hA, List.getElem?_append_right (by omega)]; simp
  · exact fun i => Box.free hbx3 i
  · have := hrow3.mid
    unfold blkV at this
    rw [hd, hm] at this
    exact ⟨this, hrow3.free d⟩
  · rintro X rfl
    have hbx4 := (Box.set hbx3 (r * 2) (.int .i64 p)).set (r * 2 + 1) (.int .i64 q)
    have e4 : (((celS (b.2.take r) ++ u0 :: u1 :: (celS (b.2.drop r) ++ sp.drop 2)).toArray.setIfInBounds (r * 2) (.int .i64 p)).setIfInBounds (r * 2 + 1) (.int .i64 q)) = (celS (insS b.2 r (p, q)) ++ sp.drop 2).toArray := by
      rw [← put_cells3, ← set_mid2 (celS (b.2.take r)) (celS (b.2.drop r) ++ sp.drop 2) u0 u1 (.int .i64 p) (.int .i64 q) (r * 2) hA]
      simp
    rw [e4] at hbx4
    have hbx5 := Box.off hbx4 (p := ⟨gB, d, none⟩) hne (.slice (some ⟨b.1, 0, none⟩) (m + 1) 64)
    have W14 : WrS [b.1] W (((((((pw1 W p q).setRow b.1 (celS (b.2 ++ [(p, q)]) ++ sp.drop 2).toArray).drew).setRow b.1 (celS (b.2.take r) ++ u0 :: u1 :: (celS (b.2.drop r) ++ sp.drop 2)).toArray).setCell ⟨b.1, r * 2, none⟩ (.int .i64 p))).setCell ⟨b.1, r * 2 + 1, none⟩ (.int .i64 q)) :=
      (hW13.trans (WrS.cell [b.1] _ b.1 _ _ (by simp)) fun x hx => Or.inl hx).trans (WrS.cell [b.1] _ b.1 _ _ (by simp)) fun x hx => Or.inl hx
    have hrow4 := h.row.keep (W14.block gB h.row.lt (by simpa using hne))
    have hrow5 := hrow4.set (b.1, insS b.2 r (p, q))
    have hv5 : blkV (b.1, insS b.2 r (p, q)) = .slice (some ⟨b.1, 0, none⟩) (m + 1) 64 := by unfold blkV; simp only [insS_len b.2 r (p, q) (by omega), hm]
    rw [hv5, hd] at hrow5
    have W15 := (W14.mono (G' := [b.1, gB]) (by simp)).trans (WrS.cell [b.1, gB] _ gB d (.slice (some ⟨b.1, 0, none⟩) (m + 1) 64) (by simp)) fun x hx => Or.inl hx
    refine ⟨h.swap rfl hrow5 ⟨sp.drop 2, ?_, hbx5⟩ fun x hx => ?_, W15.mono fun x hx => ?_⟩
    · rw [List.length_append, celS_len, insS_len b.2 r (p, q) (by omega), hm, List.length_drop]; omega
    · have hx2 := hne2 x hx
      obtain ⟨y, hy, rfl⟩ := List.mem_map.1 hx
      refine W15.block y.1 (h.blk y ?_).lt (by simp [hx2.1, hx2.2])
      rcases List.mem_append.1 hy with g | g
      · exact List.mem_append_left _ g
      · exact List.mem_append_right _ (List.mem_cons_of_mem _ g)
    · simp only [List.mem_cons, List.not_mem_nil, or_false] at hx
      unfold memB
      rcases hx with rfl | rfl
      · simp
      · simp
end Go.Proofs.Ytaeodkpkgbjaeaa

/-! Layer 18 (bag): put. -/
namespace Go.Proofs.Ytaeodkpkgbjaeaa
open Go.RowKit
set_option linter.unusedVariables false
set_option linter.unusedSimpArgs false

/-- what put gives -/
def PutR (w : World) (gB : Nat) (A C : List Blk) (b : Blk) (r : Nat) (s : PQ) (e : Ending) (w' : World) : Prop :=
  ∃ bs', BkR w gB (A ++ b :: C) bs' e w' ∧ flat bs' = insS (flat (A ++ b :: C)) ((flat A).length + r) s ∧ (OkL (A ++ b :: C) → okP s → OkL bs')
theorem insS_ok {l : List PQ} {k : Nat} {s : PQ} (h : ∀ x ∈ l, okP x) (hs : okP s) : ∀ x ∈ insS l k s, okP x := fun x hx => by
  rcases insS_mem hx with rfl | g
  · exact hs
  · exact h x g
set_option maxRecDepth 100000 in
set_option maxHeartbeats 4000000 in
theorem bag_put_room (A C : List Blk) (b : Blk) (gB c d m r : Nat) (p q : Int) (w : World) (h : BksAt w gB c (A ++ b :: C)) (hd : A.length = d) (hm : b.2.length = m) (h64 : m < 64) (hr : r ≤ m) (hn4 : (A ++ b :: C).length ≤ 90000) :
    Calls Try.prog 89 #[.slice (some ⟨gB, 0, none⟩) (A ++ b :: C).length c, .int .i64 d, .int .i64 r, .agg #[.int .i64 p, .int .i64 q]] w (PutR w gB A C b r (p, q)) := by
  have J0 := Lib.hid ((Keeps.start w).alloc #[.int .i64 p, .int .i64 q] 24)
  have H := Lib.hid (h.below J0.out.2.1)
  have HS := Lib.hid J0.out.head
  have hcap := h.cap
  have hltM := h.ltM
  have hws : w.heap.size ≠ gB ∧ w.heap.size ≠ b.1 := by
    have h1 := hltM gB (by unfold memB; simp)
    have h2 := hltM b.1 (by unfold memB; simp)
    omega
  have c1 := H.out.row.mid
  rw [hd] at c1
  unfold blkV at c1
  rw [hm] at c1
  have hne : ¬ ((m : Int) = 64) := by omega
  have hdn : (d : Int) < ((A ++ b :: C).length : Int) := by simp; omega
  obtain ⟨n, hn⟩ : ∃ n, n = (A ++ b :: C).length := ⟨_, rfl⟩
  rw [← hn] at hcap hdn ⊢
  have HB0 := Lib.hid J0.out.2.1
  have HN := Lib.hid hn
  clear h hltM hn J0
  go_enter Try.func89, Try.ntmps89
  go_upto_region 5 with fail
  generalize hW : w.alloc (.cells #[.int .i64 p, .int .i64 q] 24) = W at *
  clear hW c1
  obtain ⟨L1, L2, o, u0, u1, ha, hif, hcq, hbs, hu0, hu1, hfr, hgd, hX⟩ := put_tail W A C b gB c d m r w.heap.size p q H.out hd hm h64 hr HS.out hws
  have HA := Lib.hid (ha 28)
  have HC := Lib.hid hcq
  have HX := Lib.hid hX
  obtain ⟨z0, z1, _, _⟩ := HS.out.two
  obtain ⟨y0, y1, _, _⟩ := hbs.two
  have gq0 := H.out.row.mid
  rw [hd] at gq0
  unfold blkV at gq0
  rw [hm] at gq0
  have i0 := hfr (r * 2)
  have i1 := hfr (r * 2 + 1)
  obtain ⟨gd, gf⟩ := hgd
  have hm64 := h64
  have hrm := hr
  obtain ⟨m1, hm1⟩ : ∃ m1, m1 = m + 1 := ⟨_, rfl⟩
  obtain ⟨r1, hr1⟩ : ∃ r1, r1 = r + 1 := ⟨_, rfl⟩
  rw [← hm1] at HA HC HX
  rw [← hr1] at HC hif
  have hwr1 : IntKind.i64.wrap ((r : Int) + 1) = (r1 : Int) := by rw [IntKind.wrap_i64]; omega
  have k1 : (d : Int) < (n : Int) := hdn
  have k2 : r1 ≤ m1 := by omega
  have k3 : r ≤ m1 := by omega
  have k4 : ¬ (64 = r) := by omega
  have k5 : (r : Int) < (m1 : Int) := by omega
  have k6 : m1 ≤ 64 := by omega
  have k7 : n ≤ c := hcap
  have P1 := Lib.hid (show Below W.heap.size W (W.alloc (.cells #[.int .i64 p, .int .i64 q] 24)) from (Below.refl _ _).alloc (Nat.le_refl _) _)
  obtain ⟨z2, z3, _, _⟩ := (HS.out.below P1.out HS.out.lt).two
  have gq2 := (H.out.row.keep (P1.out.block gB H.out.row.lt)).mid
  rw [hd] at gq2
  unfold blkV at gq2
  rw [hm] at gq2
  unfold pw1 at *
  have HM1 := Lib.hid hm1
  have HR1 := Lib.hid hr1
  clear ha hcq hX hbs hfr hm1 hr1
  obtain ⟨hne1, -⟩ := memB_ne H.out.nd
  have hne2 := Ne.symm hne1
  go_cut [9] from 9 to 31 (fun l wx => l = .slice (some ⟨b.1, 0, none⟩) m1 64 ∧ wx = ((W.alloc (.cells #[.int .i64 p, .int .i64 q] 24)).drew).setRow b.1 L1.toArray)
  case first =>
    go_wp2_with fail
    go_region_law (refine step_of_wp rfl (wp_app_run _ (.tmp 28) (.tmp 30) 28 28 rfl _ _ (by simp [Act.eval, Act.put]) (by simp [Act.eval, Act.put]) HA.out ?_))
    all_goals
      go_wp2_with fail
      go_meet
      exact ⟨rfl, rfl⟩
  case rest =>
  obtain ⟨rfl, rfl⟩ := hcut
  have hq := HC.out 3 (64 - r1) (64 - r)
  go_upto_region 6 with fail
  go_region
  clear hq HC HA z0 z1 z2 z3 gq0 gq2 hif k2 k3 k4 k6 hwr1
  generalize ((((W.alloc (.cells #[.int .i64 p, .int .i64 q] 24)).drew).setRow b.1 L1.toArray).drew).setRow b.1 L2.toArray = W3 at *
  go_wp2
  go_ret
  obtain ⟨hBk, hWr⟩ := HX.out _ rfl
  refine ⟨A ++ (b.1, insS b.2 r (p, q)) :: C, ⟨gB, c, by rw [HN.out]; simp, hBk, (WrS.of _ HB0.out).trans hWr fun x hx => Or.inl hx, fun x hx => Or.inl ?_⟩, flat_put (by omega), fun hO hs => hO.put ?_ ?_ (insS_ok (hO.nums b (by simp)) hs)⟩
  · rwa [memB_swap (b := b) (b' := (b.1, insS b.2 r (p, q))) rfl] at hx
  · rw [insS_len _ _ _ (by omega)]; omega
  · rw [insS_len _ _ _ (by omega)]; omega
set_option maxRecDepth 100000 in
set_option maxHeartbeats 4000000 in
theorem bag_put_low (A C : List Blk) (b : Blk) (gB c d r : Nat) (p q : Int) (w : World) (h : BksAt w gB c (A ++ b :: C)) (hd : A.length = d) (hm : b.2.length = 64) (hr : r ≤ 32) (hn4 : (A ++ b :: C).length ≤ 90000) :
    Calls Try.prog 89 #[.slice (some ⟨gB, 0, none⟩) (A ++ b :: C).length c, .int .i64 d, .int .i64 r, .agg #[.int .i64 p, .int .i64 q]] w (PutR w gB A C b r (p, q)) := by
  have J0 := Lib.hid ((Keeps.start w).alloc #[.int .i64 p, .int .i64 q] 24)
  have hH0 := h.below J0.out.2.1
  have HS0 := Lib.hid J0.out.head
  have hcap := h.cap
  have hltM := h.ltM
  have hwsM : w.heap.size ∉ memB gB (A ++ b :: C) := fun hm => by have := hltM _ hm; omega
  have c1 := hH0.row.mid
  rw [hd] at c1
  unfold blkV at c1
  rw [hm] at c1
  have K := Lib.hid (bag_split A C b gB c d _ hH0 hd hm hn4)
  have hdn : (d : Int) < ((A ++ b :: C).length : Int) := by simp; omega
  obtain ⟨n, hn⟩ : ∃ n, n = (A ++ b :: C).length := ⟨_, rfl⟩
  rw [← hn] at hcap hdn K ⊢
  have HB0 := Lib.hid J0.out.2.1
  have HN := Lib.hid hn
  have HN4 := Lib.hid hn4
  have HWS := Lib.hid hwsM
  have HM := Lib.hid hm
  have HD := Lib.hid hd
  have hrr : ¬ (32 : Int) < (r : Int) := by omega
  clear h hltM hn J0 hH0 hn4 hwsM hm hd
  go_enter Try.func89, Try.ntmps89
  go_wp2_with fail
  refine K.out.mono ?_
  rintro e W ⟨g', c', rfl, hbk, hwr, hnew⟩
  have hszW : w.heap.size < w.heap.size + 1 := Nat.lt_succ_self _
  have HS := Lib.hid (hwr.box HS0.out HWS.out)
  have hws' : w.heap.size ∉ memB g' (A ++ (b.1, b.2.take 32) :: ((w.alloc (.cells #[.int .i64 p, .int .i64 q] 24)).heap.size, b.2.drop 32) :: C) := fun hx => by
    rcases hnew _ hx with g | g
    · exact HWS.out g
    · rw [alloc_size'] at g; omega
  have HWR := Lib.hid hwr
  have HNEW := Lib.hid hnew
  have hm := HM.out
  have hd := HD.out
  have hsz2 : w.heap.size < (w.alloc (.cells #[.int .i64 p, .int .i64 q] 24)).heap.size := by simp
  generalize (w.alloc (.cells #[.int .i64 p, .int .i64 q] 24)).heap.size = g2 at *
  have hcap2 := hbk.cap
  obtain ⟨n2, hn2⟩ : ∃ n2, n2 = (A ++ (b.1, b.2.take 32) :: (g2, b.2.drop 32) :: C).length := ⟨_, rfl⟩
  rw [← hn2] at hcap2 ⊢
  have HN2 := Lib.hid hn2
  have hdn2 : (d : Int) < (n2 : Int) := by rw [hn2]; simp; omega
  have H : Hid (BksAt W g' c' (A ++ (b.1, b.2.take 32) :: ((g2, b.2.drop 32) :: C))) := hbk
  have hm2 : ((b.1, b.2.take 32) : Blk).2.length = 32 := by show (b.2.take 32).length = 32; rw [List.length_take, hm]; rfl
  have hws : w.heap.size ≠ g' ∧ w.heap.size ≠ ((b.1, b.2.take 32) : Blk).1 := ⟨fun e => hws' (by unfold memB; simp [e]), fun e => hws' (by unfold memB; simp; exact Or.inr (Or.inr (Or.inl e)))⟩
  have h64 : (32 : Nat) < 64 := by omega
  clear hbk hwr hnew hws' hn2 K c1 HS0
  go_upto_region 5 with fail
  obtain ⟨L1, L2, o, u0, u1, ha, hif, hcq, hbs, hu0, hu1, hfr, hgd, hX⟩ := put_tail W A ((g2, b.2.drop 32) :: C) (b.1, b.2.take 32) g' c' d 32 r w.heap.size p q H.out hd hm2 h64 hr HS.out hws
  have HA := Lib.hid (ha 28)
  have HC := Lib.hid hcq
  have HX := Lib.hid hX
  obtain ⟨z0, z1, _, _⟩ := HS.out.two
  obtain ⟨y0, y1, _, _⟩ := hbs.two
  have gq0 := H.out.row.mid
  rw [hd] at gq0
  unfold blkV at gq0
  rw [hm2] at gq0
  have i0 := hfr (r * 2)
  have i1 := hfr (r * 2 + 1)
  obtain ⟨gd, gf⟩ := hgd
  have hm64 := h64
  have hrm := hr
  obtain ⟨m1, hm1⟩ : ∃ m1, m1 = 32 + 1 := ⟨_, rfl⟩
  obtain ⟨r1, hr1⟩ : ∃ r1, r1 = r + 1 := ⟨_, rfl⟩
  rw [← hm1] at HA HC HX
  rw [← hr1] at HC hif
  have hwr1 : IntKind.i64.wrap ((r : Int) + 1) = (r1 : Int) := by rw [IntKind.wrap_i64]; omega
  have k1 : (d : Int) < (n2 : Int) := hdn2
  have k2 : r1 ≤ m1 := by omega
  have k3 : r ≤ m1 := by omega
  have k4 : ¬ (64 = r) := by omega
  have k5 : (r : Int) < (m1 : Int) := by omega
  have k6 : m1 ≤ 64 := by omega
  have k7 : n2 ≤ c' := hcap2
  have P1 := Lib.hid (show Below W.heap.size W (W.alloc (.cells #[.int .i64 p, .int .i64 q] 24)) from (Below.refl _ _).alloc (Nat.le_refl _) _)
  obtain ⟨z2, z3, _, _⟩ := (HS.out.below P1.out HS.out.lt).two
  have gq2 := (H.out.row.keep (P1.out.block g' H.out.row.lt)).mid
  rw [hd] at gq2
  unfold blkV at gq2
  rw [hm2] at gq2
  unfold pw1 at *
  have HM1 := Lib.hid hm1
  have HR1 := Lib.hid hr1
  clear ha hcq hX hbs hfr hm1 hr1
  obtain ⟨hne1, -⟩ := memB_ne H.out.nd
  have hne2 := Ne.symm hne1
  go_cut [9] from 9 to 31 (fun l wx => l = .slice (some ⟨(b.1, b.2.take 32).1, 0, none⟩) m1 64 ∧ wx = ((W.alloc (.cells #[.int .i64 p, .int .i64 q] 24)).drew).setRow (b.1, b.2.take 32).1 L1.toArray)
  case first =>
    go_wp2_with fail
    go_region_law (refine step_of_wp rfl (wp_app_run _ (.tmp 28) (.tmp 30) 28 28 rfl _ _ (by simp [Act.eval, Act.put]) (by simp [Act.eval, Act.put]) HA.out ?_))
    all_goals
      go_wp2_with fail
      go_meet
      exact ⟨rfl, rfl⟩
  case rest =>
  obtain ⟨rfl, rfl⟩ := hcut
  have hq := HC.out 3 (64 - r1) (64 - r)
  go_upto_region 6 with fail
  go_region
  clear hq HC HA z0 z1 z2 z3 gq0 gq2 hif k2 k3 k4 k6 hwr1
  generalize ((((W.alloc (.cells #[.int .i64 p, .int .i64 q] 24)).drew).setRow (b.1, b.2.take 32).1 L1.toArray).drew).setRow (b.1, b.2.take 32).1 L2.toArray = W3 at *
  go_wp2
  go_ret
  obtain ⟨hBk, hWr⟩ := HX.out _ rfl
  have hws2 : ∀ x ∈ memB g' (A ++ (b.1, insS (b.2.take 32) r (p, q)) :: (g2, b.2.drop 32) :: C), x ∈ memB g' (A ++ (b.1, b.2.take 32) :: (g2, b.2.drop 32) :: C) := fun x hx => by rwa [memB_swap (b := (b.1, b.2.take 32)) (b' := (b.1, insS (b.2.take 32) r (p, q))) rfl] at hx
  have hl32 : (b.2.take 32).length = 32 := hm2
  refine ⟨A ++ (b.1, insS (b.2.take 32) r (p, q)) :: (g2, b.2.drop 32) :: C, ⟨g', c', by rw [HN2.out]; simp, hBk, ((WrS.of _ HB0.out).trans HWR.out fun x hx => Or.inl hx).trans hWr fun x hx => ?_, fun x hx => ?_⟩, ?_, fun hO hs => ?_⟩
  · rcases HNEW.out x hx with g | g
    · exact Or.inl g
    · right; omega
  · rcases HNEW.out x (hws2 x hx) with g | g
    · exact Or.inl g
    · right; omega
  · have e := flat_put (A := A) (C := (g2, b.2.drop 32) :: C) (b := (b.1, b.2.take 32)) (r := r) (s := (p, q)) (by show r ≤ (b.2.take 32).length; omega)
    have e2 : flat (A ++ (b.1, b.2.take 32) :: (g2, b.2.drop 32) :: C) = flat (A ++ b :: C) := by simp only [flat_app, flat_cons]; rw [← List.append_assoc (b.2.take 32), List.take_append_drop]
    rw [e2] at e
    exact e
  · have hO2 : OkL (A ++ (b.1, b.2.take 32) :: (g2, b.2.drop 32) :: C) := hO.split (b1 := (b.1, b.2.take 32)) (b2 := (g2, b.2.drop 32)) (by show 0 < (b.2.take 32).length; omega) (by show 0 < (b.2.drop 32).length; rw [List.length_drop]; omega) (List.take_append_drop 32 b.2)
    exact hO2.put (by show 0 < (insS (b.2.take 32) r (p, q)).length; rw [insS_len _ _ _ (by omega)]; omega) (by show (insS (b.2.take 32) r (p, q)).length ≤ 64; rw [insS_len _ _ _ (by omega)]; omega) (insS_ok (hO2.nums (b.1, b.2.take 32) (by simp)) hs)
set_option maxRecDepth 100000 in
set_option maxHeartbeats 4000000 in
theorem bag_put_high (A C : List Blk) (b : Blk) (gB c d r : Nat) (p q : Int) (w : World) (h : BksAt w gB c (A ++ b :: C)) (hd : A.length = d) (hm : b.2.length = 64) (hr : 32 < r ∧ r ≤ 64) (hn4 : (A ++ b :: C).length ≤ 90000) :
    Calls Try.prog 89 #[.slice (some ⟨gB, 0, none⟩) (A ++ b :: C).length c, .int .i64 d, .int .i64 r, .agg #[.int .i64 p, .int .i64 q]] w (PutR w gB A C b r (p, q)) := by
  have J0 := Lib.hid ((Keeps.start w).alloc #[.int .i64 p, .int .i64 q] 24)
  have hH0 := h.below J0.out.2.1
  have HS0 := Lib.hid J0.out.head
  have hcap := h.cap
  have hltM := h.ltM
  have hwsM : w.heap.size ∉ memB gB (A ++ b :: C) := fun hm => by have := hltM _ hm; omega
  have c1 := hH0.row.mid
  rw [hd] at c1
  unfold blkV at c1
  rw [hm] at c1
  have K := Lib.hid (bag_split A C b gB c d _ hH0 hd hm hn4)
  have hdn : (d : Int) < ((A ++ b :: C).length : Int) := by simp; omega
  obtain ⟨n, hn⟩ : ∃ n, n = (A ++ b :: C).length := ⟨_, rfl⟩
  rw [← hn] at hcap hdn K ⊢
  have HB0 := Lib.hid J0.out.2.1
  have HN := Lib.hid hn
  have HN4 := Lib.hid hn4
  have HWS := Lib.hid hwsM
  have HM := Lib.hid hm
  have HD := Lib.hid hd
  have hrr : (32 : Int) < (r : Int) := by omega
  clear h hltM hn J0 hH0 hn4 hwsM hm hd
  go_enter Try.func89, Try.ntmps89
  go_wp2_with fail
  refine K.out.mono ?_
  rintro e W ⟨g', c', rfl, hbk, hwr, hnew⟩
  have hszW : w.heap.size < w.heap.size + 1 := Nat.lt_succ_self _
  have HS := Lib.hid (hwr.box HS0.out HWS.out)
  have hws' : w.heap.size ∉ memB g' (A ++ (b.1, b.2.take 32) :: ((w.alloc (.cells #[.int .i64 p, .int .i64 q] 24)).heap.size, b.2.drop 32) :: C) := fun hx => by
    rcases hnew _ hx with g | g
    · exact HWS.out g
    · rw [alloc_size'] at g; omega
  have HWR := Lib.hid hwr
  have HNEW := Lib.hid hnew
  have hm := HM.out
  have hd := HD.out
  have hsz2 : w.heap.size < (w.alloc (.cells #[.int .i64 p, .int .i64 q] 24)).heap.size := by simp
  generalize (w.alloc (.cells #[.int .i64 p, .int .i64 q] 24)).heap.size = g2 at *
  have hcap2 := hbk.cap
  obtain ⟨n2, hn2⟩ : ∃ n2, n2 = (A ++ (b.1, b.2.take 32) :: (g2, b.2.drop 32) :: C).length := ⟨_, rfl⟩
  rw [← hn2] at hcap2 ⊢
  have HN2 := Lib.hid hn2
  have hdn2 : (d + 1 : Int) < (n2 : Int) := by rw [hn2]; simp; omega
  have H : Hid (BksAt W g' c' ((A ++ [(b.1, b.2.take 32)]) ++ (g2, b.2.drop 32) :: C)) := by
    show BksAt _ _ _ _
    rw [List.append_assoc]; exact hbk
  have hm2 : ((g2, b.2.drop 32) : Blk).2.length = 32 := by show (b.2.drop 32).length = 32; rw [List.length_drop, hm]
  have hws : w.heap.size ≠ g' ∧ w.heap.size ≠ ((g2, b.2.drop 32) : Blk).1 := ⟨fun e => hws' (by unfold memB; simp [e]), fun e => hws' (by unfold memB; simp; exact Or.inr (Or.inr (Or.inr (Or.inl e))))⟩
  have h64 : (32 : Nat) < 64 := by omega
  obtain ⟨d1, hd1⟩ : ∃ d1, d1 = d + 1 := ⟨_, rfl⟩
  obtain ⟨r2, hr2⟩ : ∃ r2, r2 = r - 32 := ⟨_, rfl⟩
  have hwd : IntKind.i64.wrap ((d : Int) + 1) = (d1 : Int) := by rw [IntKind.wrap_i64]; have := HN4.out; simp at this; omega
  have hwr2 : IntKind.i64.wrap ((r : Int) - 32) = (r2 : Int) := by rw [IntKind.wrap_i64]; omega
  have hd2 : (A ++ [(b.1, b.2.take 32)]).length = d1 := by simp; omega
  have hdn3 : (d1 : Int) < (n2 : Int) := by omega
  have hr3 : r2 ≤ 32 := by omega
  have HR2 := Lib.hid hr2
  have HD1 := Lib.hid hd1
  clear hbk hwr hnew hws' hn2 K c1 HS0 hd1 hr2 hdn2
  go_upto_region 5 with fail
  obtain ⟨L1, L2, o, u0, u1, ha, hif, hcq, hbs, hu0, hu1, hfr, hgd, hX⟩ := put_tail W (A ++ [(b.1, b.2.take 32)]) C (g2, b.2.drop 32) g' c' d1 32 r2 w.heap.size p q H.out hd2 hm2 h64 hr3 HS.out hws
  have HA := Lib.hid (ha 28)
  have HC := Lib.hid hcq
  have HX := Lib.hid hX
  obtain ⟨z0, z1, _, _⟩ := HS.out.two
  obtain ⟨y0, y1, _, _⟩ := hbs.two
  have gq0 := H.out.row.mid
  rw [hd2] at gq0
  unfold blkV at gq0
  rw [hm2] at gq0
  have i0 := hfr (r2 * 2)
  have i1 := hfr (r2 * 2 + 1)
  obtain ⟨gd, gf⟩ := hgd
  have hm64 := h64
  have hrm := hr3
  obtain ⟨m1, hm1⟩ : ∃ m1, m1 = 32 + 1 := ⟨_, rfl⟩
  obtain ⟨r1, hr1⟩ : ∃ r1, r1 = r2 + 1 := ⟨_, rfl⟩
  rw [← hm1] at HA HC HX
  rw [← hr1] at HC hif
  have hwr1 : IntKind.i64.wrap ((r2 : Int) + 1) = (r1 : Int) := by rw [IntKind.wrap_i64]; omega
  have k1 : (d1 : Int) < (n2 : Int) := hdn3
  have k2 : r1 ≤ m1 := by omega
  have k3 : r2 ≤ m1 := by omega
  have k4 : ¬ (64 = r2) := by omega
  have k5 : (r2 : Int) < (m1 : Int) := by omega
  have k6 : m1 ≤ 64 := by omega
  have k7 : n2 ≤ c' := hcap2
  have P1 := Lib.hid (show Below W.heap.size W (W.alloc (.cells #[.int .i64 p, .int .i64 q] 24)) from (Below.refl _ _).alloc (Nat.le_refl _) _)
  obtain ⟨z2, z3, _, _⟩ := (HS.out.below P1.out HS.out.lt).two
  have gq2 := (H.out.row.keep (P1.out.block g' H.out.row.lt)).mid
  rw [hd2] at gq2
  unfold blkV at gq2
  rw [hm2] at gq2
  unfold pw1 at *
  have HM1 := Lib.hid hm1
  have HR1 := Lib.hid hr1
  clear ha hcq hX hbs hfr hm1 hr1
  obtain ⟨hne1, -⟩ := memB_ne H.out.nd
  have hne2 := Ne.symm hne1
  go_cut [9] from 9 to 31 (fun l wx => l = .slice (some ⟨(g2, b.2.drop 32).1, 0, none⟩) m1 64 ∧ wx = ((W.alloc (.cells #[.int .i64 p, .int .i64 q] 24)).drew).setRow (g2, b.2.drop 32).1 L1.toArray)
  case first =>
    go_wp2_with fail
    go_region_law (refine step_of_wp rfl (wp_app_run _ (.tmp 28) (.tmp 30) 28 28 rfl _ _ (by simp [Act.eval, Act.put]) (by simp [Act.eval, Act.put]) HA.out ?_))
    all_goals
      go_wp2_with fail
      go_meet
      exact ⟨rfl, rfl⟩
  case rest =>
  obtain ⟨rfl, rfl⟩ := hcut
  have hq := HC.out 3 (64 - r1) (64 - r2)
  go_upto_region 6 with fail
  go_region
  clear hq HC HA z0 z1 z2 z3 gq0 gq2 hif k2 k3 k4 k6 hwr1
  generalize ((((W.alloc (.cells #[.int .i64 p, .int .i64 q] 24)).drew).setRow (g2, b.2.drop 32).1 L1.toArray).drew).setRow (g2, b.2.drop 32).1 L2.toArray = W3 at *
  go_wp2
  go_ret
  obtain ⟨hBk, hWr⟩ := HX.out _ rfl
  have hl32 : (b.2.drop 32).length = 32 := hm2
  have hl31 : (b.2.take 32).length = 32 := by rw [List.length_take, hm]; rfl
  have ea : ∀ z : Blk, (A ++ [(b.1, b.2.take 32)]) ++ z :: C = A ++ (b.1, b.2.take 32) :: z :: C := fun z => by simp
  rw [ea, ea] at *
  have hws2 : ∀ x ∈ memB g' (A ++ (b.1, b.2.take 32) :: (g2, insS (b.2.drop 32) r2 (p, q)) :: C), x ∈ memB g' (A ++ (b.1, b.2.take 32) :: (g2, b.2.drop 32) :: C) := fun x hx => by
    have := memB_swap (gB := g') (A := A ++ [(b.1, b.2.take 32)]) (C := C) (b := (g2, b.2.drop 32)) (b' := (g2, insS (b.2.drop 32) r2 (p, q))) rfl
    rw [ea, ea] at this
    rwa [this] at hx
  refine ⟨A ++ (b.1, b.2.take 32) :: (g2, insS (b.2.drop 32) r2 (p, q)) :: C, ⟨g', c', by rw [HN2.out]; simp, hBk, ((WrS.of _ HB0.out).trans HWR.out fun x hx => Or.inl hx).trans hWr fun x hx => ?_, fun x hx => ?_⟩, ?_, fun hO hs => ?_⟩
  · rcases HNEW.out x hx with g | g
    · exact Or.inl g
    · right; omega
  · rcases HNEW.out x (hws2 x hx) with g | g
    · exact Or.inl g
    · right; omega
  · have e := flat_put (A := A ++ [(b.1, b.2.take 32)]) (C := C) (b := (g2, b.2.drop 32)) (r := r2) (s := (p, q)) (by show r2 ≤ (b.2.drop 32).length; omega)
    have e2 : flat (A ++ (b.1, b.2.take 32) :: (g2, b.2.drop 32) :: C) = flat (A ++ b :: C) := by simp only [flat_app, flat_cons]; rw [← List.append_assoc (b.2.take 32), List.take_append_drop]
    have e3 : (flat (A ++ [(b.1, b.2.take 32)])).length + r2 = (flat A).length + r := by
      have := HR2.out
      rw [flat_app, List.length_append]; simp only [flat, List.flatMap_cons, List.flatMap_nil, List.append_nil, hl31]; omega
    rw [ea, ea, e2, e3] at e
    exact e
  · have hO2 : OkL (A ++ (b.1, b.2.take 32) :: (g2, b.2.drop 32) :: C) := hO.split (b1 := (b.1, b.2.take 32)) (b2 := (g2, b.2.drop 32)) (by show 0 < (b.2.take 32).length; omega) (by show 0 < (b.2.drop 32).length; omega) (List.take_append_drop 32 b.2)
    rw [← ea] at hO2
    have := hO2.put (b' := (g2, insS (b.2.drop 32) r2 (p, q))) (by show 0 < (insS (b.2.drop 32) r2 (p, q)).length; rw [insS_len _ _ _ (by omega)]; omega) (by show (insS (b.2.drop 32) r2 (p, q)).length ≤ 64; rw [insS_len _ _ _ (by omega)]; omega) (insS_ok (hO2.nums (g2, b.2.drop 32) (by simp)) hs)
    rwa [ea] at this
theorem bag_put (A C : List Blk) (b : Blk) (gB c d r : Nat) (p q : Int) (w : World) (h : BksAt w gB c (A ++ b :: C)) (hd : A.length = d) (hm : b.2.length ≤ 64) (hr : r ≤ b.2.length) (hn4 : (A ++ b :: C).length ≤ 90000) :
    Calls Try.prog 89 #[.slice (some ⟨gB, 0, none⟩) (A ++ b :: C).length c, .int .i64 d, .int .i64 r, .agg #[.int .i64 p, .int .i64 q]] w (PutR w gB A C b r (p, q)) := by
  rcases Nat.lt_or_ge b.2.length 64 with g | g
  · exact bag_put_room A C b gB c d b.2.length r p q w h hd rfl g hr hn4
  · have e : b.2.length = 64 := by omega
    rcases Nat.lt_or_ge 32 r with k | k
    · exact bag_put_high A C b gB c d r p q w h hd e ⟨k, by omega⟩ hn4
    · exact bag_put_low A C b gB c d r p q w h hd e k hn4
end Go.Proofs.Ytaeodkpkgbjaeaa

/-! Layer 18 (bag): join. -/
namespace Go.Proofs.Ytaeodkpkgbjaeaa
open Go.RowKit
set_option linter.unusedVariables false
set_option linter.unusedSimpArgs false

/-- what join gives -/
def JnR (w : World) (gB : Nat) (bs : List Blk) (k : Int) (e : Ending) (w' : World) : Prop := ∃ bs', BkR w gB bs bs' e w' ∧ JoinR bs k bs'
theorem BkR.self {w w' : World} {gB c : Nat} {bs : List Blk} (h : BksAt w gB c bs) (hb : Below w.heap.size w w') : BkR w gB bs bs (.returned (.slice (some ⟨gB, 0, none⟩) bs.length c)) w' :=
  ⟨gB, c, rfl, h.below hb, WrS.of _ hb, fun x hx => Or.inl hx⟩
set_option maxRecDepth 100000 in
set_option maxHeartbeats 4000000 in
theorem bag_join_out (bs : List Blk) (gB c : Nat) (k : Int) (w : World) (h : BksAt w gB c bs) (hk : k < 0 ∨ (bs.length : Int) ≤ k + 1) (hki : -10 ≤ k ∧ k ≤ 1000000) :
    Calls Try.prog 153 #[.slice (some ⟨gB, 0, none⟩) bs.length c, .int .i64 k] w (JnR w gB bs k) := by
  have HR : Hid (∀ w', Below w.heap.size w w' → JnR w gB bs k (.returned (.slice (some ⟨gB, 0, none⟩) bs.length c)) w') := fun w' hb => by
    refine ⟨bs, BkR.self h hb, Or.inl ⟨rfl, ?_⟩⟩
    rintro A b x C rfl rfl
    simp at hk; omega
  have hw1 : IntKind.i64.wrap (k + 1) = k + 1 := by rw [IntKind.wrap_i64]; omega
  clear h
  have key : k < 0 ∨ (¬ k < 0 ∧ (bs.length : Int) ≤ k + 1) := by omega
  clear hk
  generalize hn : bs.length = n at *
  clear hn
  rcases key with h1 | ⟨h1, h2⟩
  · have d1 : decide (k < 0) = true := decide_eq_true h1
    go_enter Try.func153, Try.ntmps153
    go_wp2
    go_quiet (fail)
    go_wp2
    go_ret
    exact HR.out _ (by first | exact (Below.refl _ _).drew | exact below_drewN (Below.refl _ _) _)
  · have d1 : decide (k < 0) = false := decide_eq_false h1
    have d2 : decide ((n : Int) ≤ k + 1) = true := decide_eq_true h2
    go_enter Try.func153, Try.ntmps153
    go_wp2
    go_quiet (fail)
    go_wp2
    go_ret
    exact HR.out _ (by first | exact (Below.refl _ _).drew | exact below_drewN (Below.refl _ _) _)
set_option maxRecDepth 100000 in
set_option maxHeartbeats 4000000 in
theorem bag_join_full (A C : List Blk) (b x : Blk) (gB c d : Nat) (w : World) (h : BksAt w gB c (A ++ b :: x :: C)) (hd : A.length = d) (hf : 64 < b.2.length + x.2.length) (hm : b.2.length ≤ 64 ∧ x.2.length ≤ 64) (hn4 : (A ++ b :: x :: C).length ≤ 90000) :
    Calls Try.prog 153 #[.slice (some ⟨gB, 0, none⟩) (A ++ b :: x :: C).length c, .int .i64 d] w (JnR w gB (A ++ b :: x :: C) d) := by
  have HR : Hid (∀ w', Below w.heap.size w w' → JnR w gB (A ++ b :: x :: C) d (.returned (.slice (some ⟨gB, 0, none⟩) (A ++ b :: x :: C).length c)) w') := fun w' hb => by
    refine ⟨_, BkR.self h hb, Or.inl ⟨rfl, ?_⟩⟩
    intro A2 b2 x2 C2 e k2
    have hA : A.length = A2.length := by omega
    obtain ⟨e1, e2⟩ := List.append_inj e hA
    injection e2 with e2 e3
    injection e3 with e3 e4
    subst e2; subst e3
    exact hf
  have c1 := h.row.mid
  have c2 : w.cell? ⟨gB, d + 1, none⟩ = some (blkV x) := by
    have e : A ++ b :: x :: C = (A ++ [b]) ++ x :: C := by simp
    have h2 : RowAt w gB c ((A ++ [b]) ++ x :: C) := by rw [← e]; exact h.row
    have := h2.mid
    simpa [hd] using this
  rw [hd] at c1
  unfold blkV at c1 c2
  have hcap := h.cap
  have hdn : (d : Int) < ((A ++ b :: x :: C).length : Int) := by simp; omega
  have hdn1 : ((d + 1 : Nat) : Int) < ((A ++ b :: x :: C).length : Int) := by simp; omega
  generalize (A ++ b :: x :: C).length = n at *
  generalize b.2.length = m1 at *
  generalize x.2.length = m2 at *
  generalize b.1 = gb at *
  generalize x.1 = gx at *
  have hw1 : IntKind.i64.wrap ((d : Int) + 1) = ((d + 1 : Nat) : Int) := by rw [IntKind.wrap_i64]; omega
  have hw2 : IntKind.i64.wrap ((m1 : Int) + (m2 : Int)) = ((m1 + m2 : Nat) : Int) := by rw [IntKind.wrap_i64]; omega
  generalize d + 1 = d1 at *
  generalize m1 + m2 = mm at *
  have q0 : decide ((d : Int) < 0) = false := decide_eq_false (by omega)
  have q1 : decide (n ≤ d1) = false := decide_eq_false (by omega)
  have q2 : decide (64 < mm) = true := decide_eq_true (by omega)
  have q3 : decide ((64 : Int) < (mm : Int)) = true := decide_eq_true (by omega)
  clear h hd
  go_enter Try.func153, Try.ntmps153
  go_wp2
  go_quiet (fail)
  go_wp2
  go_ret
  exact HR.out _ (by first | exact (Below.refl _ _).drew | exact below_drewN (Below.refl _ _) _)
end Go.Proofs.Ytaeodkpkgbjaeaa
