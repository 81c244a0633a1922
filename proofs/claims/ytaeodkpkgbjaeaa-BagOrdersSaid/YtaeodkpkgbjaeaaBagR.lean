/- Layer 18 (bag): slices.Insert of one block. -/
import Derived.Test.YtaeodkpkgbjaeaaBagQ
import Derived.Lib.AppendZerosOnto
import Derived.Laws.Externs
namespace Go.Proofs.Ytaeodkpkgbjaeaa
open Go.RowKit
set_option linter.unusedVariables false
set_option linter.unusedSimpArgs false

section
variable {P : Program}
theorem run_app_k2 (w : World) (t tx ty e ex : TypeId) (i : TypeInfo) (k : Nat) (hu : P.underlying t = some (.slice e)) (hux : P.underlying tx = some (.slice ex)) (hi : P.info? e = some i) (hk : i.size = k) (g o n c : Nat) (sd : Addr) (m sCap : Nat) (L : List Value) (T : TypeId) (news : List Value)
    (hg : w.heap[g]? = some (.cells L.toArray T (0, 0))) (hn : news.length = m * k) (hsrc : ∀ j v, news[j]? = some v → w.cell? (sd.add j) = some v) (hroom : n + m ≤ c) (hfit : o + n * k + news.length ≤ L.length) (h1 : ∀ v ∈ news, v.oneCell' = true) :
    (Builtin.append_ #[t, tx] ty #[.slice (some ⟨g, o, none⟩) n c, .slice (some sd) m sCap]).run P w = .ok (.slice (some ⟨g, o, none⟩) (n + m) c) (w.setRow g (layL L (o + n * k) news).toArray) := by
  subst hk
  have hl := run_firstCells_some (P := P) w i.size m sd m sCap news hn hsrc
  have hst := run_storeCells_at P g (o + n * i.size) T news 0 L.toArray w hg (by simpa using hfit) h1
  simp only [Nat.add_zero] at hst
  unfold layL
  simp [Builtin.append_, run_underlying hu, run_underlying hux, sizeOf, typeInfo, hi, Builtin.lenOf, hroom, hl, Addr.add_lit, hst]
theorem run_grow_k2 (w : World) (t tx ty e ex : TypeId) (i : TypeInfo) (z : Value) (hu : P.underlying t = some (.slice e)) (hux : P.underlying tx = some (.slice ex)) (hi : P.info? e = some i) (hz : i.zero = some z)
    (b : Addr) (sLen sCap : Nat) (olds : List Value) (hlo : olds.length = sLen * i.size) (holds : ∀ j v, olds[j]? = some v → w.cell? (b.add j) = some v)
    (a : Addr) (n c : Nat) (news : List Value) (hl : news.length = n * i.size) (hnews : ∀ j v, news[j]? = some v → w.cell? (a.add j) = some v)
    (hg : sCap < sLen + n) (h63 : ((sLen + n : Nat) : Int) ≤ 9223372036854775807) (hfit : Builtin.nextslicecap (sLen + n) sCap * i.bytes ≤ 281474976710656) :
    (Builtin.append_ #[t, tx] ty #[.slice (some b) sLen sCap, .slice (some a) n c]).run P w =
      .ok (.slice (some ⟨w.heap.size, 0, none⟩) (sLen + n) (grownCap w (sLen + n) sCap e))
        (w.drew.alloc (.cells (olds ++ news ++ (Builtin.zeroCells z.cells (grownCap w (sLen + n) sCap e - (sLen + n))).toList).toArray e)) := by
  have hn : ¬ (sLen + n ≤ sCap) := by omega
  have h63' : ¬ (9223372036854775807 < ((sLen : Int) + (n : Int))) := by omega
  have h48' : ¬ (281474976710656 < Builtin.nextslicecap (sLen + n) sCap * i.bytes) := by omega
  have hf := run_firstCells_some (P := P) w.drew i.size n a n c news hl (by simpa using hnews)
  have hfo := run_firstCells_some (P := P) w.drew i.size sLen b sLen sCap olds hlo (by simpa using holds)
  simp [Builtin.append_, run_underlying hu, run_underlying hux, sizeOf, typeInfo, zeroValue, hi, hz, Builtin.lenOf, hn, h63', h48', Question.forced, hf, hfo, newRow, grownCap]
  congr 2
  apply Array.ext'
  simp [List.append_assoc]
end
/-- what Insert gives -/
def InsR (w : World) (gB : Nat) (bs : List Blk) (e : Ending) (w' : World) : Prop :=
  ∃ (g' c' : Nat), e = .returned (.slice (some ⟨g', 0, none⟩) bs.length c') ∧ RowAt w' g' c' bs ∧ WrS [gB] w w' ∧ (g' = gB ∨ w.heap.size ≤ g')
theorem row_all {w : World} {gB : Nat} {T : TypeId} {bs : List Blk} {sp : List Value} (h : Box w gB (bs.map blkV ++ sp).toArray T) (j : Nat) (v : Value) (hv : (bs.map blkV)[j]? = some v) : w.cell? ((⟨gB, 0, none⟩ : Addr).add j) = some v :=
  row_from h 0 j v (by simpa using hv)
theorem one_cell {w : World} {vb : Nat} {x : Value} {T : TypeId} (h : Box w vb #[x] T) (j : Nat) (v : Value) (hv : [x][j]? = some v) : w.cell? ((⟨vb, 0, none⟩ : Addr).add j) = some v := by
  rw [Addr.add_lit, Nat.zero_add, h.cell]
  simpa using hv
theorem zeros_len (z : Value) (hz : z.cells.size = 1) (n : Nat) : (Builtin.zeroCells z.cells n).toList.length = n := by simp [Builtin.zeroCells, hz]
theorem row_ins_end (bs : List Blk) (x : Blk) (sp : List Value) (n : Nat) (hn : bs.length = n) : layL (bs.map blkV ++ sp) (0 + n * 1) [blkV x] = (bs ++ [x]).map blkV ++ sp.drop 1 := by
  unfold layL
  have e1 : (bs.map blkV ++ sp).take (0 + n * 1) = bs.map blkV := by rw [show 0 + n * 1 = (bs.map blkV).length by simp [hn]]; simp
  have e2 : (bs.map blkV ++ sp).drop (0 + n * 1 + [blkV x].length) = sp.drop 1 := by
    rw [show 0 + n * 1 + [blkV x].length = (bs.map blkV).length + 1 by simp [hn], List.drop_append]; simp
  rw [e1, e2]; simp
theorem one_one (x : Blk) : ∀ v ∈ [blkV x], v.oneCell' = true := by intro u hu; rw [List.mem_singleton] at hu; subst hu; rfl
set_option maxRecDepth 100000 in
set_option maxHeartbeats 4000000 in
theorem ins_end (bs : List Blk) (x : Blk) (gB c n vb : Nat) (T TV : TypeId) (sp : List Value) (w : World) (hbx : Box w gB (bs.map blkV ++ sp).toArray T) (hn : bs.length = n) (hc : n + sp.length = c) (hm : c ≤ maxLen) (hn4 : n ≤ 100000) (hv : Box w vb #[blkV x] TV) :
    Calls Try.prog 190 #[.slice (some ⟨gB, 0, none⟩) n c, .int .i64 n, .slice (some ⟨vb, 0, none⟩) 1 1] w (InsR w gB (bs ++ [x])) := by
  obtain ⟨i0, hi0, hz0, hz1, hz2⟩ := info_parts3 info_bl
  have hL : (bs.map blkV ++ sp).length = c := by rw [List.length_append, List.length_map, hn]; exact hc
  have hnc : n ≤ c := by omega
  have HR : Hid (∃ g' c' w', (∀ ty, (Builtin.append_ #[124, 123] ty #[.slice (some ⟨gB, 0, none⟩) n c, .slice (some ⟨vb, 0, none⟩) 1 1]).run Try.prog w = .ok (.slice (some ⟨g', 0, none⟩) (n + 1) c') w') ∧ InsR w gB (bs ++ [x]) (.returned (.slice (some ⟨g', 0, none⟩) (n + 1) c')) w') := by
    by_cases hroom : n + 1 ≤ c
    · refine ⟨gB, c, _, fun ty => run_app_k2 (P := Try.prog) w 124 123 ty 28 28 i0 1 Try.underlying124 Try.underlying123 hi0 hz1 gB 0 n c ⟨vb, 0, none⟩ 1 1 (bs.map blkV ++ sp) T [blkV x] hbx rfl (one_cell hv) hroom (by rw [hL]; simp; omega) (one_one x), gB, c, by rw [List.length_append, hn]; rfl, ⟨sp.drop 1, T, ?_, hm, ?_⟩, WrS.row [gB] _ gB _ (by simp), Or.inl rfl⟩
      · simp; omega
      · have := setRow_heap _ gB _ (layL (bs.map blkV ++ sp) (0 + n * 1) [blkV x]).toArray _ _ hbx
        rw [row_ins_end bs x sp n hn] at this ⊢
        exact this
    · have hcn : sp = [] := List.eq_nil_of_length_eq_zero (by omega)
      subst hcn
      have hgc := grownCap_ge w (n + 1) c 28
      have hgm := grownCap_le_maxLen w (n + 1) c 28 (by unfold maxLen; omega)
      refine ⟨_, _, _, fun ty => run_grow_k2 (P := Try.prog) w 124 123 ty 28 28 i0 _ Try.underlying124 Try.underlying123 hi0 hz0 ⟨gB, 0, none⟩ n c (bs.map blkV) (by rw [List.length_map, hn, hz1, Nat.mul_one]) (row_all (sp := []) hbx) ⟨vb, 0, none⟩ 1 1 [blkV x] (by rw [hz1]; rfl) (one_cell hv) (by omega) (by omega) (growslice_fits (by omega) (by rw [hz2]; omega)), w.heap.size, grownCap w (n + 1) c 28, by rw [List.length_append, hn]; rfl, ⟨(Builtin.zeroCells (Value.slice none 0 0).cells (grownCap w (n + 1) c 28 - (n + 1))).toList, 28, ?_, hgm, ?_⟩, WrS.of _ ((Below.refl _ _).drew.alloc (Nat.le_refl _) _), Or.inr (Nat.le_refl _)⟩
      · rw [List.length_append, hn, zeros_len _ rfl]
        show n + 1 + _ = _
        omega
      · have := Box.new w.drew ((bs.map blkV ++ [blkV x] ++ (Builtin.zeroCells (Value.slice none 0 0).cells (grownCap w (n + 1) c 28 - (n + 1))).toList).toArray) 28
        rw [List.map_append]
        exact this
  clear hbx hL
  obtain ⟨g', c', w', hr, hI⟩ := HR.out
  have HQ := Lib.hid hr
  have HI := Lib.hid hI
  clear hr hI HR hv
  go_enter Try.func190, Try.ntmps190
  go_wp2_with (at_builtin; refine Lib.wpList_append_run _ rfl (.tmp 23) (.tmp 24) 124 123 rfl _ _ rfl rfl _ _ (HQ.out _) ?_)
  all_goals (go_ret; exact HI.out)
end Go.Proofs.Ytaeodkpkgbjaeaa
