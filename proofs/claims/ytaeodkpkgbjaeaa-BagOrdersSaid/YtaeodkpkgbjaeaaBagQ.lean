/- Layer 18 (bag): slices.Delete of one block. -/
import Derived.Test.YtaeodkpkgbjaeaaBagJ
import Derived.Deep.RegionLaw
namespace Go.Proofs.Ytaeodkpkgbjaeaa
open Go.RowKit
set_option linter.unusedVariables false
set_option linter.unusedSimpArgs false

theorem info_bl : (Try.prog.info? 28).map (fun i => (i.zero, i.size, i.bytes)) = some (some (.slice none 0 0), 1, 24) := by kernel_rfl
theorem blkV_one {l : List Blk} : ∀ u ∈ l.map blkV, u.oneCell' = true := by
  intro u hu
  obtain ⟨x, _, rfl⟩ := List.mem_map.1 hu
  rfl
/-- a part of the row's cells, by the address where it begins -/
theorem row_from {w : World} {gB : Nat} {T : TypeId} {bs : List Blk} {sp : List Value} (h : Box w gB (bs.map blkV ++ sp).toArray T) (k : Nat) (j : Nat) (v : Value) (hv : ((bs.drop k).map blkV)[j]? = some v) : w.cell? ((⟨gB, k, none⟩ : Addr).add j) = some v := by
  have hlt : j < ((bs.drop k).map blkV).length := by
    rcases Nat.lt_or_ge j ((bs.drop k).map blkV).length with g | g
    · exact g
    · rw [List.getElem?_eq_none g] at hv; cases hv
  rw [List.length_map, List.length_drop] at hlt
  rw [Addr.add_lit, h.cell]
  simp only [List.getElem?_toArray]
  rw [List.getElem?_append_left (by rw [List.length_map]; omega), ← hv, List.map_drop, List.getElem?_drop]
theorem del_rows (l : List Blk) (sp zs : List Value) (i j n n1 : Nat) (hn : l.length = n) (hj : j = i + 1) (hn1 : n1 + 1 = n) (hi : i < n) (hz : zs.length = 1) :
    layL (layL (l.map blkV ++ sp) i ((l.drop j).map blkV)) n1 zs = (l.eraseIdx i).map blkV ++ (zs ++ sp) := by
  subst hj
  have e0 : l.eraseIdx i = l.take i ++ l.drop (i + 1) := List.eraseIdx_eq_take_drop_succ ..
  have hl1 : ((l.take i).map blkV).length = i := by rw [List.length_map, List.length_take]; omega
  have e1 : l.map blkV ++ sp = (l.take i).map blkV ++ ((l.drop i).take (n - (i + 1))).map blkV ++ (((l.drop i).drop (n - (i + 1))).map blkV ++ sp) := by
    rw [← List.append_assoc, List.append_assoc ((l.take i).map blkV), ← List.map_append, List.take_append_drop, ← List.map_append, List.take_append_drop]
  rw [layL_mid' _ _ _ _ _ _ e1 hl1.symm (by rw [List.length_map, List.length_map, List.length_take, List.length_drop, List.length_drop]; omega)]
  have hl2 : ((l.take i).map blkV ++ (l.drop (i + 1)).map blkV).length = n1 := by
    rw [List.length_append, hl1, List.length_map, List.length_drop]; omega
  rw [← List.append_assoc, layL_mid' _ ((l.take i).map blkV ++ (l.drop (i + 1)).map blkV) (((l.drop i).drop (n - (i + 1))).map blkV) sp zs _ rfl hl2.symm (by rw [hz, List.length_map, List.length_drop, List.length_drop]; omega), e0, List.map_append]
  simp
set_option maxRecDepth 100000 in
set_option maxHeartbeats 4000000 in
theorem bag_delB (bs : List Blk) (gB c i j n : Nat) (w : World) (hr : RowAt w gB c bs) (hn : bs.length = n) (hi : i < n) (hj : j = i + 1) :
    Calls Try.prog 195 #[.slice (some ⟨gB, 0, none⟩) n c, .int .i64 i, .int .i64 j] w fun e w' => e = .returned (.slice (some ⟨gB, 0, none⟩) (n - 1) c) ∧ RowAt w' gB c (bs.eraseIdx i) ∧ WrS [gB] w w' := by
  obtain ⟨i0, hi0, hz0, hz1, hz2⟩ := info_parts3 info_bl
  obtain ⟨sp, T, hsp, hc9, hbx⟩ := hr
  rw [hn] at hsp
  obtain ⟨D, hD⟩ : ∃ D, D = (bs.drop j).map blkV := ⟨_, rfl⟩
  obtain ⟨n1, hn1⟩ : ∃ n1, n1 + 1 = n := ⟨n - 1, by omega⟩
  obtain ⟨A, hA, hsrc⟩ : ∃ A : Addr, (if c = j then (some ⟨gB, 0, none⟩ : Option Addr) else some ⟨gB, j, none⟩) = some A ∧ Hid (∀ t u, D[t]? = some u → w.drew.cell? (A.add t) = some u) := by
    by_cases h : c = j
    · refine ⟨_, if_pos h, fun t u hu => ?_⟩
      rw [hD, List.drop_eq_nil_of_le (by omega)] at hu
      simp at hu
    · exact ⟨_, if_neg h, fun t u hu => row_from hbx j t u (by rw [← hD]; exact hu)⟩
  have hL : (bs.map blkV ++ sp).length = c := by rw [List.length_append, List.length_map, hn]; omega
  have hlen : D.length = (n - j) * 1 := by rw [hD, List.length_map, List.length_drop, hn, Nat.mul_one]
  have hrun := run_app_k (P := Try.prog) w.drew 124 124 28 i0 1 Try.underlying124 hi0 hz1 gB 0 i c A (n - j) (c - j) (bs.map blkV ++ sp) T D hbx hlen hsrc.out (by omega) (by rw [hL, hlen]; omega) (by rw [hD]; exact blkV_one)
  rw [show i + (n - j) = n1 by omega, Nat.zero_add, Nat.mul_one] at hrun
  have HR := Lib.hid hrun
  have hL1 := layL_len (bs.map blkV ++ sp) i D (by rw [hL, hlen]; omega)
  have hbx1 : Box (w.drew.setRow gB (layL (bs.map blkV ++ sp) i D).toArray) gB (layL (bs.map blkV ++ sp) i D).toArray T := setRow_heap _ _ _ _ _ _ hbx
  obtain ⟨zs, hzs, hcl⟩ := run_clear_k (P := Try.prog) (w.drew.setRow gB (layL (bs.map blkV ++ sp) i D).toArray) 124 0 28 (.slice none 0 0) 1 Try.underlying124 (fun w => by simp [zeroValue, typeInfo, hi0, hz0]) rfl (by intro v hv; simp [Value.cells] at hv; rw [hv]; rfl) gB n1 (n - n1) (c - n1) _ T hbx1 (by rw [hL1, hL]; omega) (by omega)
  have HC := Lib.hid hcl
  have hfin := setRow_heap _ gB _ (layL (layL (bs.map blkV ++ sp) i D) n1 zs).toArray _ _ hbx1
  have hdr := del_rows bs sp zs i j n n1 hn hj hn1 hi (by rw [hzs]; omega)
  rw [← hD] at hdr
  rw [hdr] at hfin HC
  clear hD hdr
  have HF := Lib.hid hfin
  clear hcl hfin hbx1
  clear hrun hsrc
  have hnc : n ≤ c := by omega
  have hne : ¬ (c = n1) := by omega
  have hij : ¬ ((i : Int) = (j : Int)) := by omega
  have h1 : i ≤ n := by omega
  have h2 : j ≤ n := by omega
  have h3 : n1 ≤ n := by omega
  have h4 : i ≤ j := by omega
  have h5 : i ≤ c := by omega
  have h6 : j ≤ c := by omega
  have HJ := Lib.hid hj
  have HN1 := Lib.hid hn1
  have HN := Lib.hid hn
  have HSP := Lib.hid hsp
  clear hj hn1 hn hsp
  go_enter Try.func195, Try.ntmps195
  go_wp2_with fail
  go_region_law (refine step_of_wp rfl (wp_app_run _ (.tmp 22) (.tmp 25) 124 124 rfl _ _ (by simp [Act.eval, Act.put]) (by simp [Act.eval, Act.put]) HR.out ?_))
  go_wp2_with fail
  rw [HC.out]
  go_wp2
  go_ret
  refine ⟨by rw [show n - 1 = n1 by have := HN1.out; omega]; rfl, ⟨zs ++ sp, T, ?_, hc9, HF.out⟩, ?_⟩
  · rw [List.length_append, hzs, List.length_eraseIdx_of_lt (by rw [HN.out]; exact hi), HN.out]
    have := HN1.out
    have := HSP.out
    omega
  · exact ((WrS.of [gB] (Below.refl _ _).drew).trans (WrS.row [gB] _ gB _ (by simp)) fun x hx => Or.inl hx).trans (WrS.row [gB] _ gB _ (by simp)) fun x hx => Or.inl hx
end Go.Proofs.Ytaeodkpkgbjaeaa
