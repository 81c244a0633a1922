/- Layer 18 (bag): slices.Delete of one score. -/
import Derived.Test.YtaeodkpkgbjaeaaBagJ
import Derived.Deep.RegionLaw
namespace Go.Proofs.Ytaeodkpkgbjaeaa
open Go.RowKit
set_option linter.unusedVariables false
set_option linter.unusedSimpArgs false

theorem celS_take (l : List PQ) (k : Nat) : (celS l).take (k * 2) = celS (l.take k) := by
  induction l generalizing k with
  | nil => simp [celS]
  | cons x l ih =>
    cases k with
    | zero => simp [celS]
    | succ k =>
      have e : celS (x :: l) = .int .i64 x.1 :: .int .i64 x.2 :: celS l := rfl
      rw [e, show (k + 1) * 2 = k * 2 + 1 + 1 by omega, List.take_succ_cons, List.take_succ_cons, ih, List.take_succ_cons]
      rfl
theorem celS_drop (l : List PQ) (k : Nat) : (celS l).drop (k * 2) = celS (l.drop k) := by
  induction l generalizing k with
  | nil => simp [celS]
  | cons x l ih =>
    cases k with
    | zero => simp [celS]
    | succ k =>
      have e : celS (x :: l) = .int .i64 x.1 :: .int .i64 x.2 :: celS l := rfl
      rw [e, show (k + 1) * 2 = k * 2 + 1 + 1 by omega, List.drop_succ_cons, List.drop_succ_cons, ih, List.drop_succ_cons]
/-- a part of a block's cells, by the address where it begins -/
theorem blk_from {w : World} {b : Blk} (h : BlkAt w b) (k : Nat) (j : Nat) (v : Value) (hv : (celS (b.2.drop k))[j]? = some v) : w.cell? ((⟨b.1, 0 + k * 2, none⟩ : Addr).add j) = some v := by
  have hlt : j < (celS (b.2.drop k)).length := by
    rcases Nat.lt_or_ge j (celS (b.2.drop k)).length with g | g
    · exact g
    · rw [List.getElem?_eq_none g] at hv; cases hv
  rw [celS_len, List.length_drop] at hlt
  rw [Addr.add_lit, Nat.zero_add, blk_cell h _ (by omega), ← hv, ← celS_drop, List.getElem?_drop]
theorem del_cells (l : List PQ) (sp zs : List Value) (i j n n1 : Nat) (hn : l.length = n) (hj : j = i + 1) (hn1 : n1 + 1 = n) (hi : i < n) (hz : zs.length = 2) :
    layL (layL (celS l ++ sp) (i * 2) (celS (l.drop j))) (n1 * 2) zs = celS (l.eraseIdx i) ++ (zs ++ sp) := by
  subst hj
  have e0 : l.eraseIdx i = l.take i ++ l.drop (i + 1) := List.eraseIdx_eq_take_drop_succ ..
  have hl1 : (celS (l.take i)).length = i * 2 := by rw [celS_len, List.length_take]; omega
  have e1 : celS l ++ sp = celS (l.take i) ++ celS ((l.drop i).take (n - (i + 1))) ++ (celS ((l.drop i).drop (n - (i + 1))) ++ sp) := by
    rw [← List.append_assoc, List.append_assoc (celS (l.take i)), ← celS_app, List.take_append_drop, ← celS_app, List.take_append_drop]
  rw [layL_mid' _ _ _ _ _ _ e1 hl1.symm (by rw [celS_len, celS_len, List.length_take, List.length_drop, List.length_drop]; omega)]
  have hl2 : (celS (l.take i) ++ celS (l.drop (i + 1))).length = n1 * 2 := by
    rw [List.length_append, hl1, celS_len, List.length_drop]; omega
  rw [← List.append_assoc, layL_mid' _ (celS (l.take i) ++ celS (l.drop (i + 1))) (celS ((l.drop i).drop (n - (i + 1)))) sp zs _ rfl hl2.symm (by rw [hz, celS_len, List.length_drop, List.length_drop]; omega), e0, celS_app]
  simp
set_option maxRecDepth 100000 in
set_option maxHeartbeats 4000000 in
theorem bag_delS (b : Blk) (i j n : Nat) (w : World) (hb : BlkAt w b) (hn : b.2.length = n) (hi : i < n) (hj : j = i + 1) (h64 : n ≤ 64) :
    Calls Try.prog 152 #[.slice (some ⟨b.1, 0, none⟩) n 64, .int .i64 i, .int .i64 j] w fun e w' => e = .returned (.slice (some ⟨b.1, 0, none⟩) (n - 1) 64) ∧ BlkAt w' (b.1, b.2.eraseIdx i) ∧ WrS [b.1] w w' := by
  obtain ⟨i0, hi0, hz0, hz1, hz2⟩ := info_parts3 info_sc
  obtain ⟨sp, hsp, hbx⟩ := hb
  have hb : BlkAt w b := ⟨sp, hsp, hbx⟩
  rw [List.length_append, celS_len, hn] at hsp
  obtain ⟨n1, hn1⟩ : ∃ n1, n1 + 1 = n := ⟨n - 1, by omega⟩
  obtain ⟨A, hA, hsrc⟩ : ∃ A : Addr, (if 64 = j then (some ⟨b.1, 0, none⟩ : Option Addr) else some ⟨b.1, j * 2, none⟩) = some A ∧ Hid (∀ t u, (celS (b.2.drop j))[t]? = some u → w.drew.cell? (A.add t) = some u) := by
    by_cases h : 64 = j
    · refine ⟨_, if_pos h, fun t u hu => ?_⟩
      rw [List.drop_eq_nil_of_le (by omega)] at hu
      simp [celS] at hu
    · exact ⟨_, if_neg h, fun t u hu => by have := blk_from hb j t u hu; rwa [Nat.zero_add] at this⟩
  have hL : (celS b.2 ++ sp).length = 128 := by rw [List.length_append, celS_len, hn]; omega
  have hlen : (celS (b.2.drop j)).length = (n - j) * 2 := by rw [celS_len, List.length_drop, hn]
  have hrun := run_app_k (P := Try.prog) w.drew 28 28 24 i0 2 Try.underlying28 hi0 hz1 b.1 0 i 64 A (n - j) (64 - j) (celS b.2 ++ sp) 24 (celS (b.2.drop j)) hbx hlen hsrc.out (by omega) (by rw [hL, hlen]; omega) celS_one
  rw [show i + (n - j) = n1 by omega, Nat.zero_add] at hrun
  have HR := Lib.hid hrun
  have hL1 := layL_len (celS b.2 ++ sp) (i * 2) (celS (b.2.drop j)) (by rw [hL, hlen]; omega)
  have hbx1 : Box (w.drew.setRow b.1 (layL (celS b.2 ++ sp) (i * 2) (celS (b.2.drop j))).toArray) b.1 (layL (celS b.2 ++ sp) (i * 2) (celS (b.2.drop j))).toArray 24 := setRow_heap _ _ _ _ _ _ hbx
  obtain ⟨zs, hzs, hcl⟩ := run_clear_k (P := Try.prog) (w.drew.setRow b.1 (layL (celS b.2 ++ sp) (i * 2) (celS (b.2.drop j))).toArray) 28 0 24 (.agg #[.int .i64 0, .int .i64 0]) 2 Try.underlying28 (fun w => by simp [zeroValue, typeInfo, hi0, hz0]) rfl (by intro v hv; simp [Value.cells] at hv; rw [hv]; rfl) b.1 (n1 * 2) (n - n1) (64 - n1) _ 24 hbx1 (by rw [hL1, hL]; omega) (by omega)
  have HC := Lib.hid hcl
  have hfin := setRow_heap _ b.1 _ (layL (layL (celS b.2 ++ sp) (i * 2) (celS (b.2.drop j))) (n1 * 2) zs).toArray _ _ hbx1
  rw [del_cells b.2 sp zs i j n n1 hn hj hn1 hi (by rw [hzs]; omega)] at hfin HC
  have HF := Lib.hid hfin
  clear hcl hfin hbx1
  clear hrun hsrc
  have hne : ¬ (64 = n1) := by omega
  have hij : ¬ ((i : Int) = (j : Int)) := by omega
  have h1 : i ≤ n := by omega
  have h2 : j ≤ n := by omega
  have h3 : n1 ≤ n := by omega
  have h4 : i ≤ j := by omega
  have h5 : (i : Int) ≤ 64 := by omega
  have h6 : (j : Int) ≤ 64 := by omega
  have HJ := Lib.hid hj
  have HN1 := Lib.hid hn1
  have HN := Lib.hid hn
  clear hj hn1 hn
  go_enter Try.func152, Try.ntmps152
  go_wp2_with fail
  go_region_law (refine step_of_wp rfl (wp_app_run _ (.tmp 22) (.tmp 25) 28 28 rfl _ _ (by simp [Act.eval, Act.put]) (by simp [Act.eval, Act.put]) HR.out ?_))
  go_wp2_with fail
  rw [HC.out]
  go_wp2
  go_ret
  refine ⟨by rw [show n - 1 = n1 by have := HN1.out; omega]; rfl, ⟨zs ++ sp, ?_, HF.out⟩, ?_⟩
  · rw [List.length_append, List.length_append, celS_len, hzs, List.length_eraseIdx_of_lt (by rw [HN.out]; exact hi), HN.out]
    have := HN1.out
    omega
  · exact ((WrS.of [b.1] (Below.refl _ _).drew).trans (WrS.row [b.1] _ b.1 _ (by simp)) fun x hx => Or.inl hx).trans (WrS.row [b.1] _ b.1 _ (by simp)) fun x hx => Or.inl hx
end Go.Proofs.Ytaeodkpkgbjaeaa
