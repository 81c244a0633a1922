/- Layer 18 (bag): join of two blocks. -/
import Derived.Test.YtaeodkpkgbjaeaaBagY
namespace Go.Proofs.Ytaeodkpkgbjaeaa
open Go.RowKit
set_option linter.unusedVariables false
set_option linter.unusedSimpArgs false

theorem join_tail (W : World) (A C : List Blk) (b x : Blk) (gB c d m1 m2 mm : Nat) (h : BksAt W gB c (A ++ b :: x :: C)) (hd : A.length = d) (h1 : b.2.length = m1) (h2 : x.2.length = m2) (hm : mm = m1 + m2) (h64 : mm ≤ 64) :
    ∃ (L1 : List Value),
      (∀ ty, (Builtin.append_ #[28, 28] ty #[.slice (some ⟨b.1, 0, none⟩) m1 64, .slice (some ⟨x.1, 0, none⟩) m2 64]).run Try.prog W.drew = .ok (.slice (some ⟨b.1, 0, none⟩) mm 64) (W.drew.setRow b.1 L1.toArray)) ∧
      ((W.drew.setRow b.1 L1.toArray).cell? ⟨gB, d, none⟩ = some (.slice (some ⟨b.1, 0, none⟩) m1 64) ∧ (W.drew.setRow b.1 L1.toArray).frozen? ⟨gB, d, none⟩ = false) ∧
      (∀ X : World, X = (W.drew.setRow b.1 L1.toArray).setCell ⟨gB, d, none⟩ (.slice (some ⟨b.1, 0, none⟩) mm 64) →
        RowAt X gB c (A ++ (b.1, b.2 ++ x.2) :: x :: C) ∧ BlkAt X (b.1, b.2 ++ x.2) ∧ WrS [b.1, gB] W X) := by
  obtain ⟨i0, hi0, hz0, hz1, hz2⟩ := info_parts3 info_sc
  obtain ⟨hne, hne2⟩ := memB_ne h.nd
  obtain ⟨sp, hsp, hbx⟩ := h.blk b (by simp)
  have hxb := h.blk x (by simp)
  rw [List.length_append, celS_len, h1] at hsp
  have hL0 : (celS b.2 ++ sp).length = 128 := by rw [List.length_append, celS_len, h1]; omega
  have hL1 : (celS x.2).length = m2 * 2 := by rw [celS_len, h2]
  obtain ⟨s1, s2, hs, hs1⟩ : ∃ s1 s2, sp = s1 ++ s2 ∧ s1.length = m2 * 2 := ⟨sp.take (m2 * 2), sp.drop (m2 * 2), (List.take_append_drop _ _).symm, by rw [List.length_take]; omega⟩
  have hbx1 : Box W.drew b.1 (celS b.2 ++ sp).toArray 24 := hbx
  have e1 : layL (celS b.2 ++ sp) (0 + m1 * 2) (celS x.2) = celS (b.2 ++ x.2) ++ s2 := by
    rw [layL_mid' _ (celS b.2) s1 s2 (celS x.2) (0 + m1 * 2) (by rw [hs, List.append_assoc]) (by rw [celS_len, h1]; omega) (by rw [hs1, hL1]), celS_app]
  have hbx2 := setRow_heap _ b.1 _ (celS (b.2 ++ x.2) ++ s2).toArray _ _ hbx1
  have hW1 : WrS [b.1] W (W.drew.setRow b.1 (celS (b.2 ++ x.2) ++ s2).toArray) := (WrS.of [b.1] (Below.refl _ _).drew).trans (WrS.row [b.1] _ b.1 _ (by simp)) fun x hx => Or.inl hx
  have hrow1 := h.row.keep (hW1.block gB h.row.lt (by simpa using hne))
  refine ⟨celS (b.2 ++ x.2) ++ s2, fun ty => ?_, ?_, ?_⟩
  · have hrun := run_app_k (P := Try.prog) W.drew 28 ty 24 i0 2 Try.underlying28 hi0 hz1 b.1 0 m1 64 ⟨x.1, 0, none⟩ m2 64 (celS b.2 ++ sp) 24 (celS x.2) hbx1 hL1 (fun j v hj => by
      have := blk_from hxb 0 j v (by simpa using hj)
      simpa using this) (by omega) (by rw [hL0, hL1]; omega) celS_one
    rw [e1, ← hm] at hrun
    exact hrun
  · have := hrow1.mid
    unfold blkV at this
    rw [hd, h1] at this
    exact ⟨this, hrow1.free d⟩
  · rintro X rfl
    have hrow2 := hrow1.set (b.1, b.2 ++ x.2)
    have hv : blkV (b.1, b.2 ++ x.2) = .slice (some ⟨b.1, 0, none⟩) mm 64 := by unfold blkV; simp only [List.length_append, h1, h2, hm]
    rw [hv, hd] at hrow2
    refine ⟨hrow2, ⟨s2, ?_, Box.off hbx2 (p := ⟨gB, d, none⟩) hne _⟩, (hW1.mono (G' := [b.1, gB]) (by simp)).trans (WrS.cell [b.1, gB] _ gB d _ (by simp)) fun x hx => Or.inl hx⟩
    have : (s1 ++ s2).length = sp.length := by rw [hs]
    rw [List.length_append, hs1] at this
    rw [List.length_append, celS_len, List.length_append, h1, h2]; omega
set_option maxRecDepth 100000 in
set_option maxHeartbeats 4000000 in
theorem bag_join_yes (A C : List Blk) (b x : Blk) (gB c d : Nat) (w : World) (h : BksAt w gB c (A ++ b :: x :: C)) (hd : A.length = d) (hf : b.2.length + x.2.length ≤ 64) (hn4 : (A ++ b :: x :: C).length ≤ 90000) :
    Calls Try.prog 153 #[.slice (some ⟨gB, 0, none⟩) (A ++ b :: x :: C).length c, .int .i64 d] w (JnR w gB (A ++ b :: x :: C) d) := by
  have HH := Lib.hid h
  have hc1 := h.row.mid
  have hc2 : w.cell? ⟨gB, d + 1, none⟩ = some (blkV x) := by
    have e : A ++ b :: x :: C = (A ++ [b]) ++ x :: C := by simp
    have h2 : RowAt w gB c ((A ++ [b]) ++ x :: C) := by rw [← e]; exact h.row
    have := h2.mid
    simpa [hd] using this
  rw [hd] at hc1
  unfold blkV at hc1 hc2
  have hcap := h.cap
  have HD := Lib.hid hd
  have HN4 := Lib.hid hn4
  have hdn : (d : Int) < ((A ++ b :: x :: C).length : Int) := by simp; omega
  have hdn1 : ((d + 1 : Nat) : Int) < ((A ++ b :: x :: C).length : Int) := by simp; omega
  obtain ⟨n, hn⟩ : ∃ n, n = (A ++ b :: x :: C).length := ⟨_, rfl⟩
  obtain ⟨m1, hm1⟩ : ∃ m1, m1 = b.2.length := ⟨_, rfl⟩
  obtain ⟨m2, hm2⟩ : ∃ m2, m2 = x.2.length := ⟨_, rfl⟩
  obtain ⟨mm, hmm⟩ : ∃ mm, mm = m1 + m2 := ⟨_, rfl⟩
  obtain ⟨d1, hd1⟩ : ∃ d1, d1 = d + 1 := ⟨_, rfl⟩
  obtain ⟨d2, hd2⟩ : ∃ d2, d2 = d + 2 := ⟨_, rfl⟩
  rw [← hn] at hcap hdn hdn1 ⊢
  rw [← hm1] at hc1
  rw [← hm2, ← hd1] at hc2
  rw [← hd1] at hdn1
  have hw1 : IntKind.i64.wrap ((d : Int) + 1) = (d1 : Int) := by rw [IntKind.wrap_i64]; omega
  have hw3 : IntKind.i64.wrap ((d : Int) + 2) = (d2 : Int) := by rw [IntKind.wrap_i64]; omega
  have hw2 : IntKind.i64.wrap ((m1 : Int) + (m2 : Int)) = (mm : Int) := by rw [IntKind.wrap_i64]; omega
  have q0 : decide ((d : Int) < 0) = false := decide_eq_false (by omega)
  have q1 : decide (n ≤ d1) = false := decide_eq_false (by omega)
  have q2 : decide (64 < mm) = false := decide_eq_false (by omega)
  have q3 : decide ((64 : Int) < (mm : Int)) = false := decide_eq_false (by omega)
  have HM := Lib.hid (show mm = m1 + m2 ∧ m1 = b.2.length ∧ m2 = x.2.length ∧ mm ≤ 64 from ⟨hmm, hm1, hm2, by omega⟩)
  have HN := Lib.hid hn
  have HDS := Lib.hid (show d1 = d + 1 ∧ d2 = d + 2 from ⟨hd1, hd2⟩)
  clear h hd hmm hm1 hm2 hn hd1 hd2 hf hn4
  go_enter Try.func153, Try.ntmps153
  go_wp2
  go_quiet (fail)
  go_upto_region 3 with fail
  have HWq : Hid (∀ k, Below w.heap.size w (w.drewN k)) := fun k => below_drewN (Below.refl _ _) k
  have hcs : Hid (∀ k, (w.drewN k).cell? ⟨gB, d, none⟩ = some (.slice (some ⟨b.1, 0, none⟩) m1 64) ∧ (w.drewN k).cell? ⟨gB, d1, none⟩ = some (.slice (some ⟨x.1, 0, none⟩) m2 64)) := fun k => ⟨hc1, hc2⟩
  generalize hnq : w.drewN _ = W
  obtain ⟨hBq, hg1, hg2⟩ : Below w.heap.size w W ∧ W.cell? ⟨gB, d, none⟩ = some (.slice (some ⟨b.1, 0, none⟩) m1 64) ∧ W.cell? ⟨gB, d1, none⟩ = some (.slice (some ⟨x.1, 0, none⟩) m2 64) := by rw [← hnq]; exact ⟨HWq.out _, hcs.out _⟩
  have HB := Lib.hid hBq
  clear hnq hBq HWq hcs hc1 hc2
  have HW := Lib.hid (HH.out.below HB.out)
  obtain ⟨L1, ha, hgd, hX⟩ := join_tail W A C b x gB c d m1 m2 mm HW.out HD.out HM.out.2.1.symm HM.out.2.2.1.symm HM.out.1 HM.out.2.2.2
  obtain ⟨gd, gf⟩ := hgd
  have HA := Lib.hid (ha 28)
  have HX := Lib.hid hX
  clear ha hX
  go_cut [4] from 5 to 42 (fun l wx => l = .slice none 0 0 ∧ wx = (W.drew.setRow b.1 L1.toArray).setCell ⟨gB, d, none⟩ (.slice (some ⟨b.1, 0, none⟩) mm 64))
  case first =>
    go_wp2_with fail
    go_region_law (refine step_of_wp rfl (wp_app_run _ (.tmp 35) (.tmp 40) 28 28 rfl _ _ (by simp [Act.eval, Act.put]) (by simp [Act.eval, Act.put]) HA.out ?_))
    all_goals
      go_wp2_with fail
      go_meet
      exact ⟨rfl, rfl⟩
  case rest =>
  obtain ⟨rfl, rfl⟩ := hcut
  generalize hW2 : (W.drew.setRow b.1 L1.toArray).setCell ⟨gB, d, none⟩ (.slice (some ⟨b.1, 0, none⟩) mm 64) = W2
  obtain ⟨hrow, hblk, hwr⟩ := HX.out W2 hW2.symm
  have hK := bag_delB (A ++ (b.1, b.2 ++ x.2) :: x :: C) gB c d1 d2 n W2 hrow (by rw [HN.out]; simp) (by omega) (by have := HDS.out; omega)
  have HK := Lib.hid hK
  have HBK := Lib.hid hblk
  have HWR := Lib.hid hwr
  clear hrow hblk hwr hK hW2 HX HA gd gf hg1 hg2
  go_wp2_with fail
  refine HK.out.mono ?_
  rintro e W3 ⟨rfl, hrow, hwr⟩
  have HFIN : Hid (JnR w gB (A ++ b :: x :: C) d (.returned (.slice (some ⟨gB, 0, none⟩) (n - 1) c)) W3) := by
    have hH := HH.out
    obtain ⟨hne, hne2⟩ := memB_ne hH.nd
    have ex : A ++ b :: x :: C = (A ++ [b]) ++ x :: C := by simp
    have hnd2 : (memB gB ((A ++ [b]) ++ x :: C)).Nodup := by rw [← ex]; exact hH.nd
    obtain ⟨hnx, hnx2⟩ := memB_ne hnd2
    have he : (A ++ (b.1, b.2 ++ x.2) :: x :: C).eraseIdx d1 = A ++ (b.1, b.2 ++ x.2) :: C := by
      have e1 : A ++ (b.1, b.2 ++ x.2) :: x :: C = (A ++ [(b.1, b.2 ++ x.2)]) ++ x :: C := by simp
      have e2 : (A ++ [(b.1, b.2 ++ x.2)]).length = d1 := by have := HD.out; have := HDS.out; simp; omega
      rw [e1, List.eraseIdx_append_of_length_le (by omega), e2, Nat.sub_self]
      simp
    rw [he] at hrow
    have W13 : WrS [b.1, gB] W2 W3 := hwr.mono (by simp)
    have W03 : WrS [b.1, gB] w W3 := ((WrS.of [b.1, gB] HB.out).trans HWR.out fun x hx => Or.inl hx).trans W13 fun x hx => Or.inl hx
    refine ⟨A ++ (b.1, b.2 ++ x.2) :: C, ⟨gB, c, ?_, ⟨hrow, fun y hy => ?_, ?_⟩, W03.mono fun y hy => ?_, fun y hy => Or.inl ?_⟩, Or.inr ⟨A, b, x, C, rfl, by have := HD.out; omega, by have := HM.out; omega, rfl⟩⟩
    · rw [show n - 1 = (A ++ (b.1, b.2 ++ x.2) :: C).length by rw [HN.out]; simp]
    · have hold : ∀ y ∈ A ++ C, BlkAt W3 y := fun y hy => by
        have hm : y ∈ A ++ b :: x :: C := by
          rcases List.mem_append.1 hy with g | g
          · exact List.mem_append_left _ g
          · exact List.mem_append_right _ (List.mem_cons_of_mem _ (List.mem_cons_of_mem _ g))
        have h3 := hne2 y.1 (List.mem_map.2 ⟨y, by
          rcases List.mem_append.1 hy with g | g
          · exact List.mem_append_left _ g
          · exact List.mem_append_right _ (List.mem_cons_of_mem _ g), rfl⟩)
        exact (hH.blk y hm).keep (W03.block y.1 (hH.blk y hm).lt (by simp [h3.1, h3.2]))
      rcases List.mem_append.1 hy with g | g
      · exact hold y (List.mem_append_left _ g)
      · rcases List.mem_cons.1 g with rfl | g
        · exact HBK.out.keep (hwr.block b.1 HBK.out.lt (by simpa using Ne.symm hne))
        · exact hold y (List.mem_append_right _ g)
    · have := hH.nd
      unfold memB at this ⊢
      simp only [List.map_append, List.map_cons] at this ⊢
      refine this.sublist ?_
      exact List.Sublist.cons_cons _ (List.Sublist.append_left (List.Sublist.cons_cons _ (List.sublist_cons_self _ _)) _)
    · simp only [List.mem_cons, List.not_mem_nil, or_false] at hy
      unfold memB
      rcases hy with rfl | rfl
      · simp
      · simp
    · unfold memB at hy ⊢
      simp only [List.map_append, List.map_cons, List.mem_cons, List.mem_append] at hy ⊢
      rcases hy with h | h | h | h
      · exact Or.inl h
      · exact Or.inr (Or.inl h)
      · exact Or.inr (Or.inr (Or.inl h))
      · exact Or.inr (Or.inr (Or.inr (Or.inr h)))
  clear hrow hwr
  go_wp2
  go_ret
  exact HFIN.out
end Go.Proofs.Ytaeodkpkgbjaeaa
