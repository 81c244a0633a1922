/- BbA BbB BbC BbD BbE BbF BbG -/
import Derived.Test.YtaeodkpkgbjaeaaBgC
import Derived.Test.YtaeodkpkgbjaeaaBgB
import Derived.Lib.AppendZeros
import Derived.IntWalk
import Derived.Laws.CopyOwn

/-! Layer 18 (bag): join of two blocks. -/
namespace Go.Proofs.Ytaeodkpkgbjaeaa
open Go.RowKit
set_option linter.unusedVariables false
set_option linter.unusedSimpArgs false

theorem join_tail (W : World) (A C : List Blk) (b x : Blk) (gB c d m1 m2 mm : Nat) (h : BksAt W gB c (A ++ b :: x :: C)) (hd : A.length = d) (h1 : b.2.length = m1) (h2 : x.2.length = m2) (hm : mm = m1 + m2) (h64 : mm ≤ 64) :
    ∃ (L1 : List Value),
      (∀ ty, (Builtin.append_ #[28, 28] ty #[.slice (some ⟨b.1, 0, none⟩) m1 64, .slice (some ⟨x.1, 0, none⟩) m2 64]).run Try.prog W.drew = .ok (.slice (some ⟨b.1, 0, none⟩) mm 64) (W.drew.setRow b.1 L1.toArray)) ∧
      ((W.drew.setRow b.1 L1.toArray).cell? ⟨gB, d, none⟩ = some (.slice (some ⟨b.1, 0, none⟩) m1 64) ∧ (W.drew.setRow b.1 L1.toArray).frozen? ⟨gB, d, none⟩ = false) ∧
      (∀ X : World, X = (W.drew.setRow b.1 L1.toArray).setCell ⟨gB, d, none⟩ (.slice (some ⟨b.1, 0, none⟩) mm 64) →
        RowAt X gB c (A ++ (b.1, b.2 ++ x.2) :: x :: C) ∧ BlkAt X (b.1, b.2 ++ x.2) ∧ WrS [b.1, gB] W X) := by
  obtain ⟨i0, hi0, hz0, hz1, hz2⟩ := info_parts3 info_sc
  obtain ⟨hne, hne2⟩ := memB_ne h.nd
  obtain ⟨sp, hsp, hbx⟩ := h.blk b (by simp)
  have hxb := h.blk x (by simp)
  rw [List.length_append, celS_len, h1] at hsp
  have hL0 : (celS b.2 ++ sp).length = 128 := by rw [List.length_append, celS_len, h1]; omega
  have hL1 : (celS x.2).length = m2 * 2 := by rw [celS_len, h2]
  obtain ⟨s1, s2, hs, hs1⟩ : ∃ s1 s2, sp = s1 ++ s2 ∧ s1.length = m2 * 2 := ⟨sp.take (m2 * 2), sp.drop (m2 * 2), (List.take_append_drop _ _).symm, by rw [List.length_take]; omega⟩
  have hbx1 : Box W.drew b.1 (celS b.2 ++ sp).toArray 24 := hbx
  have e1 : layL (celS b.2 ++ sp) (0 + m1 * 2) (celS x.2) = celS (b.2 ++ x.2) ++ s2 := by
    rw [layL_mid' _ (celS b.2) s1 s2 (celS x.2) (0 + m1 * 2) (by rw [hs, List.append_assoc]) (by rw [celS_len, h1]; omega) (by rw [hs1, hL1]), celS_app]
  have hbx2 := setRow_heap _ b.1 _ (celS (b.2 ++ x.2) ++ s2).toArray _ _ hbx1
  have hW1 : WrS [b.1] W (W.drew.setRow b.1 (celS (b.2 ++ x.2) ++ s2).toArray) := (WrS.of [b.1] (Below.refl _ _).drew).trans (WrS.row [b.1] _ b.1 _ (by simp)) fun x hx => Or.inl hx
  have hrow1 := h.row.keep (hW1.block gB h.row.lt (by simpa using hne))
  refine ⟨celS (b.2 ++ x.2) ++ s2, fun ty => ?_, ?_, ?_⟩
  · have hrun := run_app_k (P := Try.prog) W.drew 28 ty 24 i0 2 Try.underlying28 hi0 hz1 b.1 0 m1 64 ⟨x.1, 0, none⟩ m2 64 (celS b.2 ++ sp) 24 (celS x.2) hbx1 hL1 (fun j v hj => by
      have := blk_from hxb 0 j v (by simpa using hj)
      simpa using this) (by omega) (by rw [hL0, hL1]; omega) celS_one
    rw [e1, ← hm] at hrun
    exact hrun
  · have := hrow1.mid
    unfold blkV at this
    rw [hd, h1] at this
    exact ⟨this, hrow1.free d⟩
  · rintro X rfl
    have hrow2 := hrow1.set (b.1, b.2 ++ x.2)
    have hv : blkV (b.1, b.2 ++ x.2) = .slice (some ⟨b.1, 0, none⟩) mm 64 := by unfold blkV; simp only [List.length_append, h1, h2, hm]
    rw [hv, hd] at hrow2
    refine ⟨hrow2, ⟨s2, ?_, Box.off hbx2 (p := ⟨gB, d, none⟩) hne _⟩, (hW1.mono (G' := [b.1, gB]) (by simp)).trans (WrS.cell [b.1, gB] _ gB d _ (by simp)) fun x hx => Or.inl hx⟩
    have : (s1 ++ s2).length = sp.length := by rw [hs]
    rw [List.length_append, hs1] at this
    rw [List.length_append, celS_len, List.length_append, h1, h2]; omega
set_option maxRecDepth 100000 in
set_option maxHeartbeats 4000000 in
theorem bag_join_yes (A C : List Blk) (b x : Blk) (gB c d : Nat) (w : World) (h : BksAt w gB c (A ++ b :: x :: C)) (hd : A.length = d) (hf : b.2.length + x.2.length ≤ 64) (hn4 : (A ++ b :: x :: C).length ≤ 90000) :
    Calls Try.prog 153 #[.slice (some ⟨gB, 0, none⟩) (A ++ b :: x :: C).length c, .int .i64 d] w (JnR w gB (A ++ b :: x :: C) d) := by
  have HH := Lib.hid h
  have hc1 := h.row.mid
  have hc2 : w.cell? ⟨gB, d + 1, none⟩ = some (blkV x) := by
    have e : A ++ b :: x :: C = (A ++ [b]) ++ x :: C := by simp
    have h2 : RowAt w gB c ((A ++ [b]) ++ x :: C) := by rw [← e]; exact h.row
    have := h2.mid
    simpa [hd] using this
  rw [hd] at hc1
  unfold blkV at hc1 hc2
  have hcap := h.cap
  have HD := Lib.hid hd
  have HN4 := Lib.hid hn4
  have hdn : (d : Int) < ((A ++ b :: x :: C).length : Int) := by simp; omega
  have hdn1 : ((d + 1 : Nat) : Int) < ((A ++ b :: x :: C).length : Int) := by simp; omega
  obtain ⟨n, hn⟩ : ∃ n, n = (A ++ b :: x :: C).length := ⟨_, rfl⟩
  obtain ⟨m1, hm1⟩ : ∃ m1, m1 = b.2.length := ⟨_, rfl⟩
  obtain ⟨m2, hm2⟩ : ∃ m2, m2 = x.2.length := ⟨_, rfl⟩
  obtain ⟨mm, hmm⟩ : ∃ mm, mm = m1 + m2 := ⟨_, rfl⟩
  obtain ⟨d1, hd1⟩ : ∃ d1, d1 = d + 1 := ⟨_, rfl⟩
  obtain ⟨d2, hd2⟩ : ∃ d2, d2 = d + 2 := ⟨_, rfl⟩
  rw [← hn] at hcap hdn hdn1 ⊢
  rw [← hm1] at hc1
  rw [← hm2, ← hd1] at hc2
  rw [← hd1] at hdn1
  have hw1 : IntKind.i64.wrap ((d : Int) + 1) = (d1 : Int) := by rw [IntKind.wrap_i64]; omega
  have hw3 : IntKind.i64.wrap ((d : Int) + 2) = (d2 : Int) := by rw [IntKind.wrap_i64]; omega
  have hw2 : IntKind.i64.wrap ((m1 : Int) + (m2 : Int)) = (mm : Int) := by rw [IntKind.wrap_i64]; omega
  have q0 : decide ((d : Int) < 0) = false := decide_eq_false (by omega)
  have q1 : decide (n ≤ d1) = false := decide_eq_false (by omega)
  have q2 : decide (64 < mm) = false := decide_eq_false (by omega)
  have q3 : decide ((64 : Int) < (mm : Int)) = false := decide_eq_false (by omega)
  have HM := Lib.hid (show mm = m1 + m2 ∧ m1 = b.2.length ∧ m2 = x.2.length ∧ mm ≤ 64 from ⟨hmm, hm1, hm2, by omega⟩)
  have HN := Lib.hid hn
  have HDS := Lib.hid (show d1 = d + 1 ∧ d2 = d + 2 from ⟨hd1, hd2⟩)
  clear h hd hmm hm1 hm2 hn hd1 hd2 hf hn4
  go_enter Try.func153, Try.ntmps153
  go_wp2
  go_quiet (fail)
  go_upto_region 3 with fail
  have HWq : Hid (∀ k, Below w.heap.size w (w.drewN k)) := fun k => below_drewN (Below.refl _ _) k
  have hcs : Hid (∀ k, (w.drewN k).cell? ⟨gB, d, none⟩ = some (.slice (some ⟨b.1, 0, none⟩) m1 64) ∧ (w.drewN k).cell? ⟨gB, d1, none⟩ = some (.slice (some ⟨x.1, 0, none⟩) m2 64)) := fun k => ⟨hc1, hc2⟩
  generalize hnq : w.drewN _ = W
  obtain ⟨hBq, hg1, hg2⟩ : Below w.heap.size w W ∧ W.cell? ⟨gB, d, none⟩ = some (.slice (some ⟨b.1, 0, none⟩) m1 64) ∧ W.cell? ⟨gB, d1, none⟩ = some (.slice (some ⟨x.1, 0, none⟩) m2 64) := by rw [← hnq]; exact ⟨HWq.out _, hcs.out _⟩
  have HB := Lib.hid hBq
  clear hnq hBq HWq hcs hc1 hc2
  have HW := Lib.hid (HH.out.below HB.out)
  obtain ⟨L1, ha, hgd, hX⟩ := join_tail W A C b x gB c d m1 m2 mm HW.out HD.out HM.out.2.1.symm HM.out.2.2.1.symm HM.out.1 HM.out.2.2.2
  obtain ⟨gd, gf⟩ := hgd
  have HA := Lib.hid (ha 28)
  have HX := Lib.hid hX
  clear ha hX
  go_cut [4] from 5 to 42 (fun l wx => l = .slice none 0 0 ∧ wx = (W.drew.setRow b.1 L1.toArray).setCell ⟨gB, d, none⟩ (.slice (some ⟨b.1, 0, none⟩) mm 64))
  case first =>
    go_wp2_with fail
    go_region_law (refine step_of_wp rfl (wp_app_run _ (.tmp 35) (.tmp 40) 28 28 rfl _ _ (by simp [Act.eval, Act.put]) (by simp [Act.eval, Act.put]) HA.out ?_))
    all_goals
      go_wp2_with fail
      go_meet
      exact ⟨rfl, rfl⟩
  case rest =>
  obtain ⟨rfl, rfl⟩ := hcut
  generalize hW2 : (W.drew.setRow b.1 L1.toArray).setCell ⟨gB, d, none⟩ (.slice (some ⟨b.1, 0, none⟩) mm 64) = W2
  obtain ⟨hrow, hblk, hwr⟩ := HX.out W2 hW2.symm
  have hK := bag_delB (A ++ (b.1, b.2 ++ x.2) :: x :: C) gB c d1 d2 n W2 hrow (by rw [HN.out]; simp) (by omega) (by have := HDS.out; omega)
  have HK := Lib.hid hK
  have HBK := Lib.hid hblk
  have HWR := Lib.hid hwr
  clear hrow hblk hwr hK hW2 HX HA gd gf hg1 hg2
  go_wp2_with fail
  refine HK.out.mono ?_
  rintro e W3 ⟨rfl, hrow, hwr⟩
  have HFIN : Hid (JnR w gB (A ++ b :: x :: C) d (.returned (.slice (some ⟨gB, 0, none⟩) (n - 1) c)) W3) := by
    have hH := HH.out
    obtain ⟨hne, hne2⟩ := memB_ne hH.nd
    have ex : A ++ b :: x :: C = (A ++ [b]) ++ x :: C := by simp
    have hnd2 : (memB gB ((A ++ [b]) ++ x :: C)).Nodup := by rw [← ex]; exact hH.nd
    obtain ⟨hnx, hnx2⟩ := memB_ne hnd2
    have he : (A ++ (b.1, b.2 ++ x.2) :: x :: C).eraseIdx d1 = A ++ (b.1, b.2 ++ x.2) :: C := by
      have e1 : A ++ (b.1, b.2 ++ x.2) :: x :: C = (A ++ [(b.1, b.2 ++ x.2)]) ++ x :: C := by simp
      have e2 : (A ++ [(b.1, b.2 ++ x.2)]).length = d1 := by have := HD.out; have := HDS.out; simp; omega
      rw [e1, List.eraseIdx_append_of_length_le (by omega), e2, Nat.sub_self]
      simp
    rw [he] at hrow
    have W13 : WrS [b.1, gB] W2 W3 := hwr.mono (by simp)
    have W03 : WrS [b.1, gB] w W3 := ((WrS.of [b.1, gB] HB.out).trans HWR.out fun x hx => Or.inl hx).trans W13 fun x hx => Or.inl hx
    refine ⟨A ++ (b.1, b.2 ++ x.2) :: C, ⟨gB, c, ?_, ⟨hrow, fun y hy => ?_, ?_⟩, W03.mono fun y hy => ?_, fun y hy => Or.inl ?_⟩, Or.inr ⟨A, b, x, C, rfl, by have := HD.out; omega, by have := HM.out; omega, rfl⟩⟩
    · rw [show n - 1 = (A ++ (b.1, b.2 ++ x.2) :: C).length by rw [HN.out]; simp]
    · have hold : ∀ y ∈ A ++ C, BlkAt W3 y := fun y hy => by
        have hm : y ∈ A ++ b :: x :: C := by
          rcases List.mem_append.1 hy with g | g
          · exact List.mem_append_left _ g
          · exact List.mem_append_right _ (List.mem_cons_of_mem _ (List.mem_cons_of_mem _ g))
        have h3 := hne2 y.1 (List.mem_map.2 ⟨y, by
          rcases List.mem_append.1 hy with g | g
          · exact List.mem_append_left _ g
          · exact List.mem_append_right _ (List.mem_cons_of_mem _ g), rfl⟩)
        exact (hH.blk y hm).keep (W03.block y.1 (hH.blk y hm).lt (by simp [h3.1, h3.2]))
      rcases List.mem_append.1 hy with g | g
      · exact hold y (List.mem_append_left _ g)
      · rcases List.mem_cons.1 g with rfl | g
        · exact HBK.out.keep (hwr.block b.1 HBK.out.lt (by simpa using Ne.symm hne))
        · exact hold y (List.mem_append_right _ g)
    · have := hH.nd
      unfold memB at this ⊢
      simp only [List.map_append, List.map_cons] at this ⊢
      refine this.sublist ?_
      exact List.Sublist.cons_cons _ (List.Sublist.append_left (List.Sublist.cons_cons _ (List.sublist_cons_self _ _)) _)
    · simp only [List.mem_cons, List.not_mem_nil, or_false] at hy
      unfold memB
      rcases hy with rfl | rfl
      · simp
      · simp
    · unfold memB at hy ⊢
      simp only [List.map_append, List.map_cons, List.mem_cons, List.mem_append] at hy ⊢
      rcases hy with h | h | h | h
      · exact Or.inl h
      · exact Or.inr (Or.inl h)
      · exact Or.inr (Or.inr (Or.inl h))
      · exact Or.inr (Or.inr (Or.inr (Or.inr h)))
  clear hrow hwr
  go_wp2
  go_ret
  exact HFIN.out
end Go.Proofs.Ytaeodkpkgbjaeaa

/-! Layer 18 (bag): cut. -/
namespace Go.Proofs.Ytaeodkpkgbjaeaa
open Go.RowKit
set_option linter.unusedVariables false
set_option linter.unusedSimpArgs false

theorem bag_join (bs : List Blk) (gB c : Nat) (k : Int) (w : World) (h : BksAt w gB c bs) (hm : ∀ b ∈ bs, b.2.length ≤ 64) (hki : -10 ≤ k ∧ k ≤ 1000000) (hn4 : bs.length ≤ 90000) :
    Calls Try.prog 153 #[.slice (some ⟨gB, 0, none⟩) bs.length c, .int .i64 k] w (JnR w gB bs k) := by
  by_cases hk : k < 0 ∨ (bs.length : Int) ≤ k + 1
  · exact bag_join_out bs gB c k w h hk hki
  · obtain ⟨d, rfl⟩ : ∃ d : Nat, k = (d : Int) := ⟨k.toNat, by omega⟩
    obtain ⟨A, b, C', rfl, hd⟩ := cut_at bs d (by omega)
    cases C' with
    | nil => simp at hk; omega
    | cons x C =>
      by_cases hf : b.2.length + x.2.length ≤ 64
      · exact bag_join_yes A C b x gB c d w h hd hf hn4
      · exact bag_join_full A C b x gB c d w h hd (by omega) ⟨hm b (by simp), hm x (by simp)⟩ hn4
/-- what cut gives -/
def CtR (w : World) (gB : Nat) (A C : List Blk) (b : Blk) (r : Nat) (e : Ending) (w' : World) : Prop :=
  ∃ bs', BkR w gB (A ++ b :: C) bs' e w' ∧ flat bs' = (flat (A ++ b :: C)).eraseIdx ((flat A).length + r) ∧ OkL bs'
theorem JoinR.room {bs bs' : List Blk} {k : Int} (h : JoinR bs k bs') (hm : ∀ b ∈ bs, b.2.length ≤ 64) : ∀ b ∈ bs', b.2.length ≤ 64 := by
  rcases h with ⟨rfl, _⟩ | ⟨A, b, x, C, rfl, _, hl, rfl⟩
  · exact hm
  · intro y hy
    rcases List.mem_append.1 hy with g | g
    · exact hm y (List.mem_append_left _ g)
    · rcases List.mem_cons.1 g with rfl | g
      · rw [List.length_append]; exact hl
      · exact hm y (List.mem_append_right _ (List.mem_cons_of_mem _ (List.mem_cons_of_mem _ g)))
theorem JoinR.len {bs bs' : List Blk} {k : Int} (h : JoinR bs k bs') : bs'.length ≤ bs.length := by
  rcases h with ⟨rfl, _⟩ | ⟨A, b, x, C, rfl, _, hl, rfl⟩
  · exact Nat.le_refl _
  · simp
set_option maxRecDepth 100000 in
set_option maxHeartbeats 4000000 in
theorem bag_cut (A C : List Blk) (b : Blk) (gB c d r : Nat) (w : World) (h : BksAt w gB c (A ++ b :: C)) (hO : OkL (A ++ b :: C)) (hd : A.length = d) (hr : r < b.2.length) (hn4 : (A ++ b :: C).length ≤ 90000) :
    Calls Try.prog 91 #[.slice (some ⟨gB, 0, none⟩) (A ++ b :: C).length c, .int .i64 d, .int .i64 r] w (CtR w gB A C b r) := by
  have HH := Lib.hid h
  have HO := Lib.hid hO
  obtain ⟨hne, hne2⟩ := memB_ne h.nd
  have hb64 := hO.room b (by simp)
  have hcap := h.cap
  have c1 := h.row.mid
  rw [hd] at c1
  unfold blkV at c1
  have hdn : (d : Int) < ((A ++ b :: C).length : Int) := by simp; omega
  obtain ⟨n, hn⟩ : ∃ n, n = (A ++ b :: C).length := ⟨_, rfl⟩
  obtain ⟨m, hm⟩ : ∃ m, m = b.2.length := ⟨_, rfl⟩
  obtain ⟨m1, hm1⟩ : ∃ m1, m1 = m - 1 := ⟨_, rfl⟩
  obtain ⟨r1, hr1⟩ : ∃ r1, r1 = r + 1 := ⟨_, rfl⟩
  rw [← hn] at hcap hdn ⊢
  rw [← hm] at c1 hr
  have hK := bag_delS b r r1 m w (h.blk b (by simp)) hm.symm hr hr1 (by omega)
  rw [← hm1] at hK
  have HK := Lib.hid hK
  have hwr1 : IntKind.i64.wrap ((r : Int) + 1) = (r1 : Int) := by rw [IntKind.wrap_i64]; omega
  have hwd : IntKind.i64.wrap ((d : Int) - 1) = (d : Int) - 1 := by rw [IntKind.wrap_i64]; omega
  have HN := Lib.hid hn
  have HM := Lib.hid (show m = b.2.length ∧ m1 = m - 1 from ⟨hm, hm1⟩)
  have HD := Lib.hid hd
  have HN4 := Lib.hid hn4
  have HR := Lib.hid hr
  clear h hO hn hm hm1 hr1 hd hn4 hK
  go_enter Try.func91, Try.ntmps91
  go_wp2_with fail
  refine HK.out.mono ?_
  rintro e W1 ⟨rfl, hblk, hwr⟩
  have hrow1 := HH.out.row.keep (hwr.block gB HH.out.row.lt (by simpa using hne))
  have c2 := hrow1.mid
  rw [HD.out] at c2
  unfold blkV at c2
  rw [← HM.out.1] at c2
  have f2 := hrow1.free d
  have hrow2 := hrow1.set (b.1, b.2.eraseIdx r)
  have hel : (b.2.eraseIdx r).length = m1 := by rw [List.length_eraseIdx_of_lt (by have := HM.out; have := HR.out; omega)]; have := HM.out; omega
  rw [HD.out] at hrow2
  have hv : blkV (b.1, b.2.eraseIdx r) = .slice (some ⟨b.1, 0, none⟩) m1 64 := by unfold blkV; simp only [hel]
  rw [hv] at hrow2
  have hB2 : BksAt (W1.setCell ⟨gB, d, none⟩ (.slice (some ⟨b.1, 0, none⟩) m1 64)) gB c (A ++ (b.1, b.2.eraseIdx r) :: C) := by
    refine HH.out.swap rfl hrow2 (hblk.keep (Below.heap_setCell _ _ _ _ (Ne.symm hne))) fun x hx => ?_
    obtain ⟨y, hy, rfl⟩ := List.mem_map.1 hx
    have h3 := hne2 y.1 hx
    have hym : y ∈ A ++ b :: C := by
      rcases List.mem_append.1 hy with g | g
      · exact List.mem_append_left _ g
      · exact List.mem_append_right _ (List.mem_cons_of_mem _ g)
    exact (Below.heap_setCell _ _ _ _ h3.2).trans (hwr.block y.1 (HH.out.blk y hym).lt (by simpa using h3.1))
  have hW2 : WrS (memB gB (A ++ b :: C)) w (W1.setCell ⟨gB, d, none⟩ (.slice (some ⟨b.1, 0, none⟩) m1 64)) :=
    (hwr.mono (G' := memB gB (A ++ b :: C)) (by intro y hy; rw [List.mem_singleton] at hy; subst hy; unfold memB; simp)).trans (WrS.cell (memB gB (A ++ b :: C)) _ gB d _ (by unfold memB; simp)) fun x hx => Or.inl hx
  have hm2 : ∀ y ∈ A ++ (b.1, b.2.eraseIdx r) :: C, y.2.length ≤ 64 := by
    intro y hy
    rcases List.mem_append.1 hy with g | g
    · exact HO.out.room y (List.mem_append_left _ g)
    · rcases List.mem_cons.1 g with rfl | g
      · show (b.2.eraseIdx r).length ≤ 64
        rw [hel]; have := HM.out; omega
      · exact HO.out.room y (List.mem_append_right _ (List.mem_cons_of_mem _ g))
  have hln : (A ++ (b.1, b.2.eraseIdx r) :: C).length = n := by rw [HN.out]; simp
  have K1 := bag_join (A ++ (b.1, b.2.eraseIdx r) :: C) gB c d _ hB2 hm2 (by have := HN4.out; have := HN.out; omega) (by rw [hln, HN.out]; exact HN4.out)
  rw [hln] at K1
  have HK1 := Lib.hid K1
  have HB2 := Lib.hid hB2
  have HW2 := Lib.hid hW2
  have HM2 := Lib.hid hm2
  have HLN := Lib.hid hln
  clear K1 hB2 hW2 hm2 hrow1 hrow2 hblk hwr hv hel hln
  go_wp2_with fail
  refine HK1.out.mono ?_
  rintro e W3 ⟨X, ⟨g', c', rfl, hbX, hwX, hnX⟩, hX⟩
  have K2 := bag_join X g' c' ((d : Int) - 1) W3 hbX (hX.room HM2.out) (by have := HN4.out; have := HN.out; omega) (by have := hX.len; have := HLN.out; have := HN4.out; have := HN.out; omega)
  have HK2 := Lib.hid K2
  have HX := Lib.hid hX
  have HWX := Lib.hid hwX
  have HNX := Lib.hid hnX
  clear K2 hX hwX hnX hbX
  generalize X.length = nX at *
  go_wp2_with fail
  refine HK2.out.mono ?_
  rintro e W4 ⟨Y, ⟨g4, c4, rfl, hbY, hwY, hnY⟩, hY⟩
  have hsz2 := HW2.out.size
  have hsz3 := HWX.out.size
  have em : memB gB (A ++ (b.1, b.2.eraseIdx r) :: C) = memB gB (A ++ b :: C) := memB_swap rfl
  have hX := HX.out
  have hwX := HWX.out
  have hnX := HNX.out
  rw [em] at hwX hnX
  have HF : Hid (CtR w gB A C b r (.returned (.slice (some ⟨g4, 0, none⟩) Y.length c4)) W4) := by
    refine ⟨Y, ⟨g4, c4, rfl, hbY, (HW2.out.trans hwX fun x hx => Or.inl hx).trans hwY fun x hx => ?_, fun x hx => ?_⟩, ?_, ?_⟩
    · rcases hnX x hx with g | g
      · exact Or.inl g
      · right; omega
    · rcases hnY x hx with g | g
      · rcases hnX x g with g | g
        · exact Or.inl g
        · right; omega
      · right; omega
    · rw [hY.flat, hX.flat]
      exact flat_cut (by have := HM.out; have := HR.out; omega)
    · refine HO.out.cut (b' := (b.1, b.2.eraseIdx r)) (X := X) (Y := Y) (HM2.out _ (by simp)) (fun x hx => ?_) (by rw [HD.out]; exact hX) (by rw [HD.out]; exact hY)
      exact HO.out.nums b (by simp) x (List.mem_of_mem_eraseIdx hx)
  generalize Y.length = nY at HF ⊢
  clear hbY hwY hnY hY hX hwX hnX em
  go_wp2
  go_ret
  exact HF.out
end Go.Proofs.Ytaeodkpkgbjaeaa

/-! Layer 18 (bag): a bag in memory; Add. -/
namespace Go.Proofs.Ytaeodkpkgbjaeaa
open Go.RowKit
set_option linter.unusedVariables false
set_option linter.unusedSimpArgs false

instance (x : PQ) : Decidable (okP x) := by unfold okP; infer_instance
/-- a bag of the scores l, in the memory of O -/
def BagAt (w : World) (O : List Nat) (g : Nat) (l : List PQ) : Prop :=
  ∃ (gB c : Nat) (bs : List Blk), O = g :: memB gB bs ∧ Box w g #[.slice (some ⟨gB, 0, none⟩) bs.length c, .int .i64 (l.length : Nat)] 126 ∧ BksAt w gB c bs ∧ g ∉ memB gB bs ∧ OkL bs ∧ flat bs = l ∧ UpS l ∧ l.length ≤ 4096
theorem BagAt.lt {w : World} {O : List Nat} {g : Nat} {l : List PQ} (h : BagAt w O g l) : ∀ x ∈ O, x < w.heap.size := by
  obtain ⟨gB, c, bs, rfl, hb, hB, _⟩ := h
  intro x hx
  rcases List.mem_cons.1 hx with rfl | hx
  · exact hb.lt
  · exact hB.ltM x hx
theorem BagAt.keep {w w' : World} {O : List Nat} {g : Nat} {l : List PQ} (h : BagAt w O g l) (hk : ∀ x ∈ O, w'.heap[x]? = w.heap[x]?) : BagAt w' O g l := by
  obtain ⟨gB, c, bs, rfl, hb, hB, h1⟩ := h
  exact ⟨gB, c, bs, rfl, (hk g List.mem_cons_self).trans hb, hB.keep fun x hx => hk x (List.mem_cons_of_mem _ hx), h1⟩
theorem BagAt.below {w w' : World} {O : List Nat} {g : Nat} {l : List PQ} (h : BagAt w O g l) (hb : Below w.heap.size w w') : BagAt w' O g l :=
  h.keep fun x hx => hb.block x (h.lt x hx)
/-- what Add and Drop give: the bag holds l2 then -/
def BgR (w : World) (O : List Nat) (g : Nat) (x : Int) (l2 : List PQ) (e : Ending) (w' : World) : Prop :=
  e = .returned (.int .i64 x) ∧ ∃ O', BagAt w' O' g l2 ∧ WrS O w w' ∧ ∀ x ∈ O', x ∈ O ∨ w.heap.size ≤ x
theorem BgR.same {w w' : World} {O : List Nat} {g : Nat} {x : Int} {l : List PQ} (h : BagAt w O g l) (hb : Below w.heap.size w w') : BgR w O g x l (.returned (.int .i64 x)) w' :=
  ⟨rfl, O, h.below hb, WrS.of _ hb, fun x hx => Or.inl hx⟩
/-- Add and Drop of what is no score -/
theorem bcE_ok {p q : Int} (h : okP (p, q)) : bcE p q = 0 := by unfold bcE scoB; rw [if_pos (by exact decide_eq_true h)]
theorem bcE_no {p q : Int} (h : ¬ okP (p, q)) : bcE p q = 130 := by unfold bcE scoB; rw [if_neg]; rw [decide_eq_true_iff]; exact h
/-- put at a block by its number, beside a bag in block g -/
theorem put_bag (gB c : Nat) (bs : List Blk) (d r g : Nat) (p q : Int) (v0 v1 : Value) (T : TypeId) (W : World) (hbk : BksAt W gB c bs) (hgn : g ∉ memB gB bs) (hOk : OkL bs) (hd : d < bs.length) (hr : r ≤ lnA bs d) (hlen : bs.length ≤ 90000) (hok : okP (p, q)) (hb : Box W g #[v0, v1] T) :
    Calls Try.prog 89 #[.slice (some ⟨gB, 0, none⟩) bs.length c, .int .i64 d, .int .i64 r, .agg #[.int .i64 p, .int .i64 q]] W fun e w' => ∃ (g' c' : Nat) (bs' : List Blk), e = .returned (.slice (some ⟨g', 0, none⟩) bs'.length c') ∧ BksAt w' g' c' bs' ∧ WrS (memB gB bs) W w' ∧
      (∀ x ∈ memB g' bs', x ∈ memB gB bs ∨ W.heap.size ≤ x) ∧ Box w' g #[v0, v1] T ∧ flat bs' = insS (flat bs) (sumA bs d + r) (p, q) ∧ OkL bs' := by
  obtain ⟨A, b, C, rfl, hA⟩ := cut_at bs d hd
  rw [← hA, lnA_mid] at hr
  refine (bag_put A C b gB c d r p q W hbk hA (hOk.room b (by simp)) hr hlen).mono ?_
  rintro e w' ⟨bs', ⟨g', c', rfl, h1, h2, h3⟩, h4, h5⟩
  refine ⟨g', c', bs', rfl, h1, h2, h3, h2.box hb hgn, ?_, h5 hOk hok⟩
  rw [h4, ← hA, sumA_app]
theorem cut_bag (gB c : Nat) (bs : List Blk) (d r g : Nat) (v0 v1 : Value) (T : TypeId) (W : World) (hbk : BksAt W gB c bs) (hgn : g ∉ memB gB bs) (hOk : OkL bs) (hd : d < bs.length) (hr : r < lnA bs d) (hlen : bs.length ≤ 90000) (hb : Box W g #[v0, v1] T) :
    Calls Try.prog 91 #[.slice (some ⟨gB, 0, none⟩) bs.length c, .int .i64 d, .int .i64 r] W fun e w' => ∃ (g' c' : Nat) (bs' : List Blk), e = .returned (.slice (some ⟨g', 0, none⟩) bs'.length c') ∧ BksAt w' g' c' bs' ∧ WrS (memB gB bs) W w' ∧
      (∀ x ∈ memB g' bs', x ∈ memB gB bs ∨ W.heap.size ≤ x) ∧ Box w' g #[v0, v1] T ∧ flat bs' = (flat bs).eraseIdx (sumA bs d + r) ∧ OkL bs' := by
  obtain ⟨A, b, C, rfl, hA⟩ := cut_at bs d hd
  rw [← hA, lnA_mid] at hr
  refine (bag_cut A C b gB c d r W hbk hOk hA hr hlen).mono ?_
  rintro e w' ⟨bs', ⟨g', c', rfl, h1, h2, h3⟩, h4, h5⟩
  refine ⟨g', c', bs', rfl, h1, h2, h3, h2.box hb hgn, ?_, h5⟩
  rw [h4, ← hA, sumA_app]
set_option maxRecDepth 100000 in
set_option maxHeartbeats 4000000 in
theorem bag_add_no (O : List Nat) (g : Nat) (l : List PQ) (p q : Int) (hp : I64 p) (hq : I64 q) (w : World) (h : BagAt w O g l) (hno : ¬ okP (p, q) ∨ l.length = 4096) :
    Calls Try.prog 25 #[.pointer (some ⟨g, 0, none⟩), .agg #[.int .i64 p, .int .i64 q]] w (BgR w O g (if okP (p, q) then 3 else 130) l) := by
  have HR : Hid (∀ x w', Below w.heap.size w w' → BgR w O g x l (.returned (.int .i64 x)) w') := fun x w' hb => BgR.same h hb
  obtain ⟨gB, c, bs, -, hb, -⟩ := h
  have J0 := Lib.hid ((Keeps.start w).alloc #[.int .i64 p, .int .i64 q] 24)
  obtain ⟨s0, s1, _, _⟩ := J0.out.head.two
  have K1 := Lib.hid (fun W => bag_check (some ⟨g, 0, none⟩) p q hp hq W)
  rw [if_neg (by simp)] at K1
  have HB := Lib.hid hb
  by_cases hok : okP (p, q)
  · rw [if_pos hok]
    have hl := hno.resolve_left (fun h => h hok)
    rw [bcE_ok hok] at K1
    rw [hl] at HB
    clear hno hl hb
    go_enter Try.func25, Try.ntmps25
    go_wp2_with fail
    refine (K1.out _).mono ?_
    rintro e w1 ⟨rfl, b1⟩
    have J1 := Lib.hid (J0.out.below b1)
    clear b1
    obtain ⟨x0, x1, _, _⟩ := (HB.out.below J1.out.2.1 HB.out.lt).two
    go_wp2
    go_ret
    exact HR.out 3 _ J1.out.2.1
  · rw [if_neg hok]
    rw [bcE_no hok] at K1
    clear hno hb
    go_enter Try.func25, Try.ntmps25
    go_wp2_with fail
    refine (K1.out _).mono ?_
    rintro e w1 ⟨rfl, b1⟩
    have J1 := Lib.hid (J0.out.below b1)
    clear b1
    go_wp2
    go_ret
    exact HR.out 130 _ J1.out.2.1
set_option maxRecDepth 100000 in
set_option maxHeartbeats 4000000 in
theorem bag_add (O : List Nat) (g : Nat) (l : List PQ) (p q : Int) (w : World) (h : BagAt w O g l) (hok : okP (p, q)) (hl : l.length < 4096) :
    Calls Try.prog 25 #[.pointer (some ⟨g, 0, none⟩), .agg #[.int .i64 p, .int .i64 q]] w fun e w' => ∃ k, CutQ (fun x => byB x.1 x.2 p q) l k ∧ BgR w O g 0 (insS l k (p, q)) e w' := by
  have HH := Lib.hid h
  obtain ⟨gB, c, bs, hO, hb, hB, hgn, hOk, hfl, hU, -⟩ := h
  obtain ⟨hp, hq⟩ := okP_I64 hok
  have J0 := Lib.hid ((Keeps.start w).alloc #[.int .i64 p, .int .i64 q] 24)
  obtain ⟨s0, s1, _, _⟩ := J0.out.head.two
  have K1 := Lib.hid (fun W => bag_check (some ⟨g, 0, none⟩) p q hp hq W)
  rw [if_neg (by simp), bcE_ok hok] at K1
  have HB := Lib.hid hb
  have HOK := Lib.hid hok
  have hfew := hOk.few
  rw [hfl] at hfew
  have HBK := Lib.hid hB
  have HIN := Lib.hid (show O = g :: memB gB bs ∧ g ∉ memB gB bs ∧ OkL bs ∧ flat bs = l ∧ UpS l ∧ bs.length ≤ 4097 ∧ bs.length ≤ c ∧ l.length < 4096 from ⟨hO, hgn, hOk, hfl, hU, by omega, hB.cap, hl⟩)
  obtain ⟨N, hN⟩ : ∃ N, N = l.length := ⟨_, rfl⟩
  obtain ⟨nb, hnb⟩ : ∃ nb, nb = bs.length := ⟨_, rfl⟩
  rw [← hN, ← hnb] at HB
  have hN1 : ¬ ((N : Int) = 4096) := by omega
  have hwN : IntKind.i64.wrap ((N : Int) + 1) = ((N + 1 : Nat) : Int) := by rw [IntKind.wrap_i64]; omega
  have HN := Lib.hid hN
  have HNB := Lib.hid hnb
  clear hO hb hB hgn hOk hfl hU hfew hl hN hnb
  go_enter Try.func25, Try.ntmps25
  go_wp2_with fail
  refine (K1.out _).mono ?_
  rintro e w1 ⟨rfl, b1⟩
  have J1 := Lib.hid (J0.out.below b1)
  clear b1 s0 s1
  obtain ⟨x0, x1, f0, f1⟩ := (HB.out.below J1.out.2.1 HB.out.lt).two
  obtain ⟨s0, s1, _, _⟩ := J1.out.head.two
  go_upto_region 6 with fail
  have J2 := Lib.hid (J1.out.alloc #[.int .i64 p, .int .i64 q] 24)
  obtain ⟨x2, x3, _, _⟩ := (HB.out.below J2.out.2.1 HB.out.lt).two
  have KF : Hid (∀ W : World, Below (w1.heap.size + 1) (w1.alloc (.cells #[.int .i64 p, .int .i64 q] 24)) W → Calls Try.prog 88 #[.slice (some ⟨gB, 0, none⟩) nb c, .func (.func 145) #[] #[.pointer (some ⟨w1.heap.size, 0, none⟩)]] W fun e w' => ∃ d r : Nat, e = .returned (.tuple #[.int .i64 d, .int .i64 r]) ∧ Hid ((d < bs.length ∧ r ≤ lnA bs d ∧ CutQ (fun x => byB x.1 x.2 p q) l (sumA bs d + r)) ∧ Below w1.heap.size w1 w')) := fun W hbW => by
    have hJ := J2.out.below (by simp only [alloc_size']; exact hbW)
    obtain ⟨-, -, hOk, hfl, hU, -, hcap, hl⟩ := HIN.out
    have hOB := hOk.okB (by rw [hfl]; omega)
    have hM := hU.mono2 HOK.out
    have hM' : MonoQ (fun x => byB x.1 x.2 p q) (flat bs) := by rw [hfl]; exact hM
    have hsz := hbW.size
    rw [alloc_size'] at hsz
    have hlies := (HBK.out.below hJ.2.1).lies
    rw [HNB.out]
    refine (bag_find gB c 145 W.heap.size _ (fun x => byB x.1 x.2 p q) bs W (enters_of Try.func145 (by kernel_rfl) rfl) (Nat.le_refl _) hlies hOB (bag_tells p q hp hq w1.heap.size _ W hJ.head (by omega)) (hM'.m1 hOB) hM'.m2).mono ?_
    rintro e w' ⟨d, r, rfl, hd, hr, F1, T1, F2, T2, hb'⟩
    have hcq := CutQ.of hM' hOB hd hr F1 T1 F2 T2
    rw [hfl] at hcq
    refine ⟨d, r, rfl, ⟨hd, hr, hcq⟩, ?_⟩
    exact ((Below.refl _ w1).alloc (Nat.le_refl _) _).trans ((hbW.mono (by omega)).trans (hb'.mono (by omega)))
  go_cut [6, 7] from 18 to 28 (fun a b wx => ∃ d r : Nat, a = .int .i64 d ∧ b = .int .i64 r ∧ Hid ((d < bs.length ∧ r ≤ lnA bs d ∧ CutQ (fun x => byB x.1 x.2 p q) l (sumA bs d + r)) ∧ Below w1.heap.size w1 wx))
  case first =>
    go_wp2_with fail
    go_region_with (first
      | (go_at_call 85; refine (bag_beyond p q _).mono ?_; rintro e w2 ⟨rfl, rfl⟩)
      | (go_at_call 88; refine (KF.out _ ?_).mono ?_; (first | exact Below.refl _ _ | exact (Below.refl _ _).drew | exact below_drewN (Below.refl _ _) _); rintro e w3 ⟨d, r, rfl, HDR⟩))
    all_goals
      go_wp2_with fail
      simp only [Act.put, List.getElem_toArray, List.getElem_cons_succ, List.getElem_cons_zero, List.setIfInBounds_toArray, List.set_cons_succ, List.set_cons_zero]
      go_meet
      exact ⟨d, r, rfl, rfl, HDR⟩
  case rest =>
  obtain ⟨d, r, rfl, rfl, HDR⟩ := hcut
  have J3 := Lib.hid (J1.out.below HDR.out.2)
  clear x0 x1 f0 f1 s0 s1 x2 x3
  obtain ⟨s0, s1, _, _⟩ := J3.out.head.two
  have HB3 := Lib.hid (HB.out.below J3.out.2.1 HB.out.lt)
  obtain ⟨y0, y1, g0, g1⟩ := HB3.out.two
  have KP : Hid (∀ W : World, Below wc.heap.size wc W → Calls Try.prog 89 #[.slice (some ⟨gB, 0, none⟩) nb c, .int .i64 d, .int .i64 r, .agg #[.int .i64 p, .int .i64 q]] W fun e w' => ∃ g' c' n' : Nat, e = .returned (.slice (some ⟨g', 0, none⟩) n' c') ∧ (w'.cell? ⟨g, 0, none⟩ = some (.slice (some ⟨gB, 0, none⟩) nb c) ∧ w'.frozen? ⟨g, 0, none⟩ = false) ∧
      Hid (∃ bs', n' = bs'.length ∧ BksAt w' g' c' bs' ∧ WrS O w w' ∧ (∀ x ∈ memB g' bs', x ∈ memB gB bs ∨ w.heap.size ≤ x) ∧ Box w' g #[.slice (some ⟨gB, 0, none⟩) nb c, .int .i64 N] 126 ∧ flat bs' = insS l (sumA bs d + r) (p, q) ∧ OkL bs')) := fun W hW => by
    obtain ⟨hO, hgn, hOk, hfl, hU, hlen, hcap, hl⟩ := HIN.out
    obtain ⟨⟨hd, hr, hcq⟩, hbw⟩ := HDR.out
    have hbW : Below w.heap.size w W := J3.out.2.1.trans (hW.mono J3.out.2.1.size)
    have K := put_bag gB c bs d r g p q _ _ _ W (HBK.out.below hbW) hgn hOk hd hr (by omega) HOK.out (HB.out.below hbW HB.out.lt)
    rw [← HNB.out] at K
    refine K.mono ?_
    rintro e w' ⟨g', c', bs', rfl, h1, h2, h3, h4, h5, h6⟩
    refine ⟨g', c', bs'.length, rfl, ⟨(h4.cell 0).trans rfl, h4.free 0⟩, bs', rfl, h1, (WrS.of O hbW).trans h2 fun x hx => Or.inl (by rw [hO]; exact List.mem_cons_of_mem _ hx), fun x hx => (h3 x hx).imp id fun h => by have := hbW.size; omega, h4, by rw [h5, hfl], h6⟩
  go_upto_region 7 with fail
  go_cut [4] from 29 to 39 (fun v wx => ∃ (g' c' n' : Nat) (W5 : World), v = .int .i64 0 ∧ wx = W5.setCell ⟨g, 0, none⟩ (.slice (some ⟨g', 0, none⟩) n' c') ∧
      Hid (∃ bs', n' = bs'.length ∧ BksAt W5 g' c' bs' ∧ WrS O w W5 ∧ (∀ x ∈ memB g' bs', x ∈ memB gB bs ∨ w.heap.size ≤ x) ∧ Box W5 g #[.slice (some ⟨gB, 0, none⟩) nb c, .int .i64 N] 126 ∧ flat bs' = insS l (sumA bs d + r) (p, q) ∧ OkL bs'))
  case first =>
    go_wp2_with fail
    go_region_with (first
      | (go_at_call 89; refine (KP.out _ ?_).mono ?_; (first | exact Below.refl _ _ | exact (Below.refl _ _).drew | exact below_drewN (Below.refl _ _) _); rintro e w5 ⟨g', c', n', rfl, ⟨z0, z1⟩, HQ⟩))
    all_goals
      go_wp2_with fail
      go_meet
      exact ⟨g', c', n', _, rfl, rfl, HQ⟩
  case rest =>
  obtain ⟨g', c', n', W5, rfl, rfl, HQ⟩ := hcut
  have HZ : Hid (Box (W5.setCell ⟨g, 0, none⟩ (.slice (some ⟨g', 0, none⟩) n' c')) g #[.slice (some ⟨g', 0, none⟩) n' c', .int .i64 N] 126) := by
    obtain ⟨bs', -, -, -, -, hbx, -⟩ := HQ.out
    exact hbx.set 0 _
  obtain ⟨z0, z1, h0, h1⟩ := HZ.out.two
  clear y0 y1 g0 g1 s0 s1
  generalize hW6 : W5.setCell ⟨g, 0, none⟩ (.slice (some ⟨g', 0, none⟩) n' c') = W6 at *
  have HW6 := Lib.hid hW6
  clear hW6
  go_wp2
  go_ret
  obtain ⟨bs', hn', h2, h3, h4, h5, h6, h7⟩ := HQ.out
  obtain ⟨hO, hgn, hOk, hfl, hU, hlen, hcap, hl⟩ := HIN.out
  obtain ⟨⟨hd, hr, hcq⟩, hbw⟩ := HDR.out
  have hgl := HB.out.lt
  have hgn' : g ∉ memB g' bs' := fun hx => by
    rcases h4 g hx with k | k
    · exact hgn k
    · omega
  have hkeep : ∀ x ∈ memB g' bs', ((W6.setCell ⟨g, 1, none⟩ (.int .i64 (N + 1 : Nat))).heap[x]? = W5.heap[x]?) := fun x hx => by
    have hne : x ≠ g := fun e => hgn' (by rw [← e]; exact hx)
    rw [← HW6.out]
    exact (Below.heap_setCell _ _ _ _ hne).trans (Below.heap_setCell _ _ _ _ hne)
  refine ⟨sumA bs d + r, hcq, rfl, g :: memB g' bs', ⟨g', c', bs', rfl, ?_, h2.keep hkeep, hgn', h7, h6, hU.ins HOK.out hcq, ?_⟩, ?_, ?_⟩
  · have := HZ.out.set 1 (.int .i64 (N + 1 : Nat))
    rw [hn'] at this
    rw [insS_len l _ (p, q) hcq.le, ← HN.out]
    exact this
  · rw [insS_len l _ (p, q) hcq.le]; omega
  · rw [← HW6.out]
    exact (h3.trans (WrS.cell O _ g 0 _ (by rw [hO]; simp)) fun x hx => Or.inl hx).trans (WrS.cell O _ g 1 _ (by rw [hO]; simp)) fun x hx => Or.inl hx
  · intro x hx
    rcases List.mem_cons.1 hx with rfl | hx
    · exact Or.inl (by rw [hO]; simp)
    · exact (h4 x hx).imp (fun k => by rw [hO]; exact List.mem_cons_of_mem _ k) id
end Go.Proofs.Ytaeodkpkgbjaeaa

/-! Layer 18 (bag): Drop. -/
namespace Go.Proofs.Ytaeodkpkgbjaeaa
open Go.RowKit
set_option linter.unusedVariables false
set_option linter.unusedSimpArgs false

set_option maxRecDepth 100000 in
set_option maxHeartbeats 4000000 in
theorem bag_drop_no (O : List Nat) (g : Nat) (l : List PQ) (p q : Int) (hp : I64 p) (hq : I64 q) (w : World) (h : BagAt w O g l) (hok : ¬ okP (p, q)) :
    Calls Try.prog 27 #[.pointer (some ⟨g, 0, none⟩), .agg #[.int .i64 p, .int .i64 q]] w (BgR w O g 130 l) := by
  have HR : Hid (∀ x w', Below w.heap.size w w' → BgR w O g x l (.returned (.int .i64 x)) w') := fun x w' hb => BgR.same h hb
  obtain ⟨gB, c, bs, -, hb, -⟩ := h
  have J0 := Lib.hid ((Keeps.start w).alloc #[.int .i64 p, .int .i64 q] 24)
  obtain ⟨s0, s1, _, _⟩ := J0.out.head.two
  have K1 := Lib.hid (fun W => bag_check (some ⟨g, 0, none⟩) p q hp hq W)
  rw [if_neg (by simp)] at K1
  have HB := Lib.hid hb
  · rw [bcE_no hok] at K1
    clear hb
    go_enter Try.func27, Try.ntmps27
    go_wp2_with fail
    refine (K1.out _).mono ?_
    rintro e w1 ⟨rfl, b1⟩
    have J1 := Lib.hid (J0.out.below b1)
    clear b1
    go_wp2
    go_ret
    exact HR.out 130 _ J1.out.2.1
set_option maxRecDepth 100000 in
set_option maxHeartbeats 4000000 in
theorem bag_drop (O : List Nat) (g : Nat) (l : List PQ) (p q : Int) (w : World) (h : BagAt w O g l) (hok : okP (p, q)) :
    Calls Try.prog 27 #[.pointer (some ⟨g, 0, none⟩), .agg #[.int .i64 p, .int .i64 q]] w fun e w' => ∃ k, CutQ (fun x => byB x.1 x.2 p q) l k ∧ ((0 < k ∧ l.getD (k - 1) pq0 = (p, q) ∧ BgR w O g 0 (l.eraseIdx (k - 1)) e w') ∨ ((k = 0 ∨ l.getD (k - 1) pq0 ≠ (p, q)) ∧ BgR w O g 4 l e w')) := by
  have HH := Lib.hid h
  obtain ⟨gB, c, bs, hO, hb, hB, hgn, hOk, hfl, hU, hl⟩ := h
  obtain ⟨hp, hq⟩ := okP_I64 hok
  have J0 := Lib.hid ((Keeps.start w).alloc #[.int .i64 p, .int .i64 q] 24)
  obtain ⟨s0, s1, _, _⟩ := J0.out.head.two
  have K1 := Lib.hid (fun W => bag_check (some ⟨g, 0, none⟩) p q hp hq W)
  rw [if_neg (by simp), bcE_ok hok] at K1
  have HB := Lib.hid hb
  have HOK := Lib.hid hok
  have hfew := hOk.few
  rw [hfl] at hfew
  have HBK := Lib.hid hB
  have HIN := Lib.hid (show O = g :: memB gB bs ∧ g ∉ memB gB bs ∧ OkL bs ∧ flat bs = l ∧ UpS l ∧ bs.length ≤ 4097 ∧ bs.length ≤ c ∧ l.length ≤ 4096 from ⟨hO, hgn, hOk, hfl, hU, by omega, hB.cap, hl⟩)
  obtain ⟨N, hN⟩ : ∃ N, N = l.length := ⟨_, rfl⟩
  obtain ⟨nb, hnb⟩ : ∃ nb, nb = bs.length := ⟨_, rfl⟩
  rw [← hN, ← hnb] at HB
  have hwN : IntKind.i64.wrap ((N : Int) - 1) = (N : Int) - 1 := by rw [IntKind.wrap_i64]; omega
  have HN := Lib.hid hN
  have HNB := Lib.hid hnb
  clear hO hb hB hgn hOk hfl hU hfew hl hN hnb
  go_enter Try.func27, Try.ntmps27
  go_wp2_with fail
  refine (K1.out _).mono ?_
  rintro e w1 ⟨rfl, b1⟩
  have J1 := Lib.hid (J0.out.below b1)
  clear b1 s0 s1
  obtain ⟨x0, x1, f0, f1⟩ := (HB.out.below J1.out.2.1 HB.out.lt).two
  obtain ⟨s0, s1, _, _⟩ := J1.out.head.two
  go_upto_region 4 with fail
  have J2 := Lib.hid (J1.out.alloc #[.int .i64 p, .int .i64 q] 24)
  obtain ⟨x2, x3, _, _⟩ := (HB.out.below J2.out.2.1 HB.out.lt).two
  have KF : Hid (∀ W : World, Below (w1.heap.size + 1) (w1.alloc (.cells #[.int .i64 p, .int .i64 q] 24)) W → Calls Try.prog 88 #[.slice (some ⟨gB, 0, none⟩) nb c, .func (.func 145) #[] #[.pointer (some ⟨w1.heap.size, 0, none⟩)]] W fun e w' => ∃ d r : Nat, e = .returned (.tuple #[.int .i64 d, .int .i64 r]) ∧ Hid ((d < bs.length ∧ r ≤ lnA bs d ∧ CutQ (fun x => byB x.1 x.2 p q) l (sumA bs d + r) ∧ (r = 0 → d = 0)) ∧ Below w1.heap.size w1 w')) := fun W hbW => by
    have hJ := J2.out.below (by simp only [alloc_size']; exact hbW)
    obtain ⟨-, -, hOk, hfl, hU, -, hcap, hl⟩ := HIN.out
    have hOB := hOk.okB (by rw [hfl]; omega)
    have hM := hU.mono2 HOK.out
    have hM' : MonoQ (fun x => byB x.1 x.2 p q) (flat bs) := by rw [hfl]; exact hM
    have hsz := hbW.size
    rw [alloc_size'] at hsz
    have hlies := (HBK.out.below hJ.2.1).lies
    rw [HNB.out]
    refine (bag_find gB c 145 W.heap.size _ (fun x => byB x.1 x.2 p q) bs W (enters_of Try.func145 (by kernel_rfl) rfl) (Nat.le_refl _) hlies hOB (bag_tells p q hp hq w1.heap.size _ W hJ.head (by omega)) (hM'.m1 hOB) hM'.m2).mono ?_
    rintro e w' ⟨d, r, rfl, hd, hr, F1, T1, F2, T2, hb'⟩
    have hcq := CutQ.of hM' hOB hd hr F1 T1 F2 T2
    rw [hfl] at hcq
    refine ⟨d, r, rfl, ⟨hd, hr, hcq, fun h0 => ?_⟩, ?_⟩
    · rcases Nat.eq_zero_or_pos d with g | g
      · exact g
      · have f := F1 (d - 1) (by omega)
        rw [show d - 1 + 1 = d by omega] at f
        rw [T2 0 (by omega) (hOB.full d g hd)] at f
        cases f
    exact ((Below.refl _ w1).alloc (Nat.le_refl _) _).trans ((hbW.mono (by omega)).trans (hb'.mono (by omega)))
  go_cut [6, 7] from 14 to 23 (fun a b wx => ∃ d r : Nat, a = .int .i64 d ∧ b = .int .i64 r ∧ Hid ((d < bs.length ∧ r ≤ lnA bs d ∧ CutQ (fun x => byB x.1 x.2 p q) l (sumA bs d + r) ∧ (r = 0 → d = 0)) ∧ Below w1.heap.size w1 wx))
  case first =>
    go_wp2_with fail
    go_region_with (first
      | (go_at_call 85; refine (bag_beyond p q _).mono ?_; rintro e w2 ⟨rfl, rfl⟩)
      | (go_at_call 88; refine (KF.out _ ?_).mono ?_; (first | exact Below.refl _ _ | exact (Below.refl _ _).drew | exact below_drewN (Below.refl _ _) _); rintro e w3 ⟨d, r, rfl, HDR⟩))
    all_goals
      go_wp2_with fail
      simp only [Act.put, List.getElem_toArray, List.getElem_cons_succ, List.getElem_cons_zero, List.setIfInBounds_toArray, List.set_cons_succ, List.set_cons_zero]
      go_meet
      exact ⟨d, r, rfl, rfl, HDR⟩
  case rest =>
  obtain ⟨d, r, rfl, rfl, HDR⟩ := hcut
  have J3 := Lib.hid (J1.out.below HDR.out.2)
  clear x0 x1 f0 f1 s0 s1 x2 x3
  obtain ⟨s0, s1, _, _⟩ := J3.out.head.two
  have HB3 := Lib.hid (HB.out.below J3.out.2.1 HB.out.lt)
  obtain ⟨y0, y1, g0, g1⟩ := HB3.out.two
  have HSAME : Hid (∀ W, Below wc.heap.size wc W → BgR w O g 4 l (.returned (.int .i64 4)) W) := fun W hW => BgR.same HH.out (J3.out.2.1.trans (hW.mono J3.out.2.1.size))
  go_upto_region 5 with fail
  by_cases hr0 : r = 0
  · subst hr0
    have q0 : (((0 : Nat) : Int) == 0) = true := rfl
    go_quiet (fail)
    go_wp2
    go_ret
    obtain ⟨⟨hd, hr, hcq, hd0⟩, hbw⟩ := HDR.out
    obtain rfl := hd0 (by first | rfl | trivial)
    exact ⟨_, hcq, Or.inr ⟨Or.inl rfl, HSAME.out _ (by first | exact (Below.refl _ _).drew | exact below_drewN (Below.refl _ _) _)⟩⟩
  · have q0 : ((r : Int) == 0) = false := by simp; omega
    obtain ⟨r1, hr1⟩ : ∃ r1, r1 + 1 = r := ⟨r - 1, by omega⟩
    have hwr1 : IntKind.i64.wrap ((r : Int) - 1) = (r1 : Int) := by
      have hr64 : r ≤ 64 := by
        obtain ⟨⟨hd, hr, -⟩, -⟩ := HDR.out
        have := (HIN.out.2.2.1.okB (by rw [HIN.out.2.2.2.1]; have := HIN.out.2.2.2.2.2.2.2; omega)).room d hd
        omega
      rw [IntKind.wrap_i64]; omega
    have hL := (HBK.out.below J3.out.2.1).lies
    have hdb := HDR.out.1.1
    have c1 := hL.hd d hdb
    obtain ⟨e0, e1⟩ := hL.score hdb (j := r1) (by have := HDR.out.1.2.1; unfold lnA at this; omega)
    have hfa := (flat_at bs d r1 hdb (by have := HDR.out.1.2.1; omega)).1
    rw [HIN.out.2.2.2.1, show sumA bs d + r1 = sumA bs d + r - 1 by omega] at hfa
    have HE : Hid (l.getD (sumA bs d + r - 1) pq0 = (((bs.getD d bk0).2.getD r1 pq0).1, ((bs.getD d bk0).2.getD r1 pq0).2)) := hfa
    have k1 : (d : Int) < (nb : Int) := by rw [HNB.out]; omega
    have k2 : (r1 : Int) < ((bs.getD d bk0).2.length : Int) := by have := HDR.out.1.2.1; unfold lnA at this; omega
    unfold blkV at c1
    have k3 : nb ≤ c := by rw [HNB.out]; exact HIN.out.2.2.2.2.2.2.1
    have HKR : Hid (r1 + 1 = r) := hr1
    clear hL hdb hfa hr1
    generalize ((bs.getD d bk0).2.getD r1 pq0).1 = a0 at *
    generalize ((bs.getD d bk0).2.getD r1 pq0).2 = b0 at *
    generalize (bs.getD d bk0).2.length = ln at *
    generalize (bs.getD d bk0).1 = gb at *
    by_cases hab : a0 = p ∧ b0 = q
    · obtain ⟨rfl, rfl⟩ := hab
      go_quiet (fail)
      generalize hnq : wc.drewN _ = W
      obtain ⟨hBq, z0, z1, h0, h1⟩ : Below wc.heap.size wc W ∧ W.cell? ⟨g, 0, none⟩ = some (.slice (some ⟨gB, 0, none⟩) nb c) ∧ W.cell? ⟨g, 1, none⟩ = some (.int .i64 N) ∧ W.frozen? ⟨g, 0, none⟩ = false ∧ W.frozen? ⟨g, 1, none⟩ = false := by rw [← hnq]; exact ⟨below_drewN (Below.refl _ _) _, y0, y1, g0, g1⟩
      have HBq := Lib.hid hBq
      clear hnq hBq y0 y1 g0 g1 e0 e1 c1 s0 s1 k1 k2 k3
      have KC : Hid (Calls Try.prog 91 #[.slice (some ⟨gB, 0, none⟩) nb c, .int .i64 d, .int .i64 r1] W fun e w' => ∃ g' c' n' : Nat, e = .returned (.slice (some ⟨g', 0, none⟩) n' c') ∧ (w'.cell? ⟨g, 0, none⟩ = some (.slice (some ⟨gB, 0, none⟩) nb c) ∧ w'.frozen? ⟨g, 0, none⟩ = false) ∧
          Hid (∃ bs', n' = bs'.length ∧ BksAt w' g' c' bs' ∧ WrS O w w' ∧ (∀ x ∈ memB g' bs', x ∈ memB gB bs ∨ w.heap.size ≤ x) ∧ Box w' g #[.slice (some ⟨gB, 0, none⟩) nb c, .int .i64 N] 126 ∧ flat bs' = l.eraseIdx (sumA bs d + r - 1) ∧ OkL bs')) := by
        obtain ⟨hO, hgn, hOk, hfl, hU, hlen, hcap, hl⟩ := HIN.out
        obtain ⟨⟨hd, hr, hcq, -⟩, hbw⟩ := HDR.out
        have hbW : Below w.heap.size w W := J3.out.2.1.trans (HBq.out.mono J3.out.2.1.size)
        have hkr := HKR.out
        have K := cut_bag gB c bs d r1 g _ _ _ W (HBK.out.below hbW) hgn hOk hd (by omega) (by omega) (HB.out.below hbW HB.out.lt)
        rw [← HNB.out] at K
        refine K.mono ?_
        rintro e w' ⟨g', c', bs', rfl, h1, h2, h3, h4, h5, h6⟩
        refine ⟨g', c', bs'.length, rfl, ⟨(h4.cell 0).trans rfl, h4.free 0⟩, bs', rfl, h1, (WrS.of O hbW).trans h2 fun x hx => Or.inl (by rw [hO]; exact List.mem_cons_of_mem _ hx), fun x hx => (h3 x hx).imp id fun h => by have := hbW.size; omega, h4, by rw [h5, hfl]; congr 1; omega, h6⟩
      go_wp2_with fail
      refine KC.out.mono ?_
      rintro e W5 ⟨g', c', n', rfl, ⟨t0, t1⟩, HQ⟩
      have HZ : Hid (Box (W5.setCell ⟨g, 0, none⟩ (.slice (some ⟨g', 0, none⟩) n' c')) g #[.slice (some ⟨g', 0, none⟩) n' c', .int .i64 N] 126) := by
        obtain ⟨bs', -, -, -, -, hbx, -⟩ := HQ.out
        exact hbx.set 0 _
      obtain ⟨v0, v1, o0, o1⟩ := HZ.out.two
      clear z0 z1 h0 h1
      go_wp2
      go_ret
      obtain ⟨bs', hn', h2, h3, h4, h5, h6, h7⟩ := HQ.out
      obtain ⟨hO, hgn, hOk, hfl, hU, hlen, hcap, hl⟩ := HIN.out
      obtain ⟨⟨hd, hr, hcq, -⟩, hbw⟩ := HDR.out
      have hgl := HB.out.lt
      have hcl := hcq.le
      have hle : (l.eraseIdx (sumA bs d + r - 1)).length = N - 1 := by rw [List.length_eraseIdx_of_lt (by omega), HN.out]
      have hgn' : g ∉ memB g' bs' := fun hx => by
        rcases h4 g hx with k | k
        · exact hgn k
        · omega
      have hkeep : ∀ u, ∀ x ∈ memB g' bs', (((W5.setCell ⟨g, 0, none⟩ (.slice (some ⟨g', 0, none⟩) n' c')).setCell ⟨g, 1, none⟩ u).heap[x]? = W5.heap[x]?) := fun u x hx => by
        have hne : x ≠ g := fun e => hgn' (by rw [← e]; exact hx)
        exact (Below.heap_setCell _ _ _ _ hne).trans (Below.heap_setCell _ _ _ _ hne)
      refine ⟨sumA bs d + r, hcq, Or.inl ⟨by omega, HE.out, rfl, g :: memB g' bs', ⟨g', c', bs', rfl, ?_, h2.keep (hkeep _), hgn', h7, h6, hU.del _, ?_⟩, ?_, ?_⟩⟩
      · have := HZ.out.set 1 (.int .i64 ((N : Int) - 1))
        rw [hn'] at this
        rw [hle, show (((N - 1 : Nat)) : Int) = (N : Int) - 1 by have := HN.out; omega]
        rw [hn']
        exact this
      · rw [hle]; have := HN.out; omega
      · exact (h3.trans (WrS.cell O _ g 0 _ (by rw [hO]; simp)) fun x hx => Or.inl hx).trans (WrS.cell O _ g 1 _ (by rw [hO]; simp)) fun x hx => Or.inl hx
      · intro x hx
        rcases List.mem_cons.1 hx with rfl | hx
        · exact Or.inl (by rw [hO]; simp)
        · exact (h4 x hx).imp (fun k => by rw [hO]; exact List.mem_cons_of_mem _ k) id
    · have HNO : Hid (l.getD (sumA bs d + r - 1) pq0 ≠ (p, q)) := by
        show _ ≠ _
        rw [HE.out]
        intro e
        exact hab ⟨congrArg Prod.fst e, congrArg Prod.snd e⟩
      have key : (¬ a0 = p) ∨ (a0 = p ∧ ¬ b0 = q) := by omega
      clear hab
      rcases key with h1 | ⟨rfl, h1⟩
      all_goals
        go_quiet (fail)
        go_wp2
        go_ret
        exact ⟨_, HDR.out.1.2.2.1, Or.inr ⟨Or.inr HNO.out, HSAME.out _ (by first | exact (Below.refl _ _).drew | exact below_drewN (Below.refl _ _) _)⟩⟩
end Go.Proofs.Ytaeodkpkgbjaeaa

/-! Layer 18 (bag): slices.Grow of nil and slices.Concat at scores; All. -/
namespace Go.Proofs.Ytaeodkpkgbjaeaa
open Go.RowKit
set_option linter.unusedVariables false
set_option linter.unusedSimpArgs false

set_option maxRecDepth 100000 in
set_option maxHeartbeats 2000000 in
theorem sl_GrowS (n : Nat) (hn : n ≤ 1000000) (w : World) : Calls Try.prog 143 #[.slice none 0 0, .int .i64 (n : Int)] w fun e w' => (∃ v, e = .returned v ∧ OwnS w' w.heap.size v []) ∧ Below w.heap.size w w' := by
  by_cases h0 : n = 0
  · subst h0
    go_enter Try.func143, Try.ntmps143
    go_wp2
    go_ret
    exact ⟨⟨_, rfl, ⟨rfl, .inl ⟨rfl, rfl⟩⟩⟩, Below.refl _ _⟩
  · have hng : (0 : Int) < (n : Int) := by omega
    obtain ⟨i0, hi, hz0, hz1, hz2⟩ := info_parts3 info_sc
    have hr := Lib.run_append_nil_zeros (P := Try.prog) w 28 3 28 24 i0 (.agg #[.int .i64 0, .int .i64 0]) .i64 .i64 Try.underlying28 Try.underlying3 hi hz0 n (by omega) (by rw [hz1]; omega) (by omega) (by rw [hz2]; omega)
    have hge := grownCap_ge w n 0 24
    have hcm : grownCap w n 0 24 ≤ maxLen := grownCap_le_maxLen w n 0 24 (by unfold maxLen; omega)
    have hsz : (Builtin.zeroCells (Value.agg #[.int .i64 0, .int .i64 0]).cells n ++ Builtin.zeroCells (Value.agg #[.int .i64 0, .int .i64 0]).cells (grownCap w n 0 24 - n)).size = grownCap w n 0 24 * 2 := by
      simp only [Array.size_append, size_zeroCells]
      show n * 2 + (grownCap w n 0 24 - n) * 2 = _
      omega
    have HBL := Lib.hid (((Below.refl w.heap.size w).drew).alloc (o := .cells (Builtin.zeroCells (Value.agg #[.int .i64 0, .int .i64 0]).cells n ++ Builtin.zeroCells (Value.agg #[.int .i64 0, .int .i64 0]).cells (grownCap w n 0 24 - n)) 24) (Nat.le_refl _))
    have HNB := Lib.hid (Box.new w.drew (Builtin.zeroCells (Value.agg #[.int .i64 0, .int .i64 0]).cells n ++ Builtin.zeroCells (Value.agg #[.int .i64 0, .int .i64 0]).cells (grownCap w n 0 24 - n)) 24)
    generalize Builtin.zeroCells (Value.agg #[.int .i64 0, .int .i64 0]).cells n ++ Builtin.zeroCells (Value.agg #[.int .i64 0, .int .i64 0]).cells (grownCap w n 0 24 - n) = cur at *
    generalize grownCap w n 0 24 = cap at *
    have HR := Lib.hid hr
    have hcapg : (0 : Int) ≤ (cap : Int) := by omega
    clear hr
    go_enter Try.func143, Try.ntmps143
    go_wp2_with (at_builtin; refine Lib.wpList_append_run _ rfl (.tmp 20) (.tmp 21) _ _ rfl _ _ rfl rfl _ _ HR.out ?_)
    go_wp2
    go_ret
    refine ⟨⟨_, rfl, rfl, .inr ⟨w.heap.size, cap, cur, rfl, Nat.le_refl _, HNB.out, by simp, hcm, hsz, ?_⟩⟩, HBL.out⟩
    simp [celS]
theorem flat_take (bs : List Blk) (k : Nat) (hk : k < bs.length) : flat (bs.take (k + 1)) = flat (bs.take k) ++ (bs.getD k bk0).2 := by
  have e : bs.getD k bk0 = bs[k] := by simp [List.getElem?_eq_getElem hk]
  have e2 : bs.take (k + 1) = bs.take k ++ [bs[k]] := by rw [List.take_add_one, List.getElem?_eq_getElem hk]; rfl
  rw [e2, flat_app, e]
  congr 1
  simp [flat]
theorem flat_take_le (bs : List Blk) (k : Nat) : (flat (bs.take k)).length ≤ (flat bs).length := by
  conv => rhs; rw [← List.take_append_drop k bs, flat_app, List.length_append]
  omega
set_option maxRecDepth 100000 in
set_option maxHeartbeats 4000000 in
theorem sl_ConcatS (bs : List Blk) (gB c : Nat) (w : World) (hL : LiesB w w.heap.size gB bs) (hl : (flat bs).length ≤ 100000) (hm : bs.length ≤ 1000000) :
    Calls Try.prog 83 #[.slice (some ⟨gB, 0, none⟩) bs.length c] w fun e w' => (∃ v, e = .returned v ∧ OwnS w' w.heap.size v (flat bs)) ∧ Below w.heap.size w w' := by
  have HR := Lib.hid hL
  have HST := Lib.hid (flat_take bs)
  have HLE := Lib.hid (flat_take_le bs)
  have HT : Hid (flat (bs.take bs.length) = flat bs) := by show _ = _; rw [List.take_length]
  have HLF := Lib.hid hl
  clear hL
  generalize hM : bs.length = M at *
  have HM := Lib.hid hM
  clear hM
  go_enter Try.func83, Try.ntmps83
  go_wp2
  go_loop [3, 5, 11] (fun sv _ iv => ∃ (i m : Nat), sv = .int .i64 (m : Nat) ∧ iv = .int .i64 (i : Nat) ∧ i ≤ M ∧ Hid (m = (flat (bs.take i)).length)) (fun _ _ iv => M - (intOf iv).toNat)
  case atStart => exact ⟨0, 0, rfl, rfl, Nat.zero_le _, (by show 0 = _; rw [List.take_zero]; rfl)⟩
  case round =>
    obtain ⟨i, m, rfl, rfl, hi, HE⟩ := hrel
    have hm0 : m ≤ 1000000 := by have h1 := HE.out; have h2 := HLE.out i; have h3 := HLF.out; omega
    by_cases h0 : i < M
    · have hig : (i : Int) < (M : Int) := by omega
      have hc := HR.out.hd i (by rw [HM.out]; exact h0)
      unfold blkV at hc
      have HE2 : Hid (m + (bs.getD i bk0).2.length = (flat (bs.take (i + 1))).length) := by
        show _ = _
        rw [HST.out i h0, List.length_append, ← HE.out]
      have hm2 : m + (bs.getD i bk0).2.length ≤ 1000000 := by have h1 := HE2.out; have h2 := HLE.out (i + 1); have h3 := HLF.out; omega
      have hmg : ¬ (m : Int) + ((bs.getD i bk0).2.length : Int) < 0 := by omega
      clear HE
      generalize (bs.getD i bk0).2.length = q at *
      generalize (bs.getD i bk0).1 = gb at *
      go_wp2
      exact ⟨⟨i + 1, m + q, by go_num, by go_num, by omega, HE2⟩, by simp [intOf]; omega⟩
    · have hiM : M = i := by omega
      subst hiM
      have HE2 : Hid (m = (flat bs).length) := by show _ = _; rw [HE.out, HT.out]
      have KG := Lib.hid (sl_GrowS m (by omega) w)
      clear HE
      go_wp2_with fail
      refine (KG.out).mono ?_
      rintro e w1 ⟨⟨v0, rfl, g1⟩, g2⟩
      have HO1 := Lib.hid g1
      have HB1 := Lib.hid g2
      clear g1 g2 KG
      go_wp2
      go_loopw [6, 8, 27] (fun vv _ iv wr => ∃ (i : Nat), iv = .int .i64 (i : Nat) ∧ i ≤ M ∧ Hid (OwnS wr w.heap.size vv (flat (bs.take i))) ∧ Hid (Below w.heap.size w wr)) (fun _ _ iv _ => M - (intOf iv).toNat)
      case atStart => exact ⟨0, rfl, Nat.zero_le _, (by have := HO1.out; rw [List.take_zero]; exact this), HB1⟩
      case round =>
        obtain ⟨i, rfl, hi, HO, HB⟩ := hrel
        by_cases h0 : i < M
        · have hig : (i : Int) < (M : Int) := by omega
          have hLw := HR.out.below HB.out
          have hcw := hLw.hd i (by rw [HM.out]; exact h0)
          unfold blkV at hcw
          have HAw := Lib.hid (hLw.sc i (by rw [HM.out]; exact h0))
          have h2 := HLE.out (i + 1)
          have h3 := HLF.out
          have hln : (flat (bs.take i)).length + (bs.getD i bk0).2.length ≤ 1000000 := by
            rw [HST.out i h0, List.length_append] at h2; omega
          have HST2 := Lib.hid (HST.out i h0)
          clear h2 h3 hLw
          generalize hQ : (bs.getD i bk0).2 = Q at *
          generalize (bs.getD i bk0).1 = gb at *
          generalize hq : Q.length = q at *
          have HQ := Lib.hid hq
          have HLN := Lib.hid hln
          generalize hT : flat (bs.take i) = T at *
          clear hq hln hQ
          go_wp2_with (at_builtin; refine app_rowL (B := w.heap.size) rfl (.tmp 31) (.tmp 32) rfl _ T Q ⟨gb, 0, none⟩ 64 q rfl rfl HQ.out HO.out HAw.out HB.out.size HLN.out ?_; intro v3 w3 g1 g2; have HO3 := Lib.hid g1; have HB3 := Lib.hid (HB.out.trans g2); clear g1 g2)
          exact ⟨⟨i + 1, by go_num, by omega, by show OwnS _ _ _ _; rw [HST2.out]; exact HO3.out, HB3⟩, by simp [intOf]; omega⟩
        · have hiM : M = i := by omega
          subst hiM
          have HO4 := HO.out
          rw [HT.out] at HO4
          have HO5 := Lib.hid HO4
          clear HO4
          go_wp2
          go_ret
          exact ⟨⟨_, rfl, HO5.out⟩, HB.out⟩
set_option maxRecDepth 100000 in
set_option maxHeartbeats 4000000 in
theorem bag_all (O : List Nat) (g : Nat) (l : List PQ) (w : World) (h : BagAt w O g l) :
    Calls Try.prog 21 #[.pointer (some ⟨g, 0, none⟩)] w fun e w' => (∃ v, e = .returned v ∧ OwnS w' w.heap.size v l) ∧ Below w.heap.size w w' := by
  obtain ⟨gB, c, bs, hO, hb, hB, hgn, hOk, hfl, hU, hl⟩ := h
  have hfew := hOk.few
  rw [hfl] at hfew
  have K := Lib.hid (sl_ConcatS bs gB c w hB.lies (by rw [hfl]; omega) (by omega))
  rw [hfl] at K
  obtain ⟨x0, x1, _, _⟩ := hb.two
  generalize bs.length = n at *
  clear hB hb hOk hU
  go_enter Try.func21, Try.ntmps21
  go_wp2_with fail
  refine K.out.mono ?_
  rintro e w1 ⟨⟨v, rfl, h1⟩, h2⟩
  have H1 := Lib.hid h1
  have H2 := Lib.hid h2
  clear h1 h2
  go_wp2
  go_ret
  exact ⟨⟨v, rfl, H1.out⟩, H2.out⟩
end Go.Proofs.Ytaeodkpkgbjaeaa

/-! Layer 18 (bag): New; Add, Drop, Rank, Kth of anything. -/
namespace Go.Proofs.Ytaeodkpkgbjaeaa
open Go.RowKit
set_option linter.unusedVariables false
set_option linter.unusedSimpArgs false

set_option maxRecDepth 100000 in
set_option maxHeartbeats 4000000 in
theorem bag_block_nil (w : World) :
    Calls Try.prog 80 #[.slice none 0 0] w fun e w' => e = .returned (.slice (some ⟨w.heap.size, 0, none⟩) 0 64) ∧ BlkAt w' (w.heap.size, []) ∧ Below w.heap.size w w' ∧ w'.heap.size = w.heap.size + 1 := by
  obtain ⟨i0, hi0, hz0, hz1, hz2⟩ := info_parts3 info_sc
  obtain ⟨cs, hcs, hmk⟩ := run_make64 w 0 (by omega)
  have HM := Lib.hid hmk
  have hbx : Box (w.alloc (.cells cs.toArray 24)) w.heap.size cs.toArray 24 := Box.new _ _ _
  have HC := Lib.hid (run_copy_nil (P := Try.prog) (w.alloc (.cells cs.toArray 24)) 28 28 3 24 ⟨w.heap.size, 0, none⟩ 0 64 Try.underlying28 (by rw [hi0]; rfl))
  have HB := Lib.hid hbx
  have hcast : ((0 : Nat) : Int) = 0 := rfl
  rw [hcast] at HM
  clear hmk hbx
  go_enter Try.func80, Try.ntmps80
  go_wp2_with fail
  rw [HM.out]
  go_wp2_with fail
  rw [HC.out]
  go_wp2
  go_ret
  exact ⟨rfl, ⟨cs, by simpa [celS] using hcs, by simpa [celS] using HB.out⟩, (Below.refl _ _).alloc (Nat.le_refl _) _, by simp⟩
set_option maxRecDepth 100000 in
set_option maxHeartbeats 4000000 in
theorem bag_new (w : World) :
    Calls Try.prog 16 #[] w fun e w' => ∃ g O, e = .returned (.pointer (some ⟨g, 0, none⟩)) ∧ BagAt w' O g [] ∧ Below w.heap.size w w' ∧ ∀ x ∈ O, w.heap.size ≤ x := by
  have K := Lib.hid (bag_block_nil w)
  go_enter Try.func16, Try.ntmps16
  go_wp2_with fail
  refine K.out.mono ?_
  rintro e w1 ⟨rfl, h1, h2, h3⟩
  have H1 := Lib.hid h1
  have H2 := Lib.hid h2
  have H3 := Lib.hid h3
  clear h1 h2 h3
  go_wp2
  go_ret
  have hsz : (w1.alloc (.cells #[.slice (some ⟨w.heap.size, 0, none⟩) 0 64] 28)).heap.size = w1.heap.size + 1 := by simp
  have h3 := H3.out
  have b1 := Box.new w1 #[.slice (some ⟨w.heap.size, 0, none⟩) 0 64] 28
  have b2 := Box.new (w1.alloc (.cells #[.slice (some ⟨w.heap.size, 0, none⟩) 0 64] 28)) #[.slice (some ⟨w1.heap.size, 0, none⟩) 1 1, .int .i64 0] 126
  rw [hsz] at b2
  have b1' := b1.alloc (.cells #[.slice (some ⟨w1.heap.size, 0, none⟩) 1 1, .int .i64 0] 126)
  have hB2 : Below w1.heap.size w1 ((w1.alloc (.cells #[.slice (some ⟨w.heap.size, 0, none⟩) 0 64] 28)).alloc (.cells #[.slice (some ⟨w1.heap.size, 0, none⟩) 1 1, .int .i64 0] 126)) := ((Below.refl _ _).alloc (Nat.le_refl _) _).alloc (by simp) _
  refine ⟨w1.heap.size + 1, (w1.heap.size + 1) :: memB w1.heap.size [(w.heap.size, [])], rfl, ⟨w1.heap.size, 1, [(w.heap.size, [])], rfl, b2, ⟨⟨[], 28, rfl, by unfold maxLen; omega, b1'⟩, ?_, ?_⟩, ?_, ?_, rfl, UpS.nil, by simp⟩, H2.out.trans (hB2.mono (by omega)), ?_⟩
  · intro b hb
    rw [List.mem_singleton] at hb
    subst hb
    exact H1.out.keep (hB2.block _ (by show w.heap.size < _; omega))
  · unfold memB; simp; omega
  · unfold memB; simp; omega
  · exact ⟨by simp, by simp, by simp, by simp⟩
  · intro x hx
    unfold memB at hx
    simp at hx
    rcases hx with rfl | rfl | rfl <;> omega
/-- how many are not odder than s -/
def posK (l : List PQ) (s : PQ) : Nat := l.countP fun x => !byB x.1 x.2 s.1 s.2
def addE (l : List PQ) (s : PQ) : Int := if okP s then (if l.length = 4096 then 3 else 0) else 130
def addL (l : List PQ) (s : PQ) : List PQ := if okP s ∧ l.length < 4096 then insS l (posK l s) s else l
def dropE (l : List PQ) (s : PQ) : Int := if okP s then (if s ∈ l then 0 else 4) else 130
def dropL (l : List PQ) (s : PQ) : List PQ := if okP s ∧ s ∈ l then l.eraseIdx (posK l s - 1) else l
theorem bag_Add (O : List Nat) (g : Nat) (l : List PQ) (p q : Int) (hp : I64 p) (hq : I64 q) (w : World) (h : BagAt w O g l) :
    Calls Try.prog 25 #[.pointer (some ⟨g, 0, none⟩), .agg #[.int .i64 p, .int .i64 q]] w (BgR w O g (addE l (p, q)) (addL l (p, q))) := by
  have hl : l.length ≤ 4096 := by obtain ⟨_, _, _, _, _, _, _, _, _, _, h⟩ := h; exact h
  by_cases hok : okP (p, q)
  · by_cases h4 : l.length = 4096
    · have e1 : addE l (p, q) = 3 := by unfold addE; rw [if_pos hok, if_pos h4]
      have e2 : addL l (p, q) = l := by unfold addL; rw [if_neg (by omega)]
      rw [e1, e2]
      have := bag_add_no O g l p q hp hq w h (Or.inr h4)
      rwa [if_pos hok] at this
    · have e1 : addE l (p, q) = 0 := by unfold addE; rw [if_pos hok, if_neg h4]
      have e2 : addL l (p, q) = insS l (posK l (p, q)) (p, q) := by unfold addL; rw [if_pos ⟨hok, by omega⟩]
      rw [e1, e2]
      refine (bag_add O g l p q w h hok (by omega)).mono ?_
      rintro e w' ⟨k, hk, hR⟩
      have : posK l (p, q) = k := hk.count
      rw [this]; exact hR
  · have e1 : addE l (p, q) = 130 := by unfold addE; rw [if_neg hok]
    have e2 : addL l (p, q) = l := by unfold addL; rw [if_neg (fun h => hok h.1)]
    rw [e1, e2]
    have := bag_add_no O g l p q hp hq w h (Or.inl hok)
    rwa [if_neg hok] at this
theorem getD_memS {l : List PQ} {i : Nat} (h : i < l.length) : l.getD i pq0 ∈ l := by
  have e : l.getD i pq0 = l[i] := by simp [List.getElem?_eq_getElem h]
  rw [e]; exact List.getElem_mem h
theorem bag_Drop (O : List Nat) (g : Nat) (l : List PQ) (p q : Int) (hp : I64 p) (hq : I64 q) (w : World) (h : BagAt w O g l) :
    Calls Try.prog 27 #[.pointer (some ⟨g, 0, none⟩), .agg #[.int .i64 p, .int .i64 q]] w (BgR w O g (dropE l (p, q)) (dropL l (p, q))) := by
  have hU : UpS l := by obtain ⟨_, _, _, _, _, _, _, _, _, h, _⟩ := h; exact h
  by_cases hok : okP (p, q)
  · refine (bag_drop O g l p q w h hok).mono ?_
    rintro e w' ⟨k, hk, hR⟩
    have hpk : posK l (p, q) = k := hk.count
    rcases hR with ⟨h0, hq, hR⟩ | ⟨hno, hR⟩
    · have hm : (p, q) ∈ l := by rw [← hq]; exact getD_memS (by have := hk.le; omega)
      have e1 : dropE l (p, q) = 0 := by unfold dropE; rw [if_pos hok, if_pos hm]
      have e2 : dropL l (p, q) = l.eraseIdx (k - 1) := by unfold dropL; rw [if_pos ⟨hok, hm⟩, hpk]
      rw [e1, e2]; exact hR
    · have hm : ¬ (p, q) ∈ l := fun hm => by
        obtain ⟨i, hi, e⟩ := List.getElem_of_mem hm
        have e2 : l.getD i pq0 = (p, q) := by simp [List.getElem?_eq_getElem hi, e]
        obtain ⟨t1, t2⟩ := hU.there hok hk hi e2
        rcases hno with h0 | h0
        · omega
        · exact h0 (t2 (k - 1) (by omega) (Nat.le_refl _))
      have e1 : dropE l (p, q) = 4 := by unfold dropE; rw [if_pos hok, if_neg hm]
      have e2 : dropL l (p, q) = l := by unfold dropL; rw [if_neg (fun h => hm h.2)]
      rw [e1, e2]; exact hR
  · have e1 : dropE l (p, q) = 130 := by unfold dropE; rw [if_neg hok]
    have e2 : dropL l (p, q) = l := by unfold dropL; rw [if_neg (fun h => hok h.1)]
    rw [e1, e2]
    exact bag_drop_no O g l p q hp hq w h hok
def rkL (l : List PQ) (s : PQ) : Nat := if okP s then lessN l s else 0
def rkS (l : List PQ) (s : PQ) : Nat := if okP s then sameN l s else 0
def rkE (s : PQ) : Int := if okP s then 0 else 130
set_option maxRecDepth 100000 in
set_option maxHeartbeats 4000000 in
theorem bag_Rank (O : List Nat) (g : Nat) (l : List PQ) (p q : Int) (hp : I64 p) (hq : I64 q) (w : World) (h : BagAt w O g l) :
    Calls Try.prog 22 #[.pointer (some ⟨g, 0, none⟩), .agg #[.int .i64 p, .int .i64 q]] w fun e w' => e = .returned (.tuple #[.int .i64 (rkL l (p, q) : Nat), .int .i64 (rkS l (p, q) : Nat), .int .i64 (rkE (p, q))]) ∧ Below w.heap.size w w' := by
  obtain ⟨gB, c, bs, hO, hb, hB, hgn, hOk, hfl, hU, hl⟩ := h
  by_cases hok : okP (p, q)
  · unfold rkL rkS rkE
    rw [if_pos hok, if_pos hok, if_pos hok, ← hfl]
    exact bag_rank g gB c _ p q bs w hp hq hb hB.lies (hOk.okB (by rw [hfl]; omega)) hB.cap (by rw [hfl]; exact hU) (by rw [hfl]; omega) hok
  · unfold rkL rkS rkE
    rw [if_neg hok, if_neg hok, if_neg hok]
    have J0 := Lib.hid ((Keeps.start w).alloc #[.int .i64 p, .int .i64 q] 24)
    obtain ⟨s0, s1, _, _⟩ := J0.out.head.two
    have K1 := Lib.hid (fun W => bag_check (some ⟨g, 0, none⟩) p q hp hq W)
    rw [if_neg (by simp), bcE_no hok] at K1
    clear hb hB hOk hfl hU
    go_enter Try.func22, Try.ntmps22
    go_wp2_with fail
    refine (K1.out _).mono ?_
    rintro e w1 ⟨rfl, b1⟩
    have J1 := Lib.hid (J0.out.below b1)
    clear b1
    go_wp2
    refine bodyPost_ret (v := .tuple #[.int .i64 0, .int .i64 0, .int .i64 130]) ?_ rfl ⟨rfl, J1.out.2.1⟩
    simp [results, Try.results22, go_sem]
theorem bag_Kth (O : List Nat) (g : Nat) (l : List PQ) (k : Nat) (hk : k < l.length) (w : World) (h : BagAt w O g l) :
    Calls Try.prog 24 #[.pointer (some ⟨g, 0, none⟩), .int .i64 ((k : Int) + 1)] w fun e w' => e = .returned (.tuple #[.agg #[.int .i64 (l.getD k pq0).1, .int .i64 (l.getD k pq0).2], .int .i64 0]) ∧ Below w.heap.size w w' := by
  obtain ⟨gB, c, bs, hO, hb, hB, hgn, hOk, hfl, hU, hl⟩ := h
  have := bag_kth g gB c k _ bs w hb hB.lies (hOk.okB (by rw [hfl]; omega)) hB.cap (by rw [hfl]) (by rw [hfl]; omega) (by rw [hfl]; exact hk)
  rwa [hfl] at this
theorem bag_Kth_no (O : List Nat) (g : Nat) (l : List PQ) (k : Int) (hk : k < 1 ∨ (l.length : Int) < k) (w : World) (h : BagAt w O g l) :
    Calls Try.prog 24 #[.pointer (some ⟨g, 0, none⟩), .int .i64 k] w fun e w' => e = .returned (.tuple #[.agg #[.int .i64 0, .int .i64 0], .int .i64 1]) ∧ Below w.heap.size w w' := by
  obtain ⟨gB, c, bs, hO, hb, hB, hgn, hOk, hfl, hU, hl⟩ := h
  exact bag_kth_no g _ k _ w hb hk
theorem bag_Len (O : List Nat) (g : Nat) (l : List PQ) (w : World) (h : BagAt w O g l) :
    Calls Try.prog 19 #[.pointer (some ⟨g, 0, none⟩)] w fun e w' => e = .returned (.int .i64 (l.length : Nat)) ∧ w = w' := by
  obtain ⟨gB, c, bs, hO, hb, _⟩ := h
  exact bag_len g _ _ w hb
end Go.Proofs.Ytaeodkpkgbjaeaa

/-! Layer 18 (bag): lives. -/
namespace Go.Proofs.Ytaeodkpkgbjaeaa
open Go.RowKit
set_option linter.unusedVariables false
set_option linter.unusedSimpArgs false

/-- a bag of l beside boxes, in memory that is newer than w0 -/
def LvS (w0 : World) (g : Nat) (bx : List (Nat × Array Value)) (l : List PQ) (W : World) : Prop :=
  ∃ O, BagAt W O g l ∧ (∀ x ∈ bx, x.1 ∉ O ∧ Box W x.1 x.2 24) ∧ (∀ x ∈ O, w0.heap.size ≤ x) ∧ Below w0.heap.size w0 W
theorem LvS.below {w0 W W' : World} {g : Nat} {bx : List (Nat × Array Value)} {l : List PQ} (h : LvS w0 g bx l W) (hb : Below W.heap.size W W') : LvS w0 g bx l W' := by
  obtain ⟨O, h1, h2, h4, h5⟩ := h
  exact ⟨O, h1.below hb, fun x hx => ⟨(h2 x hx).1, (h2 x hx).2.below hb (h2 x hx).2.lt⟩, h4, h5.trans (hb.mono h5.size)⟩
theorem LvS.drew {w0 W : World} {g : Nat} {bx : List (Nat × Array Value)} {l : List PQ} (h : LvS w0 g bx l W) : LvS w0 g bx l W.drew := h.below (Below.refl _ _).drew
theorem LvS.drewN {w0 W : World} {g : Nat} {bx : List (Nat × Array Value)} {l : List PQ} (h : LvS w0 g bx l W) (k : Nat) : LvS w0 g bx l (W.drewN k) := h.below (below_drewN (Below.refl _ _) k)
theorem LvS.box {w0 W : World} {g gh : Nat} {cs : Array Value} {bx : List (Nat × Array Value)} {l : List PQ} (h : LvS w0 g bx l W) (hm : (gh, cs) ∈ bx) : Box W gh cs 24 := by
  obtain ⟨O, h1, h2, h4, h5⟩ := h
  exact (h2 _ hm).2
theorem LvS.cells {w0 W : World} {g gh : Nat} {a b : Value} {bx : List (Nat × Array Value)} {l : List PQ} (h : LvS w0 g ((gh, #[a, b]) :: bx) l W) : W.cell? ⟨gh, 0, none⟩ = some a ∧ W.cell? ⟨gh, 1, none⟩ = some b := by
  have := h.box (gh := gh) (cs := #[a, b]) (by simp)
  exact ⟨(this.cell 0).trans rfl, (this.cell 1).trans rfl⟩
/-- one box more -/
theorem LvS.more {w0 W : World} {g : Nat} {bx : List (Nat × Array Value)} {l : List PQ} (h : LvS w0 g bx l W) (cs : Array Value) : LvS w0 g (bx ++ [(W.heap.size, cs)]) l (W.alloc (.cells cs 24)) := by
  have hb : Below W.heap.size W (W.alloc (.cells cs 24)) := (Below.refl _ _).alloc (Nat.le_refl _) _
  obtain ⟨O, h1, h2, h4, h5⟩ := h
  refine ⟨O, h1.below hb, fun x hx => ?_, h4, h5.trans (hb.mono h5.size)⟩
  rcases List.mem_append.1 hx with g | g
  · exact ⟨(h2 x g).1, (h2 x g).2.below hb (h2 x g).2.lt⟩
  · rw [List.mem_singleton] at g
    subst g
    exact ⟨fun hx => by have := h1.lt _ hx; exact Nat.lt_irrefl _ this, Box.new _ _ _⟩
theorem LvS.of {w0 W W' : World} {g : Nat} {bx : List (Nat × Array Value)} {l l' : List PQ} {O : List Nat} {x : Int} {e : Ending} (h1 : BagAt W O g l) (h2 : ∀ x ∈ bx, x.1 ∉ O ∧ Box W x.1 x.2 24) (h4 : ∀ x ∈ O, w0.heap.size ≤ x) (h5 : Below w0.heap.size w0 W) (h : BgR W O g x l' e W') : e = .returned (.int .i64 x) ∧ LvS w0 g bx l' W' := by
  obtain ⟨he, O', k1, k2, k3⟩ := h
  refine ⟨he, O', k1, fun y hy => ⟨fun hx => ?_, k2.box (h2 y hy).2 (h2 y hy).1⟩, fun x hx => ?_, h5.trans (k2.low _ h5.size h4)⟩
  · rcases k3 _ hx with g | g
    · exact (h2 y hy).1 g
    · have := (h2 y hy).2.lt; omega
  · rcases k3 _ hx with g | g
    · exact h4 x g
    · have := h5.size; omega
theorem lv_add (w0 : World) (g gh : Nat) (a b : Value) (bx : List (Nat × Array Value)) (l l' : List PQ) (p q x : Int) (hp : I64 p) (hq : I64 q) (hx : addE l (p, q) = x) (hl : addL l (p, q) = l') (W : World) (h : LvS w0 g ((gh, #[a, b]) :: bx) l W) :
    Calls Try.prog 25 #[.pointer (some ⟨g, 0, none⟩), .agg #[.int .i64 p, .int .i64 q]] W fun e w' => e = .returned (.int .i64 x) ∧ (w'.cell? ⟨gh, 0, none⟩ = some a ∧ w'.cell? ⟨gh, 1, none⟩ = some b) ∧ Hid (LvS w0 g ((gh, #[a, b]) :: bx) l' w') := by
  obtain ⟨O, h1, h2, h4, h5⟩ := h
  subst hx; subst hl
  refine (bag_Add O g l p q hp hq W h1).mono ?_
  rintro e w' hR
  obtain ⟨he, hL⟩ := LvS.of h1 h2 h4 h5 hR
  exact ⟨he, hL.cells, hL⟩
theorem lv_drop (w0 : World) (g : Nat) (bx : List (Nat × Array Value)) (l l' : List PQ) (p q x : Int) (hp : I64 p) (hq : I64 q) (hx : dropE l (p, q) = x) (hl : dropL l (p, q) = l') (W : World) (h : LvS w0 g bx l W) :
    Calls Try.prog 27 #[.pointer (some ⟨g, 0, none⟩), .agg #[.int .i64 p, .int .i64 q]] W fun e w' => e = .returned (.int .i64 x) ∧ Hid (LvS w0 g bx l' w') := by
  obtain ⟨O, h1, h2, h4, h5⟩ := h
  subst hx; subst hl
  refine (bag_Drop O g l p q hp hq W h1).mono ?_
  rintro e w' hR
  obtain ⟨he, hL⟩ := LvS.of h1 h2 h4 h5 hR
  exact ⟨he, hL⟩
theorem lv_e1 : addE [] (1, 2) = 0 ∧ addL [] (1, 2) = [(1, 2)] := by decide
theorem lv_e2 : addE [(1, 2)] (3, 1) = 0 ∧ addL [(1, 2)] (3, 1) = [(3, 1), (1, 2)] := by decide
theorem lv_e3 : addE [(3, 1), (1, 2)] (1, 2) = 0 ∧ addL [(3, 1), (1, 2)] (1, 2) = [(3, 1), (1, 2), (1, 2)] := by decide
theorem lv_e4 : dropE [(3, 1), (1, 2), (1, 2)] (1, 3) = 4 ∧ dropL [(3, 1), (1, 2), (1, 2)] (1, 3) = [(3, 1), (1, 2), (1, 2)] := by decide
theorem lv_e5 : rkL [(3, 1), (1, 2), (1, 2)] (1, 2) = 1 ∧ rkS [(3, 1), (1, 2), (1, 2)] (1, 2) = 2 ∧ rkE (1, 2) = 0 := by decide
set_option maxRecDepth 100000 in
theorem bag_add0 (p q : Int) (hp : I64 p) (hq : I64 q) (w : World) :
    Calls Try.prog 25 #[.pointer none, .agg #[.int .i64 p, .int .i64 q]] w fun e w' => e = .returned (.int .i64 7) ∧ Below w.heap.size w w' := by
  have J0 := Lib.hid ((Keeps.start w).alloc #[.int .i64 p, .int .i64 q] 24)
  obtain ⟨s0, s1, _, _⟩ := J0.out.head.two
  have K1 := Lib.hid (fun W => bag_check none p q hp hq W)
  rw [if_pos rfl] at K1
  go_enter Try.func25, Try.ntmps25
  go_wp2_with fail
  refine (K1.out _).mono ?_
  rintro e w1 ⟨rfl, b1⟩
  have J1 := Lib.hid (J0.out.below b1)
  clear b1
  go_wp2
  go_ret
  exact ⟨rfl, J1.out.2.1⟩
end Go.Proofs.Ytaeodkpkgbjaeaa
