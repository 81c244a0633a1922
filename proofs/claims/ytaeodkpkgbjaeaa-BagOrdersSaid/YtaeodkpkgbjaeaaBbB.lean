/- Layer 18 (bag): cut. -/
import Derived.Test.YtaeodkpkgbjaeaaBbA
namespace Go.Proofs.Ytaeodkpkgbjaeaa
open Go.RowKit
set_option linter.unusedVariables false
set_option linter.unusedSimpArgs false

theorem bag_join (bs : List Blk) (gB c : Nat) (k : Int) (w : World) (h : BksAt w gB c bs) (hm : ∀ b ∈ bs, b.2.length ≤ 64) (hki : -10 ≤ k ∧ k ≤ 1000000) (hn4 : bs.length ≤ 90000) :
    Calls Try.prog 153 #[.slice (some ⟨gB, 0, none⟩) bs.length c, .int .i64 k] w (JnR w gB bs k) := by
  by_cases hk : k < 0 ∨ (bs.length : Int) ≤ k + 1
  · exact bag_join_out bs gB c k w h hk hki
  · obtain ⟨d, rfl⟩ : ∃ d : Nat, k = (d : Int) := ⟨k.toNat, by omega⟩
    obtain ⟨A, b, C', rfl, hd⟩ := cut_at bs d (by omega)
    cases C' with
    | nil => simp at hk; omega
    | cons x C =>
      by_cases hf : b.2.length + x.2.length ≤ 64
      · exact bag_join_yes A C b x gB c d w h hd hf hn4
      · exact bag_join_full A C b x gB c d w h hd (by omega) ⟨hm b (by simp), hm x (by simp)⟩ hn4
/-- what cut gives -/
def CtR (w : World) (gB : Nat) (A C : List Blk) (b : Blk) (r : Nat) (e : Ending) (w' : World) : Prop :=
  ∃ bs', BkR w gB (A ++ b :: C) bs' e w' ∧ flat bs' = (flat (A ++ b :: C)).eraseIdx ((flat A).length + r) ∧ OkL bs'
theorem JoinR.room {bs bs' : List Blk} {k : Int} (h : JoinR bs k bs') (hm : ∀ b ∈ bs, b.2.length ≤ 64) : ∀ b ∈ bs', b.2.length ≤ 64 := by
  rcases h with ⟨rfl, _⟩ | ⟨A, b, x, C, rfl, _, hl, rfl⟩
  · exact hm
  · intro y hy
    rcases List.mem_append.1 hy with g | g
    · exact hm y (List.mem_append_left _ g)
    · rcases List.mem_cons.1 g with rfl | g
      · rw [List.length_append]; exact hl
      · exact hm y (List.mem_append_right _ (List.mem_cons_of_mem _ (List.mem_cons_of_mem _ g)))
theorem JoinR.len {bs bs' : List Blk} {k : Int} (h : JoinR bs k bs') : bs'.length ≤ bs.length := by
  rcases h with ⟨rfl, _⟩ | ⟨A, b, x, C, rfl, _, hl, rfl⟩
  · exact Nat.le_refl _
  · simp
set_option maxRecDepth 100000 in
set_option maxHeartbeats 4000000 in
theorem bag_cut (A C : List Blk) (b : Blk) (gB c d r : Nat) (w : World) (h : BksAt w gB c (A ++ b :: C)) (hO : OkL (A ++ b :: C)) (hd : A.length = d) (hr : r < b.2.length) (hn4 : (A ++ b :: C).length ≤ 90000) :
    Calls Try.prog 91 #[.slice (some ⟨gB, 0, none⟩) (A ++ b :: C).length c, .int .i64 d, .int .i64 r] w (CtR w gB A C b r) := by
  have HH := Lib.hid h
  have HO := Lib.hid hO
  obtain ⟨hne, hne2⟩ := memB_ne h.nd
  have hb64 := hO.room b (by simp)
  have hcap := h.cap
  have c1 := h.row.mid
  rw [hd] at c1
  unfold blkV at c1
  have hdn : (d : Int) < ((A ++ b :: C).length : Int) := by simp; omega
  obtain ⟨n, hn⟩ : ∃ n, n = (A ++ b :: C).length := ⟨_, rfl⟩
  obtain ⟨m, hm⟩ : ∃ m, m = b.2.length := ⟨_, rfl⟩
  obtain ⟨m1, hm1⟩ : ∃ m1, m1 = m - 1 := ⟨_, rfl⟩
  obtain ⟨r1, hr1⟩ : ∃ r1, r1 = r + 1 := ⟨_, rfl⟩
  rw [← hn] at hcap hdn ⊢
  rw [← hm] at c1 hr
  have hK := bag_delS b r r1 m w (h.blk b (by simp)) hm.symm hr hr1 (by omega)
  rw [← hm1] at hK
  have HK := Lib.hid hK
  have hwr1 : IntKind.i64.wrap ((r : Int) + 1) = (r1 : Int) := by rw [IntKind.wrap_i64]; omega
  have hwd : IntKind.i64.wrap ((d : Int) - 1) = (d : Int) - 1 := by rw [IntKind.wrap_i64]; omega
  have HN := Lib.hid hn
  have HM := Lib.hid (show m = b.2.length ∧ m1 = m - 1 from ⟨hm, hm1⟩)
  have HD := Lib.hid hd
  have HN4 := Lib.hid hn4
  have HR := Lib.hid hr
  clear h hO hn hm hm1 hr1 hd hn4 hK
  go_enter Try.func91, Try.ntmps91
  go_wp2_with fail
  refine HK.out.mono ?_
  rintro e W1 ⟨rfl, hblk, hwr⟩
  have hrow1 := HH.out.row.keep (hwr.block gB HH.out.row.lt (by simpa using hne))
  have c2 := hrow1.mid
  rw [HD.out] at c2
  unfold blkV at c2
  rw [← HM.out.1] at c2
  have f2 := hrow1.free d
  have hrow2 := hrow1.set (b.1, b.2.eraseIdx r)
  have hel : (b.2.eraseIdx r).length = m1 := by rw [List.length_eraseIdx_of_lt (by have := HM.out; have := HR.out; omega)]; have := HM.out; omega
  rw [HD.out] at hrow2
  have hv : blkV (b.1, b.2.eraseIdx r) = .slice (some ⟨b.1, 0, none⟩) m1 64 := by unfold blkV; simp only [hel]
  rw [hv] at hrow2
  have hB2 : BksAt (W1.setCell ⟨gB, d, none⟩ (.slice (some ⟨b.1, 0, none⟩) m1 64)) gB c (A ++ (b.1, b.2.eraseIdx r) :: C) := by
    refine HH.out.swap rfl hrow2 (hblk.keep (Below.heap_setCell _ _ _ _ (Ne.symm hne))) fun x hx => ?_
    obtain ⟨y, hy, rfl⟩ := List.mem_map.1 hx
    have h3 := hne2 y.1 hx
    have hym : y ∈ A ++ b :: C := by
      rcases List.mem_append.1 hy with g | g
      · exact List.mem_append_left _ g
      · exact List.mem_append_right _ (List.mem_cons_of_mem _ g)
    exact (Below.heap_setCell _ _ _ _ h3.2).trans (hwr.block y.1 (HH.out.blk y hym).lt (by simpa using h3.1))
  have hW2 : WrS (memB gB (A ++ b :: C)) w (W1.setCell ⟨gB, d, none⟩ (.slice (some ⟨b.1, 0, none⟩) m1 64)) :=
    (hwr.mono (G' := memB gB (A ++ b :: C)) (by intro y hy; rw [List.mem_singleton] at hy; subst hy; unfold memB; simp)).trans (WrS.cell (memB gB (A ++ b :: C)) _ gB d _ (by unfold memB; simp)) fun x hx => Or.inl hx
  have hm2 : ∀ y ∈ A ++ (b.1, b.2.eraseIdx r) :: C, y.2.length ≤ 64 := by
    intro y hy
    rcases List.mem_append.1 hy with g | g
    · exact HO.out.room y (List.mem_append_left _ g)
    · rcases List.mem_cons.1 g with rfl | g
      · show (b.2.eraseIdx r).length ≤ 64
        rw [hel]; have := HM.out; omega
      · exact HO.out.room y (List.mem_append_right _ (List.mem_cons_of_mem _ g))
  have hln : (A ++ (b.1, b.2.eraseIdx r) :: C).length = n := by rw [HN.out]; simp
  have K1 := bag_join (A ++ (b.1, b.2.eraseIdx r) :: C) gB c d _ hB2 hm2 (by have := HN4.out; have := HN.out; omega) (by rw [hln, HN.out]; exact HN4.out)
  rw [hln] at K1
  have HK1 := Lib.hid K1
  have HB2 := Lib.hid hB2
  have HW2 := Lib.hid hW2
  have HM2 := Lib.hid hm2
  have HLN := Lib.hid hln
  clear K1 hB2 hW2 hm2 hrow1 hrow2 hblk hwr hv hel hln
  go_wp2_with fail
  refine HK1.out.mono ?_
  rintro e W3 ⟨X, ⟨g', c', rfl, hbX, hwX, hnX⟩, hX⟩
  have K2 := bag_join X g' c' ((d : Int) - 1) W3 hbX (hX.room HM2.out) (by have := HN4.out; have := HN.out; omega) (by have := hX.len; have := HLN.out; have := HN4.out; have := HN.out; omega)
  have HK2 := Lib.hid K2
  have HX := Lib.hid hX
  have HWX := Lib.hid hwX
  have HNX := Lib.hid hnX
  clear K2 hX hwX hnX hbX
  generalize X.length = nX at *
  go_wp2_with fail
  refine HK2.out.mono ?_
  rintro e W4 ⟨Y, ⟨g4, c4, rfl, hbY, hwY, hnY⟩, hY⟩
  have hsz2 := HW2.out.size
  have hsz3 := HWX.out.size
  have em : memB gB (A ++ (b.1, b.2.eraseIdx r) :: C) = memB gB (A ++ b :: C) := memB_swap rfl
  have hX := HX.out
  have hwX := HWX.out
  have hnX := HNX.out
  rw [em] at hwX hnX
  have HF : Hid (CtR w gB A C b r (.returned (.slice (some ⟨g4, 0, none⟩) Y.length c4)) W4) := by
    refine ⟨Y, ⟨g4, c4, rfl, hbY, (HW2.out.trans hwX fun x hx => Or.inl hx).trans hwY fun x hx => ?_, fun x hx => ?_⟩, ?_, ?_⟩
    · rcases hnX x hx with g | g
      · exact Or.inl g
      · right; omega
    · rcases hnY x hx with g | g
      · rcases hnX x g with g | g
        · exact Or.inl g
        · right; omega
      · right; omega
    · rw [hY.flat, hX.flat]
      exact flat_cut (by have := HM.out; have := HR.out; omega)
    · refine HO.out.cut (b' := (b.1, b.2.eraseIdx r)) (X := X) (Y := Y) (HM2.out _ (by simp)) (fun x hx => ?_) (by rw [HD.out]; exact hX) (by rw [HD.out]; exact hY)
      exact HO.out.nums b (by simp) x (List.mem_of_mem_eraseIdx hx)
  generalize Y.length = nY at HF ⊢
  clear hbY hwY hnY hY hX hwX hnX em
  go_wp2
  go_ret
  exact HF.out
end Go.Proofs.Ytaeodkpkgbjaeaa
