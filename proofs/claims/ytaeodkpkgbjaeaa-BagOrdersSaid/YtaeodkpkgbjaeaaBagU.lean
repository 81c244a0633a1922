/- Layer 18 (bag): split. -/
import Derived.Test.YtaeodkpkgbjaeaaBagT
import Derived.Test.YtaeodkpkgbjaeaaBagP
import Derived.Test.YtaeodkpkgbjaeaaBagK
namespace Go.Proofs.Ytaeodkpkgbjaeaa
open Go.RowKit
set_option linter.unusedVariables false
set_option linter.unusedSimpArgs false

theorem bag_ins (bs : List Blk) (x : Blk) (gB c i vb : Nat) (TV : TypeId) (w : World) (hr : RowAt w gB c bs) (hi : i ≤ bs.length) (hn4 : bs.length ≤ 100000) (hv : Box w vb #[blkV x] TV) (hvb : vb ≠ gB) :
    Calls Try.prog 190 #[.slice (some ⟨gB, 0, none⟩) bs.length c, .int .i64 i, .slice (some ⟨vb, 0, none⟩) 1 1] w (InsR w gB (bs.take i ++ x :: bs.drop i)) := by
  obtain ⟨sp, T, hc, hm, hbx⟩ := hr
  rcases Nat.lt_or_ge i bs.length with h | h
  · by_cases hroom : bs.length + 1 ≤ c
    · exact ins_room bs x gB c bs.length i vb T TV sp w hbx rfl hc hm hn4 h hroom hv hvb
    · have hs : sp = [] := List.eq_nil_of_length_eq_zero (by omega)
      subst hs
      have e : c = bs.length := by simp at hc; omega
      subst e
      exact ins_grow bs x gB bs.length i vb T TV w (by rwa [List.append_nil] at hbx) rfl hn4 h hv
  · have e : i = bs.length := by omega
    subst e
    rw [List.take_length, List.drop_length]
    exact ins_end bs x gB c bs.length vb T TV sp w hbx rfl hc hm hn4 hv
/-- a result that is a row of blocks -/
def BkR (w : World) (gB : Nat) (bs bs' : List Blk) (e : Ending) (w' : World) : Prop :=
  ∃ g' c' : Nat, e = .returned (.slice (some ⟨g', 0, none⟩) bs'.length c') ∧ BksAt w' g' c' bs' ∧ WrS (memB gB bs) w w' ∧ ∀ x ∈ memB g' bs', x ∈ memB gB bs ∨ w.heap.size ≤ x
theorem RowAt.set {w : World} {gB c : Nat} {A C : List Blk} {b : Blk} (b' : Blk) (h : RowAt w gB c (A ++ b :: C)) : RowAt (w.setCell ⟨gB, A.length, none⟩ (blkV b')) gB c (A ++ b' :: C) := by
  obtain ⟨sp, T, h1, h2, h3⟩ := h
  refine ⟨sp, T, by simpa using h1, h2, ?_⟩
  have := h3.set A.length (blkV b')
  have e : ((A ++ b :: C).map blkV ++ sp).toArray.setIfInBounds A.length (blkV b') = ((A ++ b' :: C).map blkV ++ sp).toArray := by
    apply Array.ext'
    simp
  rwa [e] at this
theorem RowAt.free {w : World} {gB c : Nat} {bs : List Blk} (h : RowAt w gB c bs) (i : Nat) : w.frozen? ⟨gB, i, none⟩ = false := by
  obtain ⟨sp, T, h1, h2, h3⟩ := h; exact h3.free i
theorem RowAt.mid {w : World} {gB c : Nat} {A C : List Blk} {b : Blk} (h : RowAt w gB c (A ++ b :: C)) : w.cell? ⟨gB, A.length, none⟩ = some (blkV b) := by
  obtain ⟨sp, T, h1, h2, h3⟩ := h
  rw [h3.cell]
  simp
theorem BlkAt.take {w : World} {b : Blk} (h : BlkAt w b) (k : Nat) : BlkAt w (b.1, b.2.take k) := by
  obtain ⟨sp, h1, h2⟩ := h
  have e : celS b.2 ++ sp = celS (b.2.take k) ++ (celS (b.2.drop k) ++ sp) := by rw [← List.append_assoc, ← celS_app, List.take_append_drop]
  rw [e] at h1 h2
  exact ⟨_, h1, h2⟩
set_option maxRecDepth 100000 in
set_option maxHeartbeats 4000000 in
theorem bag_split (A C : List Blk) (b : Blk) (gB c d : Nat) (w : World) (h : BksAt w gB c (A ++ b :: C)) (hd : A.length = d) (hb : b.2.length = 64) (hn4 : (A ++ b :: C).length ≤ 90000) :
    Calls Try.prog 150 #[.slice (some ⟨gB, 0, none⟩) (A ++ b :: C).length c, .int .i64 d] w (BkR w gB (A ++ b :: C) (A ++ (b.1, b.2.take 32) :: (w.heap.size, b.2.drop 32) :: C)) := by
  have HH := Lib.hid h
  obtain ⟨hne, hne2⟩ := memB_ne h.nd
  have hcap := h.cap
  have c1 := h.row.mid
  rw [hd] at c1
  unfold blkV at c1
  rw [hb] at c1
  have K := Lib.hid (bag_block ⟨b.1, 64, none⟩ (b.2.drop 32) 32 32 w (by rw [List.length_drop, hb]) (by omega) (fun j v hv => by have := blk_from (h.blk b (by simp)) 32 j v hv; simpa using this))
  have hgB := h.row.lt
  obtain ⟨n, hn⟩ : ∃ n, n = (A ++ b :: C).length := ⟨_, rfl⟩
  rw [← hn] at hcap ⊢
  have hdn : (d : Int) < (n : Int) := by rw [hn]; simp; omega
  have HN := Lib.hid hn
  have HD := Lib.hid hd
  have hwd : IntKind.i64.wrap ((d : Int) + 1) = ((d + 1 : Nat) : Int) := by rw [IntKind.wrap_i64]; have : n ≤ 90000 := by rw [hn]; exact hn4
                                                                            omega
  obtain ⟨d1, hd1⟩ : ∃ d1, d1 = d + 1 := ⟨_, rfl⟩
  rw [← hd1] at hwd
  have HD1 := Lib.hid hd1
  have HN4 := Lib.hid hn4
  clear h hd1 hn hd hn4
  go_enter Try.func150, Try.ntmps150
  go_wp2_with fail
  refine K.out.mono ?_
  rintro e w1 ⟨rfl, hB1, hb1⟩
  have R1 := Lib.hid (HH.out.row.keep (hb1.block gB hgB))
  have c2 := R1.out.mid
  rw [HD.out] at c2
  unfold blkV at c2
  rw [hb] at c2
  have f2 := R1.out.free d
  have HB1 := Lib.hid hB1
  have Hb1 := Lib.hid hb1
  have R2 := Lib.hid (R1.out.set (b.1, b.2.take 32))
  rw [HD.out] at R2
  have hl32 : (b.2.take 32).length = 32 := by rw [List.length_take, hb]; rfl
  unfold blkV at R2
  simp only [hl32] at R2
  have hsz : (w1.setCell ⟨gB, d, none⟩ (.slice (some ⟨b.1, 0, none⟩) 32 64)).heap.size = w1.heap.size := by simp [World.setCell]
  have hnew := Box.new (w1.setCell ⟨gB, d, none⟩ (.slice (some ⟨b.1, 0, none⟩) 32 64)) #[.slice (some ⟨w.heap.size, 0, none⟩) 32 64] 28
  rw [hsz] at hnew
  have R3 := R2.out.keep (w' := (w1.setCell ⟨gB, d, none⟩ (.slice (some ⟨b.1, 0, none⟩) 32 64)).alloc (.cells #[.slice (some ⟨w.heap.size, 0, none⟩) 32 64] 28)) (Below.heap_alloc _ _ _ R2.out.lt)
  have hx : blkV (w.heap.size, b.2.drop 32) = .slice (some ⟨w.heap.size, 0, none⟩) 32 64 := by unfold blkV; simp only [List.length_drop, hb]
  have hgw : gB < w1.heap.size := Nat.lt_of_lt_of_le hgB hb1.size
  have K2 := bag_ins (A ++ (b.1, b.2.take 32) :: C) (w.heap.size, b.2.drop 32) gB c d1 w1.heap.size 28 _ R3 (by have := HN.out; have := HD1.out; have := HD.out; simp; omega) (by have := HN.out; have := HN4.out; simp at *; omega) (by rw [hx]; exact hnew) (by omega)
  have hln : (A ++ (b.1, b.2.take 32) :: C).length = n := by rw [HN.out]; simp
  have htd : (A ++ (b.1, b.2.take 32) :: C).take d1 ++ (w.heap.size, b.2.drop 32) :: (A ++ (b.1, b.2.take 32) :: C).drop d1 = A ++ (b.1, b.2.take 32) :: (w.heap.size, b.2.drop 32) :: C := by
    have e : A ++ (b.1, b.2.take 32) :: C = (A ++ [(b.1, b.2.take 32)]) ++ C := by simp
    have el : (A ++ [(b.1, b.2.take 32)]).length = d1 := by have := HD1.out; have := HD.out; simp; omega
    rw [e, ← el, List.take_left, List.drop_left]
    simp
  rw [hln, htd] at K2
  have HK2 := Lib.hid K2
  have hw2 : Hid (WrS [gB] w1 ((w1.setCell ⟨gB, d, none⟩ (.slice (some ⟨b.1, 0, none⟩) 32 64)).alloc (.cells #[.slice (some ⟨w.heap.size, 0, none⟩) 32 64] 28))) :=
    (WrS.cell [gB] w1 gB d _ (by simp)).trans (WrS.of [gB] ((Below.refl _ _).alloc (Nat.le_refl _) _)) fun x hx => Or.inl hx
  have hsz3 : Hid (w1.heap.size < ((w1.setCell ⟨gB, d, none⟩ (.slice (some ⟨b.1, 0, none⟩) 32 64)).alloc (.cells #[.slice (some ⟨w.heap.size, 0, none⟩) 32 64] 28)).heap.size) := by
    show _ < _
    rw [alloc_size', hsz]; omega
  clear hB1 hb1 K2 R3 hnew hx hln htd hsz
  go_wp2_with fail
  refine HK2.out.mono ?_
  rintro e w4 ⟨g', c', rfl, hrow, hwr, hg'⟩
  have HX : Hid (BkR w gB (A ++ b :: C) (A ++ (b.1, b.2.take 32) :: (w.heap.size, b.2.drop 32) :: C) (.returned (.slice (some ⟨g', 0, none⟩) (A ++ (b.1, b.2.take 32) :: (w.heap.size, b.2.drop 32) :: C).length c')) w4) := by
    have hb1 := Hb1.out
    have hH := HH.out
    have W14 : WrS [gB] w1 w4 := hw2.out.trans hwr fun x hx => Or.inl hx
    have W04 : WrS [gB] w w4 := (WrS.of [gB] hb1).trans W14 fun x hx => Or.inl hx
    have hs01 : w.heap.size < w1.heap.size := HB1.out.lt
    have hs3 := hsz3.out
    have hg2 : g' = gB ∨ w1.heap.size ≤ g' := hg'.imp id fun h => by omega
    have hold : ∀ y ∈ A ++ C, y.1 ≠ gB ∧ y.1 < w.heap.size := fun y hy => by
      refine ⟨(hne2 y.1 (List.mem_map.2 ⟨y, hy, rfl⟩)).2, ?_⟩
      refine (hH.blk y ?_).lt
      rcases List.mem_append.1 hy with g | g
      · exact List.mem_append_left _ g
      · exact List.mem_append_right _ (List.mem_cons_of_mem _ g)
    have hbl : b.1 < w.heap.size := (hH.blk b (by simp)).lt
    refine ⟨g', c', rfl, ⟨hrow, fun y hy => ?_, ?_⟩, ?_, ?_⟩
    · rcases List.mem_append.1 hy with g | g
      · have := hold y (List.mem_append_left _ g)
        exact (hH.blk y (List.mem_append_left _ g)).keep (W04.block y.1 this.2 (by simpa using this.1))
      · rcases List.mem_cons.1 g with rfl | g
        · exact ((hH.blk b (by simp)).take 32).keep (W04.block b.1 hbl (by simpa using Ne.symm hne))
        · rcases List.mem_cons.1 g with rfl | g
          · exact HB1.out.keep (W14.block w.heap.size hs01 (by simp; omega))
          · have := hold y (List.mem_append_right _ g)
            exact (hH.blk y (List.mem_append_right _ (List.mem_cons_of_mem _ g))).keep (W04.block y.1 this.2 (by simpa using this.1))
    · have hnd := hH.nd
      have hlt := hH.ltM
      unfold memB at *
      rw [List.nodup_cons] at hnd ⊢
      simp only [List.map_append, List.map_cons] at *
      have hfresh : ∀ z, z ∈ A.map (fun b => b.1) ++ b.1 :: C.map (fun b => b.1) → z < w.heap.size := fun z hz => hlt z (List.mem_cons_of_mem _ hz)
      refine ⟨fun hm => ?_, ?_⟩
      · have : g' = w.heap.size ∨ g' ∈ A.map (fun b => b.1) ++ b.1 :: C.map (fun b => b.1) := by
          simp only [List.mem_append, List.mem_cons] at hm ⊢
          rcases hm with h | h | h | h
          · exact Or.inr (Or.inl h)
          · exact Or.inr (Or.inr (Or.inl h))
          · exact Or.inl h
          · exact Or.inr (Or.inr (Or.inr h))
        rcases hg2 with rfl | h
        · rcases this with e | e
          · omega
          · exact hnd.1 e
        · rcases this with e | e
          · omega
          · have := hfresh _ e; omega
      · have h2 := hnd.2
        have : (w.heap.size :: (A.map (fun b => b.1) ++ b.1 :: C.map (fun b => b.1))).Nodup := List.nodup_cons.2 ⟨fun hm => Nat.lt_irrefl _ (hfresh _ hm), h2⟩
        refine this.perm ?_
        have p : (A.map (fun b => b.1) ++ b.1 :: w.heap.size :: C.map (fun b => b.1)) = (A.map (fun b => b.1) ++ [b.1]) ++ w.heap.size :: C.map (fun b => b.1) := by simp
        rw [p]
        have q : A.map (fun b => b.1) ++ b.1 :: C.map (fun b => b.1) = (A.map (fun b => b.1) ++ [b.1]) ++ C.map (fun b => b.1) := by simp
        rw [q]
        exact List.perm_middle.symm
    · exact ⟨W04.os, W04.tape, W04.output, W04.size, fun k hk hm => W04.block k hk fun hx => hm (by rw [List.mem_singleton.1 hx]; exact List.mem_cons_self)⟩
    · intro z hz
      unfold memB at hz ⊢
      simp only [List.map_append, List.map_cons, List.mem_cons, List.mem_append] at hz ⊢
      rcases hz with rfl | h | h | h | h
      · rcases hg2 with e | e
        · exact Or.inl (Or.inl e)
        · right; omega
      · exact Or.inl (Or.inr (Or.inl h))
      · exact Or.inl (Or.inr (Or.inr (Or.inl h)))
      · right; omega
      · exact Or.inl (Or.inr (Or.inr (Or.inr h)))
  clear hrow hwr hg'
  generalize (A ++ (b.1, b.2.take 32) :: (w.heap.size, b.2.drop 32) :: C).length = n2 at HX ⊢
  go_wp2
  go_ret
  exact HX.out
end Go.Proofs.Ytaeodkpkgbjaeaa
