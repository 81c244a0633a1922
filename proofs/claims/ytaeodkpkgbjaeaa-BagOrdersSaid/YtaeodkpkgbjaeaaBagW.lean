/- Layer 18 (bag): what put does to a block that has room. -/
import Derived.Test.YtaeodkpkgbjaeaaBagU
import Derived.Test.YtaeodkpkgbjaeaaBagL
namespace Go.Proofs.Ytaeodkpkgbjaeaa
open Go.RowKit
set_option linter.unusedVariables false
set_option linter.unusedSimpArgs false

theorem set_mid2 (A C : List Value) (a b x y : Value) (k : Nat) (hk : A.length = k) : ((A ++ a :: b :: C).set k x).set (k + 1) y = A ++ x :: y :: C := by
  subst hk
  rw [List.set_append_right _ _ (Nat.le_refl _), Nat.sub_self, List.set_cons_zero, List.set_append_right _ _ (by omega)]
  simp
theorem WrS.mono {G G' : List Nat} {w w' : World} (h : WrS G w w') (hG : ∀ x ∈ G, x ∈ G') : WrS G' w w' := ⟨h.os, h.tape, h.output, h.size, fun k hk hn => h.block k hk fun hx => hn (hG k hx)⟩
theorem celS_cons (x : PQ) (l : List PQ) : celS (x :: l) = .int .i64 x.1 :: .int .i64 x.2 :: celS l := rfl
theorem put_cells1 (l : List PQ) (sp : List Value) (m : Nat) (s : PQ) (hm : l.length = m) (hsp : 2 ≤ sp.length) : layL (celS l ++ sp) (0 + m * 2) [.int .i64 s.1, .int .i64 s.2] = celS (l ++ [s]) ++ sp.drop 2 := by
  obtain ⟨a, b, sp', rfl⟩ : ∃ a b sp', sp = a :: b :: sp' := by
    cases sp with
    | nil => simp at hsp
    | cons a t => cases t with
      | nil => simp at hsp
      | cons b t => exact ⟨a, b, t, rfl⟩
  rw [layL_mid' _ (celS l) [a, b] sp' [.int .i64 s.1, .int .i64 s.2] (0 + m * 2) (by simp) (by rw [celS_len]; omega) (by rfl), celS_app]
  rfl
theorem put_cells2 (l : List PQ) (sp : List Value) (m r : Nat) (s : PQ) (hm : l.length = m) (hr : r ≤ m) :
    ∃ (u0 u1 : Value), layL (celS (l ++ [s]) ++ sp) ((r + 1) * 2) (celS (l.drop r)) = celS (l.take r) ++ u0 :: u1 :: (celS (l.drop r) ++ sp) := by
  have hA : (celS (l.take r)).length = r * 2 := by rw [celS_len, List.length_take]; omega
  rcases Nat.lt_or_ge r m with h | h
  · have e : l ++ [s] = l.take r ++ (l.getD r pq0) :: (l.drop (r + 1) ++ [s]) := by
      have e2 : l.getD r pq0 = l[r]'(by omega) := by simp [List.getElem?_eq_getElem (show r < l.length by omega)]
      rw [e2, ← List.cons_append, ← List.drop_eq_getElem_cons (by omega), ← List.append_assoc, List.take_append_drop]
    refine ⟨.int .i64 (l.getD r pq0).1, .int .i64 (l.getD r pq0).2, ?_⟩
    rw [e, celS_app, celS_cons]
    rw [layL_mid' _ (celS (l.take r) ++ [.int .i64 (l.getD r pq0).1, .int .i64 (l.getD r pq0).2]) (celS (l.drop (r + 1) ++ [s])) sp (celS (l.drop r)) ((r + 1) * 2) (by simp) (by rw [List.length_append, hA]; simp; omega) (by rw [celS_len, celS_len]; simp; omega)]
    simp
  · have e0 : l.drop r = [] := List.drop_eq_nil_of_le (by omega)
    have e1 : l.take r = l := List.take_of_length_le (by omega)
    refine ⟨.int .i64 s.1, .int .i64 s.2, ?_⟩
    rw [e0, e1]
    show layL _ _ [] = _
    rw [layL_nil, celS_app]
    simp [celS]
theorem put_cells3 (l : List PQ) (sp : List Value) (r : Nat) (s : PQ) : celS (l.take r) ++ .int .i64 s.1 :: .int .i64 s.2 :: (celS (l.drop r) ++ sp) = celS (insS l r s) ++ sp := by
  unfold insS
  rw [celS_app, celS_app]
  simp [celS]
/-- the worlds that put goes through -/
abbrev pw1 (W : World) (p q : Int) : World := (W.alloc (.cells #[.int .i64 p, .int .i64 q] 24)).drew
theorem put_tail (W : World) (A C : List Blk) (b : Blk) (gB c d m r ws : Nat) (p q : Int) (h : BksAt W gB c (A ++ b :: C)) (hd : A.length = d) (hm : b.2.length = m) (h64 : m < 64) (hr : r ≤ m) (hs : Box W ws #[.int .i64 p, .int .i64 q] 24) (hws : ws ≠ gB ∧ ws ≠ b.1) :
    ∃ (L1 L2 : List Value) (o : Nat) (u0 u1 : Value),
      (∀ ty, (Builtin.append_ #[28, 28] ty #[.slice (some ⟨b.1, 0, none⟩) m 64, .slice (some ⟨W.heap.size, 0, none⟩) 1 1]).run Try.prog (pw1 W p q) = .ok (.slice (some ⟨b.1, 0, none⟩) (m + 1) 64) ((pw1 W p q).setRow b.1 L1.toArray)) ∧
      (if 64 = r + 1 then (some ⟨b.1, 0, none⟩ : Option Addr) else some ⟨b.1, (r + 1) * 2, none⟩) = some ⟨b.1, o, none⟩ ∧
      (∀ ty dc sc, (Builtin.copy_ #[28, 28] ty #[.slice (some ⟨b.1, o, none⟩) (m + 1 - (r + 1)) dc, .slice (some ⟨b.1, r * 2, none⟩) (m + 1 - r) sc]).run Try.prog (((pw1 W p q).setRow b.1 L1.toArray).drew) = .ok (goInt (m - r : Nat)) ((((pw1 W p q).setRow b.1 L1.toArray).drew).setRow b.1 L2.toArray)) ∧
      Box ((((pw1 W p q).setRow b.1 L1.toArray).drew).setRow b.1 L2.toArray) ws #[.int .i64 p, .int .i64 q] 24 ∧
      ((((pw1 W p q).setRow b.1 L1.toArray).drew).setRow b.1 L2.toArray).cell? ⟨b.1, r * 2, none⟩ = some u0 ∧ ((((pw1 W p q).setRow b.1 L1.toArray).drew).setRow b.1 L2.toArray).cell? ⟨b.1, r * 2 + 1, none⟩ = some u1 ∧
      (∀ i, ((((pw1 W p q).setRow b.1 L1.toArray).drew).setRow b.1 L2.toArray).frozen? ⟨b.1, i, none⟩ = false) ∧
      (((((pw1 W p q).setRow b.1 L1.toArray).drew).setRow b.1 L2.toArray).cell? ⟨gB, d, none⟩ = some (.slice (some ⟨b.1, 0, none⟩) m 64) ∧ (((((pw1 W p q).setRow b.1 L1.toArray).drew).setRow b.1 L2.toArray).frozen? ⟨gB, d, none⟩ = false)) ∧
      (∀ X : World, X = ((((((pw1 W p q).setRow b.1 L1.toArray).drew).setRow b.1 L2.toArray).setCell ⟨b.1, r * 2, none⟩ (.int .i64 p)).setCell ⟨b.1, r * 2 + 1, none⟩ (.int .i64 q)).setCell ⟨gB, d, none⟩ (.slice (some ⟨b.1, 0, none⟩) (m + 1) 64) →
        BksAt X gB c (A ++ (b.1, insS b.2 r (p, q)) :: C) ∧ WrS (memB gB (A ++ b :: C)) W X) := by
  obtain ⟨i0, hi0, hz0, hz1, hz2⟩ := info_parts3 info_sc
  obtain ⟨hne, hne2⟩ := memB_ne h.nd
  obtain ⟨sp, hsp, hbx⟩ := h.blk b (by simp)
  have hbl := hbx.lt
  rw [List.length_append, celS_len, hm] at hsp
  have hX1 : Below W.heap.size W (pw1 W p q) := ((Below.refl _ _).alloc (Nat.le_refl _) _).drew
  have hbx1 : Box (pw1 W p q) b.1 (celS b.2 ++ sp).toArray 24 := hbx.below hX1 hbl
  have hnew : Box (pw1 W p q) W.heap.size #[.int .i64 p, .int .i64 q] 24 := Box.new W _ _
  have hL0 : (celS b.2 ++ sp).length = 128 := by rw [List.length_append, celS_len, hm]; omega
  have e1 := put_cells1 b.2 sp m (p, q) hm (by omega)
  obtain ⟨u0, u1, e2⟩ := put_cells2 b.2 (sp.drop 2) m r (p, q) hm hr
  have hL1 : (celS (b.2 ++ [(p, q)]) ++ sp.drop 2).length = 128 := by rw [List.length_append, celS_len]; simp; omega
  have hbx2 : Box (((pw1 W p q).setRow b.1 (celS (b.2 ++ [(p, q)]) ++ sp.drop 2).toArray).drew) b.1 (celS (b.2 ++ [(p, q)]) ++ sp.drop 2).toArray 24 := setRow_heap _ _ _ _ _ _ hbx1
  have hbx3 := setRow_heap _ b.1 _ (celS (b.2.take r) ++ u0 :: u1 :: (celS (b.2.drop r) ++ sp.drop 2)).toArray _ _ hbx2
  have hA : (celS (b.2.take r)).length = r * 2 := by rw [celS_len, List.length_take]; omega
  have hW13 : WrS [b.1] W ((((pw1 W p q).setRow b.1 (celS (b.2 ++ [(p, q)]) ++ sp.drop 2).toArray).drew).setRow b.1 (celS (b.2.take r) ++ u0 :: u1 :: (celS (b.2.drop r) ++ sp.drop 2)).toArray) :=
    (((WrS.of [b.1] hX1).trans (WrS.row [b.1] _ b.1 _ (by simp)) fun x hx => Or.inl hx).trans (WrS.of [b.1] (Below.refl _ _).drew) fun x hx => Or.inl hx).trans (WrS.row [b.1] _ b.1 _ (by simp)) fun x hx => Or.inl hx
  have hrow3 : RowAt ((((pw1 W p q).setRow b.1 (celS (b.2 ++ [(p, q)]) ++ sp.drop 2).toArray).drew).setRow b.1 (celS (b.2.take r) ++ u0 :: u1 :: (celS (b.2.drop r) ++ sp.drop 2)).toArray) gB c (A ++ b :: C) := h.row.keep (hW13.block gB h.row.lt (by simpa using hne))
  have hsrc2 : ∀ j v, (celS (b.2.drop r))[j]? = some v → (((pw1 W p q).setRow b.1 (celS (b.2 ++ [(p, q)]) ++ sp.drop 2).toArray).drew).cell? ((⟨b.1, r * 2, none⟩ : Addr).add j) = some v := fun j v hj => by
    have hjl : j < (celS (b.2.drop r)).length := by
      rcases Nat.lt_or_ge j (celS (b.2.drop r)).length with g | g
      · exact g
      · rw [List.getElem?_eq_none g] at hj; cases hj
    rw [celS_len, List.length_drop] at hjl
    rw [Addr.add_lit, hbx2.cell]
    simp only [List.getElem?_toArray]
    rw [List.getElem?_append_left (by rw [celS_len]; simp; omega), celS_app, List.getElem?_append_left (by rw [celS_len]; omega), ← hj, ← celS_drop, List.getElem?_drop]
  refine ⟨celS (b.2 ++ [(p, q)]) ++ sp.drop 2, celS (b.2.take r) ++ u0 :: u1 :: (celS (b.2.drop r) ++ sp.drop 2), if 64 = r + 1 then 0 else (r + 1) * 2, u0, u1, ?_, ?_, ?_, ?_, ?_, ?_, ?_, ?_, ?_⟩
  · intro ty
    have hrun := run_app_k (P := Try.prog) (pw1 W p q) 28 ty 24 i0 2 Try.underlying28 hi0 hz1 b.1 0 m 64 ⟨W.heap.size, 0, none⟩ 1 1 (celS b.2 ++ sp) 24 [.int .i64 p, .int .i64 q] hbx1 rfl (fun j v hj => by rw [Addr.add_lit, Nat.zero_add, hnew.cell]; simpa using hj) (by omega) (by rw [hL0]; simp; omega) (by intro v hv; simp at hv; rcases hv with rfl | rfl <;> rfl)
    rw [e1] at hrun
    exact hrun
  · split <;> rfl
  · intro ty dc sc
    have hlen : (celS (b.2.drop r)).length = Nat.min (m + 1 - r) (m + 1 - (r + 1)) * 2 := by
      rw [celS_len, List.length_drop, hm]; simp only [Nat.min_def]; split <;> omega
    have hmin : Nat.min (m + 1 - r) (m + 1 - (r + 1)) = m - r := by simp only [Nat.min_def]; split <;> omega
    by_cases h64' : 64 = r + 1
    · rw [if_pos h64']
      have e0 : b.2.drop r = [] := List.drop_eq_nil_of_le (by omega)
      have hrun := run_copy_k (P := Try.prog) (((pw1 W p q).setRow b.1 (celS (b.2 ++ [(p, q)]) ++ sp.drop 2).toArray).drew) 28 28 ty 24 i0 2 Try.underlying28 hi0 hz1 b.1 0 (m + 1 - (r + 1)) dc ⟨b.1, r * 2, none⟩ (m + 1 - r) sc _ 24 (celS (b.2.drop r)) hbx2 hlen hsrc2 (by rw [hL1, e0]; simp [celS]) celS_one
      rw [hmin] at hrun
      have e3 : layL (celS (b.2 ++ [(p, q)]) ++ sp.drop 2) 0 (celS (b.2.drop r)) = layL (celS (b.2 ++ [(p, q)]) ++ sp.drop 2) ((r + 1) * 2) (celS (b.2.drop r)) := by
        rw [e0]; show layL _ _ [] = layL _ _ []; rw [layL_nil, layL_nil]
      rw [e3, e2] at hrun
      exact hrun
    · rw [if_neg h64']
      have hrun := run_copy_k (P := Try.prog) (((pw1 W p q).setRow b.1 (celS (b.2 ++ [(p, q)]) ++ sp.drop 2).toArray).drew) 28 28 ty 24 i0 2 Try.underlying28 hi0 hz1 b.1 ((r + 1) * 2) (m + 1 - (r + 1)) dc ⟨b.1, r * 2, none⟩ (m + 1 - r) sc _ 24 (celS (b.2.drop r)) hbx2 hlen hsrc2 (by rw [hL1, celS_len, List.length_drop, hm]; omega) celS_one
      rw [hmin, e2] at hrun
      exact hrun
  · exact hW13.box hs (by simpa using hws.2)
  · have := Box.cell hbx3 (r * 2)
    rw [this]
    simp only [List.getElem?_toArray]
    rw [← hA, List.getElem?_append_right (Nat.le_refl _)]; simp
  · have := Box.cell hbx3 (r * 2 + 1)
    rw [this]
    simp only [List.getElem?_toArray]
    rw [← hA, List.getElem?_append_right (by omega)]; simp
  · exact fun i => Box.free hbx3 i
  · have := hrow3.mid
    unfold blkV at this
    rw [hd, hm] at this
    exact ⟨this, hrow3.free d⟩
  · rintro X rfl
    have hbx4 := (Box.set hbx3 (r * 2) (.int .i64 p)).set (r * 2 + 1) (.int .i64 q)
    have e4 : (((celS (b.2.take r) ++ u0 :: u1 :: (celS (b.2.drop r) ++ sp.drop 2)).toArray.setIfInBounds (r * 2) (.int .i64 p)).setIfInBounds (r * 2 + 1) (.int .i64 q)) = (celS (insS b.2 r (p, q)) ++ sp.drop 2).toArray := by
      rw [← put_cells3, ← set_mid2 (celS (b.2.take r)) (celS (b.2.drop r) ++ sp.drop 2) u0 u1 (.int .i64 p) (.int .i64 q) (r * 2) hA]
      simp
    rw [e4] at hbx4
    have hbx5 := Box.off hbx4 (p := ⟨gB, d, none⟩) hne (.slice (some ⟨b.1, 0, none⟩) (m + 1) 64)
    have W14 : WrS [b.1] W (((((((pw1 W p q).setRow b.1 (celS (b.2 ++ [(p, q)]) ++ sp.drop 2).toArray).drew).setRow b.1 (celS (b.2.take r) ++ u0 :: u1 :: (celS (b.2.drop r) ++ sp.drop 2)).toArray).setCell ⟨b.1, r * 2, none⟩ (.int .i64 p))).setCell ⟨b.1, r * 2 + 1, none⟩ (.int .i64 q)) :=
      (hW13.trans (WrS.cell [b.1] _ b.1 _ _ (by simp)) fun x hx => Or.inl hx).trans (WrS.cell [b.1] _ b.1 _ _ (by simp)) fun x hx => Or.inl hx
    have hrow4 := h.row.keep (W14.block gB h.row.lt (by simpa using hne))
    have hrow5 := hrow4.set (b.1, insS b.2 r (p, q))
    have hv5 : blkV (b.1, insS b.2 r (p, q)) = .slice (some ⟨b.1, 0, none⟩) (m + 1) 64 := by unfold blkV; simp only [insS_len b.2 r (p, q) (by omega), hm]
    rw [hv5, hd] at hrow5
    have W15 := (W14.mono (G' := [b.1, gB]) (by simp)).trans (WrS.cell [b.1, gB] _ gB d (.slice (some ⟨b.1, 0, none⟩) (m + 1) 64) (by simp)) fun x hx => Or.inl hx
    refine ⟨h.swap rfl hrow5 ⟨sp.drop 2, ?_, hbx5⟩ fun x hx => ?_, W15.mono fun x hx => ?_⟩
    · rw [List.length_append, celS_len, insS_len b.2 r (p, q) (by omega), hm, List.length_drop]; omega
    · have hx2 := hne2 x hx
      obtain ⟨y, hy, rfl⟩ := List.mem_map.1 hx
      refine W15.block y.1 (h.blk y ?_).lt (by simp [hx2.1, hx2.2])
      rcases List.mem_append.1 hy with g | g
      · exact List.mem_append_left _ g
      · exact List.mem_append_right _ (List.mem_cons_of_mem _ g)
    · simp only [List.mem_cons, List.not_mem_nil, or_false] at hx
      unfold memB
      rcases hx with rfl | rfl
      · simp
      · simp
end Go.Proofs.Ytaeodkpkgbjaeaa
