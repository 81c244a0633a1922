/- Layer 18 (bag): New; Add, Drop, Rank, Kth of anything. -/
import Derived.Test.YtaeodkpkgbjaeaaBbD
import Derived.Laws.CopyOwn
namespace Go.Proofs.Ytaeodkpkgbjaeaa
open Go.RowKit
set_option linter.unusedVariables false
set_option linter.unusedSimpArgs false

set_option maxRecDepth 100000 in
set_option maxHeartbeats 4000000 in
theorem bag_block_nil (w : World) :
    Calls Try.prog 80 #[.slice none 0 0] w fun e w' => e = .returned (.slice (some ⟨w.heap.size, 0, none⟩) 0 64) ∧ BlkAt w' (w.heap.size, []) ∧ Below w.heap.size w w' ∧ w'.heap.size = w.heap.size + 1 := by
  obtain ⟨i0, hi0, hz0, hz1, hz2⟩ := info_parts3 info_sc
  obtain ⟨cs, hcs, hmk⟩ := run_make64 w 0 (by omega)
  have HM := Lib.hid hmk
  have hbx : Box (w.alloc (.cells cs.toArray 24)) w.heap.size cs.toArray 24 := Box.new _ _ _
  have HC := Lib.hid (run_copy_nil (P := Try.prog) (w.alloc (.cells cs.toArray 24)) 28 28 3 24 ⟨w.heap.size, 0, none⟩ 0 64 Try.underlying28 (by rw [hi0]; rfl))
  have HB := Lib.hid hbx
  have hcast : ((0 : Nat) : Int) = 0 := rfl
  rw [hcast] at HM
  clear hmk hbx
  go_enter Try.func80, Try.ntmps80
  go_wp2_with fail
  rw [HM.out]
  go_wp2_with fail
  rw [HC.out]
  go_wp2
  go_ret
  exact ⟨rfl, ⟨cs, by simpa [celS] using hcs, by simpa [celS] using HB.out⟩, (Below.refl _ _).alloc (Nat.le_refl _) _, by simp⟩
set_option maxRecDepth 100000 in
set_option maxHeartbeats 4000000 in
theorem bag_new (w : World) :
    Calls Try.prog 16 #[] w fun e w' => ∃ g O, e = .returned (.pointer (some ⟨g, 0, none⟩)) ∧ BagAt w' O g [] ∧ Below w.heap.size w w' ∧ ∀ x ∈ O, w.heap.size ≤ x := by
  have K := Lib.hid (bag_block_nil w)
  go_enter Try.func16, Try.ntmps16
  go_wp2_with fail
  refine K.out.mono ?_
  rintro e w1 ⟨rfl, h1, h2, h3⟩
  have H1 := Lib.hid h1
  have H2 := Lib.hid h2
  have H3 := Lib.hid h3
  clear h1 h2 h3
  go_wp2
  go_ret
  have hsz : (w1.alloc (.cells #[.slice (some ⟨w.heap.size, 0, none⟩) 0 64] 28)).heap.size = w1.heap.size + 1 := by simp
  have h3 := H3.out
  have b1 := Box.new w1 #[.slice (some ⟨w.heap.size, 0, none⟩) 0 64] 28
  have b2 := Box.new (w1.alloc (.cells #[.slice (some ⟨w.heap.size, 0, none⟩) 0 64] 28)) #[.slice (some ⟨w1.heap.size, 0, none⟩) 1 1, .int .i64 0] 126
  rw [hsz] at b2
  have b1' := b1.alloc (.cells #[.slice (some ⟨w1.heap.size, 0, none⟩) 1 1, .int .i64 0] 126)
  have hB2 : Below w1.heap.size w1 ((w1.alloc (.cells #[.slice (some ⟨w.heap.size, 0, none⟩) 0 64] 28)).alloc (.cells #[.slice (some ⟨w1.heap.size, 0, none⟩) 1 1, .int .i64 0] 126)) := ((Below.refl _ _).alloc (Nat.le_refl _) _).alloc (by simp) _
  refine ⟨w1.heap.size + 1, (w1.heap.size + 1) :: memB w1.heap.size [(w.heap.size, [])], rfl, ⟨w1.heap.size, 1, [(w.heap.size, [])], rfl, b2, ⟨⟨[], 28, rfl, by unfold maxLen; omega, b1'⟩, ?_, ?_⟩, ?_, ?_, rfl, UpS.nil, by simp⟩, H2.out.trans (hB2.mono (by omega)), ?_⟩
  · intro b hb
    rw [List.mem_singleton] at hb
    subst hb
    exact H1.out.keep (hB2.block _ (by show w.heap.size < _; omega))
  · unfold memB; simp; omega
  · unfold memB; simp; omega
  · exact ⟨by simp, by simp, by simp, by simp⟩
  · intro x hx
    unfold memB at hx
    simp at hx
    rcases hx with rfl | rfl | rfl <;> omega
/-- how many are not odder than s -/
def posK (l : List PQ) (s : PQ) : Nat := l.countP fun x => !byB x.1 x.2 s.1 s.2
def addE (l : List PQ) (s : PQ) : Int := if okP s then (if l.length = 4096 then 3 else 0) else 130
def addL (l : List PQ) (s : PQ) : List PQ := if okP s ∧ l.length < 4096 then insS l (posK l s) s else l
def dropE (l : List PQ) (s : PQ) : Int := if okP s then (if s ∈ l then 0 else 4) else 130
def dropL (l : List PQ) (s : PQ) : List PQ := if okP s ∧ s ∈ l then l.eraseIdx (posK l s - 1) else l
theorem bag_Add (O : List Nat) (g : Nat) (l : List PQ) (p q : Int) (hp : I64 p) (hq : I64 q) (w : World) (h : BagAt w O g l) :
    Calls Try.prog 25 #[.pointer (some ⟨g, 0, none⟩), .agg #[.int .i64 p, .int .i64 q]] w (BgR w O g (addE l (p, q)) (addL l (p, q))) := by
  have hl : l.length ≤ 4096 := by obtain ⟨_, _, _, _, _, _, _, _, _, _, h⟩ := h; exact h
  by_cases hok : okP (p, q)
  · by_cases h4 : l.length = 4096
    · have e1 : addE l (p, q) = 3 := by unfold addE; rw [if_pos hok, if_pos h4]
      have e2 : addL l (p, q) = l := by unfold addL; rw [if_neg (by omega)]
      rw [e1, e2]
      have := bag_add_no O g l p q hp hq w h (Or.inr h4)
      rwa [if_pos hok] at this
    · have e1 : addE l (p, q) = 0 := by unfold addE; rw [if_pos hok, if_neg h4]
      have e2 : addL l (p, q) = insS l (posK l (p, q)) (p, q) := by unfold addL; rw [if_pos ⟨hok, by omega⟩]
      rw [e1, e2]
      refine (bag_add O g l p q w h hok (by omega)).mono ?_
      rintro e w' ⟨k, hk, hR⟩
      have : posK l (p, q) = k := hk.count
      rw [this]; exact hR
  · have e1 : addE l (p, q) = 130 := by unfold addE; rw [if_neg hok]
    have e2 : addL l (p, q) = l := by unfold addL; rw [if_neg (fun h => hok h.1)]
    rw [e1, e2]
    have := bag_add_no O g l p q hp hq w h (Or.inl hok)
    rwa [if_neg hok] at this
theorem getD_memS {l : List PQ} {i : Nat} (h : i < l.length) : l.getD i pq0 ∈ l := by
  have e : l.getD i pq0 = l[i] := by simp [List.getElem?_eq_getElem h]
  rw [e]; exact List.getElem_mem h
theorem bag_Drop (O : List Nat) (g : Nat) (l : List PQ) (p q : Int) (hp : I64 p) (hq : I64 q) (w : World) (h : BagAt w O g l) :
    Calls Try.prog 27 #[.pointer (some ⟨g, 0, none⟩), .agg #[.int .i64 p, .int .i64 q]] w (BgR w O g (dropE l (p, q)) (dropL l (p, q))) := by
  have hU : UpS l := by obtain ⟨_, _, _, _, _, _, _, _, _, h, _⟩ := h; exact h
  by_cases hok : okP (p, q)
  · refine (bag_drop O g l p q w h hok).mono ?_
    rintro e w' ⟨k, hk, hR⟩
    have hpk : posK l (p, q) = k := hk.count
    rcases hR with ⟨h0, hq, hR⟩ | ⟨hno, hR⟩
    · have hm : (p, q) ∈ l := by rw [← hq]; exact getD_memS (by have := hk.le; omega)
      have e1 : dropE l (p, q) = 0 := by unfold dropE; rw [if_pos hok, if_pos hm]
      have e2 : dropL l (p, q) = l.eraseIdx (k - 1) := by unfold dropL; rw [if_pos ⟨hok, hm⟩, hpk]
      rw [e1, e2]; exact hR
    · have hm : ¬ (p, q) ∈ l := fun hm => by
        obtain ⟨i, hi, e⟩ := List.getElem_of_mem hm
        have e2 : l.getD i pq0 = (p, q) := by simp [List.getElem?_eq_getElem hi, e]
        obtain ⟨t1, t2⟩ := hU.there hok hk hi e2
        rcases hno with h0 | h0
        · omega
        · exact h0 (t2 (k - 1) (by omega) (Nat.le_refl _))
      have e1 : dropE l (p, q) = 4 := by unfold dropE; rw [if_pos hok, if_neg hm]
      have e2 : dropL l (p, q) = l := by unfold dropL; rw [if_neg (fun h => hm h.2)]
      rw [e1, e2]; exact hR
  · have e1 : dropE l (p, q) = 130 := by unfold dropE; rw [if_neg hok]
    have e2 : dropL l (p, q) = l := by unfold dropL; rw [if_neg (fun h => hok h.1)]
    rw [e1, e2]
    exact bag_drop_no O g l p q hp hq w h hok
def rkL (l : List PQ) (s : PQ) : Nat := if okP s then lessN l s else 0
def rkS (l : List PQ) (s : PQ) : Nat := if okP s then sameN l s else 0
def rkE (s : PQ) : Int := if okP s then 0 else 130
set_option maxRecDepth 100000 in
set_option maxHeartbeats 4000000 in
theorem bag_Rank (O : List Nat) (g : Nat) (l : List PQ) (p q : Int) (hp : I64 p) (hq : I64 q) (w : World) (h : BagAt w O g l) :
    Calls Try.prog 22 #[.pointer (some ⟨g, 0, none⟩), .agg #[.int .i64 p, .int .i64 q]] w fun e w' => e = .returned (.tuple #[.int .i64 (rkL l (p, q) : Nat), .int .i64 (rkS l (p, q) : Nat), .int .i64 (rkE (p, q))]) ∧ Below w.heap.size w w' := by
  obtain ⟨gB, c, bs, hO, hb, hB, hgn, hOk, hfl, hU, hl⟩ := h
  by_cases hok : okP (p, q)
  · unfold rkL rkS rkE
    rw [if_pos hok, if_pos hok, if_pos hok, ← hfl]
    exact bag_rank g gB c _ p q bs w hp hq hb hB.lies (hOk.okB (by rw [hfl]; omega)) hB.cap (by rw [hfl]; exact hU) (by rw [hfl]; omega) hok
  · unfold rkL rkS rkE
    rw [if_neg hok, if_neg hok, if_neg hok]
    have J0 := Lib.hid ((Keeps.start w).alloc #[.int .i64 p, .int .i64 q] 24)
    obtain ⟨s0, s1, _, _⟩ := J0.out.head.two
    have K1 := Lib.hid (fun W => bag_check (some ⟨g, 0, none⟩) p q hp hq W)
    rw [if_neg (by simp), bcE_no hok] at K1
    clear hb hB hOk hfl hU
    go_enter Try.func22, Try.ntmps22
    go_wp2_with fail
    refine (K1.out _).mono ?_
    rintro e w1 ⟨rfl, b1⟩
    have J1 := Lib.hid (J0.out.below b1)
    clear b1
    go_wp2
    refine bodyPost_ret (v := .tuple #[.int .i64 0, .int .i64 0, .int .i64 130]) ?_ rfl ⟨rfl, J1.out.2.1⟩
    simp [results, Try.results22, go_sem]
theorem bag_Kth (O : List Nat) (g : Nat) (l : List PQ) (k : Nat) (hk : k < l.length) (w : World) (h : BagAt w O g l) :
    Calls Try.prog 24 #[.pointer (some ⟨g, 0, none⟩), .int .i64 ((k : Int) + 1)] w fun e w' => e = .returned (.tuple #[.agg #[.int .i64 (l.getD k pq0).1, .int .i64 (l.getD k pq0).2], .int .i64 0]) ∧ Below w.heap.size w w' := by
  obtain ⟨gB, c, bs, hO, hb, hB, hgn, hOk, hfl, hU, hl⟩ := h
  have := bag_kth g gB c k _ bs w hb hB.lies (hOk.okB (by rw [hfl]; omega)) hB.cap (by rw [hfl]) (by rw [hfl]; omega) (by rw [hfl]; exact hk)
  rwa [hfl] at this
theorem bag_Kth_no (O : List Nat) (g : Nat) (l : List PQ) (k : Int) (hk : k < 1 ∨ (l.length : Int) < k) (w : World) (h : BagAt w O g l) :
    Calls Try.prog 24 #[.pointer (some ⟨g, 0, none⟩), .int .i64 k] w fun e w' => e = .returned (.tuple #[.agg #[.int .i64 0, .int .i64 0], .int .i64 1]) ∧ Below w.heap.size w w' := by
  obtain ⟨gB, c, bs, hO, hb, hB, hgn, hOk, hfl, hU, hl⟩ := h
  exact bag_kth_no g _ k _ w hb hk
theorem bag_Len (O : List Nat) (g : Nat) (l : List PQ) (w : World) (h : BagAt w O g l) :
    Calls Try.prog 19 #[.pointer (some ⟨g, 0, none⟩)] w fun e w' => e = .returned (.int .i64 (l.length : Nat)) ∧ w = w' := by
  obtain ⟨gB, c, bs, hO, hb, _⟩ := h
  exact bag_len g _ _ w hb
end Go.Proofs.Ytaeodkpkgbjaeaa
