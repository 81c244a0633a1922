import Derived.Test.YtkkeejbgaaodeaaTreeP

/-! Layer 10: points parted by a cut. -/
namespace Go.Proofs.Ytkkeejbgaaodeaa
open Go.RowKit
set_option linter.unusedVariables false
set_option linter.unusedSimpArgs false

theorem pcK_at (p : Nat → Bool) (k : Nat) {j : Nat} (h : j < (pcK p k).length) : 0 ≤ (pcK p k).getD j 0 ∧ (pcK p k).getD j 0 < k := by
  have hm : (pcK p k).getD j 0 ∈ pcK p k := by
    rw [List.getD_eq_getElem?_getD, List.getElem?_eq_getElem h]; exact List.getElem_mem h
  obtain ⟨i, h1, h2, _⟩ := (pcK_mem p _ k).1 hm
  rw [h2]
  omega
theorem lft_at {c : List Int} {p : Int} {R : List Row} (h : splC c p R = 0) (j : Nat) (hj : j < (lft c p R).length) : 0 ≤ (lft c p R).getD j 0 ∧ (lft c p R).getD j 0 < R.length := by
  unfold lft at hj ⊢
  rw [if_pos h] at hj ⊢
  exact pcK_at _ _ hj
theorem rgt_at {c : List Int} {p : Int} {R : List Row} (h : splC c p R = 0) (j : Nat) (hj : j < (rgt c p R).length) : 0 ≤ (rgt c p R).getD j 0 ∧ (rgt c p R).getD j 0 < R.length := by
  unfold rgt at hj ⊢
  rw [if_pos h] at hj ⊢
  exact pcK_at _ _ hj
theorem lft_len {c : List Int} {p : Int} {R : List Row} : (lft c p R).length ≤ R.length := by
  unfold lft
  split
  · exact pcK_len _ _
  · exact Nat.zero_le _
theorem rgt_len {c : List Int} {p : Int} {R : List Row} : (rgt c p R).length ≤ R.length := by
  unfold rgt
  split
  · exact pcK_len _ _
  · exact Nat.zero_le _
set_option maxRecDepth 100000 in
set_option maxHeartbeats 2000000 in
theorem tree_parted (A Ar : Option Addr) (a : List Int) (R : List Row) (c cr : Nat) (p : Int) (w : World) (hA : Lies w w.heap.size A a) (hr : LiesR w w.heap.size Ar R) (hR : OkR R) (hla : (a.length : Int) ≤ 9223372036854775807) (hca : a.length ≤ c) (hlr : R.length ≤ 100000) (h0 : splC a p R = 0) :
    Calls Try.prog 47 #[.agg #[.slice A a.length c, .int .i64 p], .slice Ar R.length cr] w fun e w' => ∃ g1 g2 : Nat, e = .returned (.tuple #[.slice (some ⟨g1, 0, none⟩) (lft a p R).length (lft a p R).length, .slice (some ⟨g2, 0, none⟩) (rgt a p R).length (rgt a p R).length, .int .i64 0]) ∧ w.heap.size ≤ g1 ∧ w.heap.size ≤ g2 ∧ OwnR w' g1 (selR R (lft a p R)) ∧ OwnR w' g2 (selR R (rgt a p R)) ∧ Below w.heap.size w w' := by
  have HX := Lib.hid ((Kpc.start w).alloc #[.slice A a.length c, .int .i64 p] 37)
  obtain ⟨y0, y1⟩ := box_cut HX.out.head
  have KS : Hid (∀ W (h : Below w.heap.size w W), w.heap.size ≤ W.heap.size → Calls Try.prog 77 #[.agg #[.slice A a.length c, .int .i64 p], .slice Ar R.length cr] W (GivesS a p R W)) := fun W h hs => cut_Split A Ar a R c cr p W ((hA.below h).mono hs) ((hr.below h).mono hs) hR hla hca (by omega)
  have KC : Hid (∀ W (h : Below w.heap.size w W) (I : List Int) (AI : Option Addr) (cI B : Nat), w.heap.size ≤ B → B ≤ W.heap.size → Lies W B AI I → (∀ j, j < I.length → 0 ≤ I.getD j 0 ∧ I.getD j 0 < R.length) → I.length ≤ 100000 → Calls Try.prog 78 #[.slice Ar R.length cr, .slice AI I.length cI] W fun e w' => e = .returned (.slice (some ⟨W.heap.size, 0, none⟩) I.length I.length) ∧ OwnR w' W.heap.size (selR R I) ∧ Below W.heap.size W w') := fun W h I AI cI B h1 h2 h3 h4 h5 =>
    tree_chosen R I Ar AI cr cI B W ((hr.below h).mono h1) h3 h2 h4 h5
  have KL := Lib.hid (lft_at (c := a) (p := p) (R := R) h0)
  have KG := Lib.hid (rgt_at (c := a) (p := p) (R := R) h0)
  have hl1 := lft_len (c := a) (p := p) (R := R)
  have hl2 := rgt_len (c := a) (p := p) (R := R)
  have KS2 : Hid (∀ W (h : Below w.heap.size w W), w.heap.size ≤ W.heap.size → Calls Try.prog 77 #[.agg #[.slice A a.length c, .int .i64 p], .slice Ar R.length cr] W fun e w' => ∃ A1 c1 A2 c2, e = .returned (.tuple #[.slice A1 (lft a p R).length c1, .slice A2 (rgt a p R).length c2, .int .i64 0]) ∧ Lies w' w'.heap.size A1 (lft a p R) ∧ Lies w' w'.heap.size A2 (rgt a p R) ∧ Below W.heap.size W w') := fun W h hs => (KS.out W h hs).mono fun e w' hg => by
    obtain ⟨A1, c1, A2, c2, he, _, _, _, _, g1, g2, _, _, g3⟩ := hg
    rw [h0] at he
    exact ⟨A1, c1, A2, c2, he, g1, g2, g3⟩
  clear KS hA hr hR h0
  generalize lft a p R = lf at *
  generalize rgt a p R = rg at *
  have KL1 := Lib.hid (fun W h AI cI B h1 h2 h3 => KC.out W h lf AI cI B h1 h2 h3 KL.out (by omega))
  have KG1 := Lib.hid (fun W h AI cI B h1 h2 h3 => KC.out W h rg AI cI B h1 h2 h3 KG.out (by omega))
  clear KC KL KG
  generalize selR R lf = T1 at *
  generalize selR R rg = T2 at *
  generalize hL1 : lf.length = n1 at *
  generalize hL2 : rg.length = n2 at *
  generalize a.length = La at *
  generalize R.length = M at *
  clear hL1 hL2
  go_enter Try.func47, Try.ntmps47
  go_wp2_with fail
  refine (KS2.out _ HX.out.2.1 HX.out.2.2).mono ?_
  rintro e w1 ⟨A1, c1, A2, c2, rfl, L1, L2, b1⟩
  have J := Lib.hid (HX.out.below b1)
  have HL1 := Lib.hid L1
  have HL2 := Lib.hid L2
  clear b1 y0 y1 L1 L2 KS2
  go_wp2_with fail
  refine (KL1.out _ J.out.2.1 A1 c1 w1.heap.size J.out.2.2 (Nat.le_refl _) HL1.out).mono ?_
  rintro e w2 ⟨rfl, o1, b2⟩
  have J2 := Lib.hid (J.out.below b2)
  have HO1 := Lib.hid o1
  have HL3 := Lib.hid (HL2.out.below b2)
  have HSZ := Lib.hid b2.size
  clear o1 b2
  go_wp2_with fail
  refine (KG1.out _ J2.out.2.1 A2 c2 w1.heap.size J.out.2.2 HSZ.out HL3.out).mono ?_
  rintro e w3 ⟨rfl, o2, b3⟩
  have J3 := Lib.hid (J2.out.below b3)
  have HO2 := Lib.hid o2
  have HO3 := Lib.hid (HO1.out.below b3)
  clear o2 b3
  go_wp2
  go_ret3
  exact ⟨_, _, rfl, J.out.2.2, J2.out.2.2, HO3.out, HO2.out, J3.out.2.1⟩
end Go.Proofs.Ytkkeejbgaaodeaa
