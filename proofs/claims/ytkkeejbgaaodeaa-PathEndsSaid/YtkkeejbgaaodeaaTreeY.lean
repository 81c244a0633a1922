import Derived.Test.YtkkeejbgaaodeaaTreeX
import Derived.Outline

/-! Layer 10: the reference's grow. -/
namespace Go.Proofs.Ytkkeejbgaaodeaa
open Go.RowKit
set_option linter.unusedVariables false
set_option linter.unusedSimpArgs false

/-- nodes, the place of the next draw, an error -/
def GivesGN (G : GT) (w : World) (e : Ending) (w' : World) : Prop :=
  ∃ A N c, e = .returned (.tuple #[.slice A N.length c, .int .i64 G.2.1, .int .i64 G.2.2]) ∧ N.map cnt = G.1 ∧ LiesT w' w'.heap.size A N ∧ okT N ∧ (New w A ∧ ∀ n ∈ N, New w n.a) ∧ Below w.heap.size w w'
theorem givesGN_no {w w' : World} {x : Int} (h : Below w.heap.size w w') : GivesGN ([], 0, x) w (.returned (.tuple #[.slice none 0 0, .int .i64 0, .int .i64 x])) w' :=
  ⟨none, [], 0, rfl, rfl, ⟨fun h0 => absurd h0 (by simp), fun n hn => by cases hn⟩, (fun n hn => by cases hn), ⟨(fun _ e => by cases e), (fun n hn => by cases hn)⟩, h⟩
theorem leaf_box {w : World} {g n : Nat} (h : Box w g #[.slice none 0 0, .int .i64 0, .int .i64 0, .int .i64 0, .int .i64 n] 39) (hn : n ≤ 1000) : LiesT w w.heap.size (some ⟨g, 0, none⟩) [lfN n] ∧ okT [lfN n] := by
  refine ⟨⟨fun _ => ⟨⟨g, 0, none⟩, rfl, h.lt, fun j hj => ?_⟩, fun m hm => ?_⟩, fun m hm => ?_⟩
  · obtain rfl : j = 0 := by simp at hj; omega
    unfold Nd5
    rw [cell_add, cell_add, cell_add, cell_add, cell_add]
    exact ⟨h.cell 0, h.cell 1, h.cell 2, h.cell 3, h.cell 4⟩
  · rw [List.mem_singleton.1 hm]
    exact fun h0 => absurd h0 (by simp [lfN])
  · rw [List.mem_singleton.1 hm]
    refine ⟨by show (0 : Nat) ≤ 0; omega, by show ((0 : Nat) : Int) ≤ _; omega, fun x hx => absurd hx (by simp [lfN]), ?_, ?_, ?_, ?_⟩ <;> (show I64 _; unfold lfN I64; simp only; omega)
theorem givesGN_leaf {w w' : World} {g n : Nat} {a : Int} (hb : Box w' g #[.slice none 0 0, .int .i64 0, .int .i64 0, .int .i64 0, .int .i64 n] 39) (hn : n ≤ 1000) (hg : w.heap.size ≤ g) (h : Below w.heap.size w w') : GivesGN ([lfN n], a, 0) w (.returned (.tuple #[.slice (some ⟨g, 0, none⟩) 1 1, .int .i64 a, .int .i64 0])) w' :=
  ⟨_, [lfN n], 1, rfl, rfl, (leaf_box hb hn).1, (leaf_box hb hn).2, ⟨(fun ad e => by cases e; exact hg), (fun m hm ad e => by rw [List.mem_singleton.1 hm] at e; cases e)⟩, h⟩
theorem OwnA.liesR {w : World} {B : Nat} {v : Value} {S : List Row} (h : OwnA w B v S) (hr : ∀ r ∈ S, Lies w w.heap.size r.a r.l) : ∃ A c, v = .slice A S.length c ∧ S.length ≤ c ∧ LiesR w w.heap.size A S := by
  obtain ⟨A, c, e, hc, h1⟩ := h.lies
  refine ⟨A, c, e, hc, fun h0 => ?_, hr⟩
  obtain ⟨g, eA, _, hlt, hcell⟩ := h1 h0
  exact ⟨⟨g, 0, none⟩, eA, hlt, fun j hj => by rw [cell_add]; exact hcell j hj⟩
theorem own_newN {w w' : World} {B : Nat} {v : Value} {N : List TN} (h : OwnN w' B v N) (hB : w.heap.size ≤ B) : ∀ A n c, v = .slice A n c → New w A := fun A n c e ad eA => by
  subst eA
  have := (h.lt ad.block (by rw [e]; rfl)).1
  omega
theorem grN_pos {k t : Int} {l : List Int} (s : Nat) (R : List Row) (a : Int) : (grN k l t s R a).2.2 = 0 → 0 < (grN k l t s R a).1.length := by
  refine grN_ind (fun s R a G => G.2.2 = 0 → 0 < G.1.length) ?_ ?_ ?_ s R a
  · intro s R a _ _; simp
  · intro s R a x hx h; exact absurd h hx
  · intro s R a Z X Y _ _ _ _ _ _ _ _ _ _ _; simp
theorem shN_a (b : Nat) (n : TN) : (shN b n).a = n.a ∧ (shN b n).co = n.co ∧ (shN b n).c = n.c ∧ (shN b n).lv = n.lv ∧ (shN b n).sz = n.sz := by
  unfold shN
  split <;> exact ⟨rfl, rfl, rfl, rfl, rfl⟩
theorem shL_cnt (b : Nat) (N : List TN) : (shL b N).map cnt = shL b (N.map cnt) := by
  unfold shL
  rw [List.map_map, List.map_map]
  refine List.map_congr_left fun n _ => ?_
  show cnt (shN b n) = shN b (cnt n)
  unfold shN cnt
  simp only
  split <;> rfl
theorem okT_sh {N : List TN} (h : okT N) (hb : ∀ n ∈ N, bdT 100000 n) {b : Nat} (hb2 : b ≤ 100000) : okT (shL b N) := fun m hm => by
  obtain ⟨n, hn, rfl⟩ := List.mem_map.1 hm
  obtain ⟨o1, o2, o3, o4, o5, o6, o7⟩ := h n hn
  have hB := hb n hn
  unfold bdT at hB
  unfold shN
  split
  · refine ⟨o1, o2, o3, o4, ?_, ?_, o7⟩ <;> (unfold I64; simp only; omega)
  · exact ⟨o1, o2, o3, o4, o5, o6, o7⟩
theorem lies_sh {w : World} {N : List TN} {b : Nat} (h : ∀ n ∈ N, Lies w w.heap.size n.a n.co) : ∀ n ∈ shL b N, Lies w w.heap.size n.a n.co := fun m hm => by
  obtain ⟨n, hn, rfl⟩ := List.mem_map.1 hm
  obtain ⟨e1, e2, _⟩ := shN_a b n
  rw [e1, e2]
  exact h n hn
theorem own_new {w : World} (n : TN) : OwnN (w.alloc (.cells (ndC n) 39)) w.heap.size (.slice (some ⟨w.heap.size, 0, none⟩) 1 1) [n] :=
  ⟨by rfl, .inr ⟨w.heap.size, 1, ndC n, rfl, Nat.le_refl _, heap_alloc_new w _, Nat.le_refl _, by unfold maxLen; omega, rfl, by simp [ndL, ndC]⟩⟩
set_option maxRecDepth 100000 in
set_option maxHeartbeats 16000000 in
theorem ref_grow (k t : Int) (A : Option Addr) (l : List Int) (c : Nat) (hu : ∀ x ∈ l, U64 x) (hl : (l.length : Int) ≤ 9223372036854775807) : ∀ (s : Nat), s ≤ 10 → ∀ (R : List Row) (Ar : Option Addr) (cr : Nat) (a : Int) (w : World), LiesR w w.heap.size Ar R → R.length ≤ 64 → LiesU w w.heap.size A l → I64 a →
    Calls Try.prog 50 #[.int .i64 k, .slice Ar R.length cr, .int .i64 s, .slice A l.length c, .int .i64 a, .int .i64 t] w (GivesGN (grN k l t s R a) w)
  | s, hs, R, Ar, cr, a, w, hr, hR, hA, ha => by
    have HX := Lib.hid ((Kpc.start w).alloc #[.slice none 0 0, .int .i64 0, .int .i64 0, .int .i64 0, .int .i64 R.length] 39)
    by_cases h1 : s = 0 ∨ R.length = 1
    · rw [grN_leaf h1]
      have hXb := HX.out.head
      have hXw := HX.out.2.1
      by_cases h2 : R.length = 1
      · rw [h2] at hXb hXw HX ⊢
        generalize l.length = ML at *
        clear h1 h2 hr hR hA hu
        go_enter Try.func50, Try.ntmps50
        go_wp2
        go_ret3
        exact givesGN_leaf hXb (by omega) (Nat.le_refl _) hXw
      · obtain rfl : s = 0 := by rcases h1 with h | h; exact h; exact absurd h h2
        have h2' : ((R.length : Int) == 1) = false := by rw [beq_eq_false_iff_ne]; omega
        generalize R.length = M at *
        generalize l.length = ML at *
        clear h1 h2 hr hA hu
        go_enter Try.func50, Try.ntmps50
        go_wp2
        go_ret3
        exact givesGN_leaf hXb (by omega) (Nat.le_refl _) hXw
    · obtain ⟨s, rfl⟩ : ∃ n, s = n + 1 := ⟨s - 1, by omega⟩
      have h2 : ¬ R.length = 1 := fun h => h1 (.inr h)
      have h2' : ((R.length : Int) == 1) = false := by rw [beq_eq_false_iff_ne]; omega
      have h3' : (((s + 1 : Nat) : Int) == 0) = false := by rw [beq_eq_false_iff_ne]; omega
      have IH : Hid (∀ W (h : Below w.heap.size w W) (R' : List Row) (Ar' : Option Addr) (cr' : Nat) (a' : Int), LiesR W W.heap.size Ar' R' → R'.length ≤ 64 → I64 a' → Calls Try.prog 50 #[.int .i64 k, .slice Ar' R'.length cr', .int .i64 s, .slice A l.length c, .int .i64 a', .int .i64 t] W (GivesGN (grN k l t s R' a') W)) := fun W h R' Ar' cr' a' h1 h2 h3 =>
        ref_grow k t A l c hu hl s (by omega) R' Ar' cr' a' W h1 h2 ((hA.below h).mono h.size) h3
      have KD : Hid (∀ W (h : Below w.heap.size w W), Calls Try.prog 79 #[.int .i64 k, .slice Ar R.length cr, .slice A l.length c, .int .i64 a, .int .i64 t] W (GivesD (drw k R l a t) W)) := fun W h => ref_Draw Ar A R l cr c k a t W ((hr.below h).mono h.size) ((hA.below h).mono h.size) hu hl ha (by omega)
      have KSp : Hid (∀ W (h : Below w.heap.size w W) (Ac : Option Addr) (co : List Int) (cc : Nat) (p : Int), Lies W W.heap.size Ac co → Calls Try.prog 80 #[.agg #[.slice Ac co.length cc, .int .i64 p], .slice Ar R.length cr] W (GivesS co p R W)) := fun W h Ac co cc p h1 => ref_Split Ac Ar co R cc cr p W h1 ((hr.below h).mono h.size) (by omega)
      have KSu : Hid (∀ W (h : Below w.heap.size w W) (I : List Int) (AI : Option Addr) (cI : Nat), Lies W W.heap.size AI I → (∀ j, j < I.length → 0 ≤ I.getD j 0 ∧ I.getD j 0 < R.length) → I.length ≤ 64 → Calls Try.prog 81 #[.slice Ar R.length cr, .slice AI I.length cI] W fun e w' => (∃ A' c', e = .returned (.slice A' (selR R I).length c') ∧ LiesR w' w'.heap.size A' (selR R I)) ∧ Below W.heap.size W w') := fun W h I AI cI h1 h2 h3 =>
        (ref_sub R I Ar AI cr cI W.heap.size W ((hr.below h).mono h.size) h1 (Nat.le_refl _) h2 (by omega)).mono fun e w' ⟨⟨v, he, ho⟩, hb⟩ => by
          obtain ⟨A', c', e', _, hl'⟩ := ho.liesR (fun r hr' => ((hr.2 r (mem_sel h2 hr')).below (h.trans (hb.mono h.size))).mono (Nat.le_trans h.size hb.size))
          exact ⟨⟨A', c', by rw [he, e'], hl'⟩, hb⟩
      have KSh : Hid (∀ W (N : List TN) (A' : Option Addr) (c' b : Nat) (bi : Int), (b : Int) = bi → LiesT W W.heap.size A' N → N.length ≤ 100000 → b ≤ 100000 → (∀ n ∈ N, bdT 100000 n) → Calls Try.prog 82 #[.slice A' N.length c', .int .i64 bi] W fun e w' => (∃ v, e = .returned v ∧ OwnN w' W.heap.size v (shL b N)) ∧ Below W.heap.size W w') := fun W N A' c' b bi e h1 h3 h4 h5 => by subst e; exact ref_shift N A' c' W.heap.size b W h1 (Nat.le_refl _) h3 h4 h5
      have HDR := Lib.hid (@drw_ok k R l a t)
      have HG1 : Hid (¬ dE (drw k R l a t) = 0 → grN k l t (s + 1) R a = ([], 0, dE (drw k R l a t))) := fun h => grN_err h2 h
      have HG2 : Hid (dE (drw k R l a t) = 0 → dO (drw k R l a t) = false → grN k l t (s + 1) R a = ([lfN R.length], a, 0)) := fun h h' => grN_same h h'
      have HG3 : Hid (∀ Z, drw k R l a t = Z → dE Z = 0 → dO Z = true → ∀ X, grN k l t s (lfR Z R) (dA Z) = X → ¬ X.2.2 = 0 → grN k l t (s + 1) R a = ([], 0, X.2.2)) := fun Z hZ a1 a2 X hX a3 => grN_left h2 hZ a1 a2 hX a3
      have HG4 : Hid (∀ Z, drw k R l a t = Z → dE Z = 0 → dO Z = true → ∀ X, grN k l t s (lfR Z R) (dA Z) = X → X.2.2 = 0 → ∀ Y, grN k l t s (rgR Z R) X.2.1 = Y → ¬ Y.2.2 = 0 → grN k l t (s + 1) R a = ([], 0, Y.2.2)) := fun Z hZ a1 a2 X hX a3 Y hY a4 => grN_right h2 hZ a1 a2 hX a3 hY a4
      have HG5 : Hid (∀ Z, drw k R l a t = Z → dE Z = 0 → dO Z = true → ∀ X, grN k l t s (lfR Z R) (dA Z) = X → X.2.2 = 0 → ∀ Y, grN k l t s (rgR Z R) X.2.1 = Y → Y.2.2 = 0 → grN k l t (s + 1) R a = (rootN Z R.length X.1.length :: (shL 1 X.1 ++ shL (1 + X.1.length) Y.1), Y.2.1, 0)) := fun Z hZ a1 a2 X hX a3 Y hY a4 => grN_both h2 hZ a1 a2 hX a3 hY a4
      have HBD := Lib.hid (fun R' a' => @grN_bd k t l s R' a')
      have HI64 := Lib.hid (fun R' a' h => @grN_i64 k t l hl s R' a' h)
      have hM64 : (R.length : Int) ≤ 64 := by omega
      have hs10 : (s : Int) ≤ 10 := by omega
      obtain ⟨D, hD⟩ : ∃ D, D = drw k R l a t := ⟨_, rfl⟩
      rw [← hD] at KD HDR HG1 HG2
      have HD := Lib.hid hD.symm
      clear h1 h2 hr hA hu hD ha
      obtain ⟨dc, dl, da, dok, de⟩ := D
      unfold GivesD at KD
      simp only at KD
      generalize hM : R.length = M at *
      have HM := Lib.hid hM
      generalize hML : l.length = ML at *
      have HML := Lib.hid hML
      generalize hDL : dc.length = DL at *
      have HDL := Lib.hid hDL
      clear hM hML hDL
      go_enter Try.func50, Try.ntmps50
      go_wp2_with fail
      refine (KD.out _ HX.out.2.1).mono ?_
      rintro e w1 ⟨Ac, cc, rfl, e1, e2, hL, hnw, hb1⟩
      have HL := Lib.hid hL
      have HNW : Hid (New w Ac) := fun ad e => Nat.le_trans HX.out.2.2 (hnw ad e)
      clear hnw
      have J1 := Lib.hid ((HX.out.below hb1).alloc #[.slice Ac DL cc, .int .i64 dl] 37)
      have HB1 : Hid (Below w1.heap.size w1 (w1.alloc (.cells #[.slice Ac DL cc, .int .i64 dl] 37))) := (Below.refl _ _).alloc (Nat.le_refl _) _
      clear hL hb1
      by_cases he : de = 0
      · subst he
        cases dok with
        | false =>
          have hXb := J1.out.tail.head
          have hXw := J1.out.2.1
          have HR := Lib.hid (HG2.out rfl rfl)
          go_wp2
          go_ret3
          rw [HR.out]
          exact givesGN_leaf hXb (by omega) (Nat.le_refl _) hXw
        | true =>
          obtain ⟨hask, hbox, hor⟩ := HDR.out rfl
          have hparts : Parts9 R l a (a + mostC k (dimR R) t) (dc, dl, da, true, 0) := by
            rcases hor with ⟨_, h⟩ | ⟨_, h⟩
            · cases h
            · exact h
          obtain ⟨_, s1, s2, _, _, s5, s6, s7⟩ := hparts
          simp only at s1 s2 s5 s6 s7
          have hsl := lft_at (c := dc) (p := dl) (R := R) s2
          have hsr := rgt_at (c := dc) (p := dl) (R := R) s2
          rw [HM.out] at hsl hsr
          have HSL := Lib.hid hsl
          have HSR := Lib.hid hsr
          clear hsl hsr
          have hLl : (lft dc dl R).length ≤ 64 := Nat.le_trans lft_len (by have := HM.out; omega)
          have hLr : (rgt dc dl R).length ≤ 64 := Nat.le_trans rgt_len (by have := HM.out; omega)
          have HDA : Hid (I64 da) := by show -9223372036854775808 ≤ da ∧ da ≤ 9223372036854775807; have := HML.out; have := hask.2.1; omega
          have HOK : Hid (okT [⟨Ac, cc, dc, dl, 1, 0, M⟩]) := by
            intro n hn
            rw [List.mem_singleton.1 hn]
            unfold isC at s1
            rw [Bool.and_eq_true, decide_eq_true_iff] at s1
            obtain ⟨_, _, _, g4, _⟩ := partsV_iff.1 s1.1
            refine ⟨by show dc.length ≤ cc; have := HDL.out; omega, by show (cc : Int) ≤ _; omega, fun z hz => by have := g4 z hz; unfold I64; omega, ?_, ?_, ?_, ?_⟩
            all_goals (unfold I64; simp only; omega)
          have KS1 := KSp.out _ J1.out.2.1 Ac dc cc dl ((HL.out.below HB1.out).mono HB1.out.size)
          rw [HDL.out] at KS1
          unfold GivesS at KS1
          rw [s2] at KS1
          have KS2 := Lib.hid KS1
          have hlf : lfR (dc, dl, da, true, 0) R = selR R (lft dc dl R) := rfl
          have hrg : rgR (dc, dl, da, true, 0) R = selR R (rgt dc dl R) := rfl
          obtain ⟨X, hX⟩ : ∃ X, X = grN k l t s (selR R (lft dc dl R)) da := ⟨_, rfl⟩
          obtain ⟨Y, hY⟩ : ∃ Y, Y = grN k l t s (selR R (rgt dc dl R)) X.2.1 := ⟨_, rfl⟩
          have HX3 : Hid (¬ X.2.2 = 0 → grN k l t (s + 1) R a = ([], 0, X.2.2)) := fun h => HG3.out _ HD.out rfl rfl X hX.symm h
          have HX4 : Hid (X.2.2 = 0 → ¬ Y.2.2 = 0 → grN k l t (s + 1) R a = ([], 0, Y.2.2)) := fun h h' => HG4.out _ HD.out rfl rfl X hX.symm h Y hY.symm h'
          have HX5 : Hid (X.2.2 = 0 → Y.2.2 = 0 → grN k l t (s + 1) R a = (rootN (dc, dl, da, true, 0) M X.1.length :: (shL 1 X.1 ++ shL (1 + X.1.length) Y.1), Y.2.1, 0)) := fun h h' => HG5.out _ HD.out rfl rfl X hX.symm h Y hY.symm h'
          have HXB := Lib.hid (HBD.out (selR R (lft dc dl R)) da)
          have HYB := Lib.hid (HBD.out (selR R (rgt dc dl R)) X.2.1)
          have HXP : Hid (X.2.2 = 0 → 0 < X.1.length) := fun h => by rw [hX] at h ⊢; exact grN_pos _ _ _ h
          have HYP : Hid (Y.2.2 = 0 → 0 < Y.1.length) := fun h => by rw [hY] at h ⊢; exact grN_pos _ _ _ h
          have HXI := Lib.hid (HI64.out (selR R (lft dc dl R)) da HDA.out)
          have HYI := Lib.hid (HI64.out (selR R (rgt dc dl R)) X.2.1 (by rw [hX]; exact HXI.out))
          rw [← hX] at HXB HXI
          rw [← hY] at HYB HYI
          obtain ⟨z0, z1, _, _⟩ := J1.out.head.two
          clear KS1 s1 s2 s5 s6 s7 hask hbox hor HG1 HG2 HG3 HG4 HG5 HDR HD KD KSp HBD HI64
          have hs2 : 2 ^ (s + 1) ≤ 2048 := Nat.le_trans (Nat.pow_le_pow_right (by omega) (show s + 1 ≤ 11 by omega)) (by decide)
          go_wp2_with fail
          refine KS2.out.mono ?_
          rintro e w2 ⟨A1, c1, A2, c2, rfl, _, _, _, _, L1, L2, _, _, b2⟩
          have J2 := Lib.hid (J1.out.below b2)
          have HL1 := Lib.hid L1
          have HL2 := Lib.hid L2
          have HB2 := Lib.hid (HB1.out.trans (b2.mono HB1.out.size))
          clear L1 L2 b2 z0 z1 KS2
          go_wp2_with fail
          refine (KSu.out w2 J2.out.2.1 _ A1 c1 HL1.out HSL.out hLl).mono ?_
          rintro e w3 ⟨⟨A3, c3, rfl, hl3⟩, b3⟩
          have J3 := Lib.hid (J2.out.below b3)
          have HL3 := Lib.hid hl3
          have HL2' := Lib.hid ((HL2.out.below b3).mono b3.size)
          have HB3 := Lib.hid (HB2.out.trans (b3.mono HB2.out.size))
          clear hl3 b3 HL1 HL2
          have KG1 := Lib.hid (IH.out w3 J3.out.2.1 (selR R (lft dc dl R)) A3 c3 da HL3.out (by rw [selR_len]; exact hLl) HDA.out)
          rw [← hX] at KG1
          go_wp2_with fail
          refine KG1.out.mono ?_
          rintro e w4 ⟨A4, N4, c4, rfl, m4, l4, o4, ⟨_, nw4⟩, b4⟩
          have HW4 : Hid (∀ n ∈ N4, New w n.a) := fun n hn ad e => Nat.le_trans J3.out.2.2 (nw4 n hn ad e)
          clear nw4
          have J4 := Lib.hid (J3.out.below b4)
          have HM4 := Lib.hid m4
          have HL4 := Lib.hid l4
          have HO4 := Lib.hid o4
          have HL2'' := Lib.hid ((HL2'.out.below b4).mono b4.size)
          have HB4 := Lib.hid (HB3.out.trans (b4.mono HB3.out.size))
          clear l4 o4 m4 b4 HL2' HL3 KG1
          by_cases hx : X.2.2 = 0
          · have hxb : (X.2.2 != 0) = false := by rw [hx]; rfl
            have HX4' := Lib.hid (HX4.out hx)
            have HX5' := Lib.hid (HX5.out hx)
            have KG2' := Lib.hid (fun W h Ar' cr' h1 h2 => IH.out W h (selR R (rgt dc dl R)) Ar' cr' X.2.1 h1 h2 HXI.out)
            rw [← hY] at KG2'
            have HN4 : Hid (N4.length = X.1.length) := by show _ = _; rw [← HM4.out, List.length_map]
            clear HX3 HX4 HX5 HXI IH hX hY
            obtain ⟨XG, xa, xe⟩ := X
            simp only at hx hxb HX4' HX5' KG2' HN4 HM4 HXB HXP
            subst hx
            have hN4p : 0 < N4.length := by have := HN4.out; have := HXP.out rfl; omega
            go_wp2_with fail
            refine (KSu.out w4 J4.out.2.1 _ A2 c2 HL2''.out HSR.out hLr).mono ?_
            rintro e w5 ⟨⟨A5, c5, rfl, hl5⟩, b5⟩
            have J5 := Lib.hid (J4.out.below b5)
            have HL5 := Lib.hid hl5
            have HL4' := Lib.hid ((HL4.out.below b5).mono b5.size)
            have HB5 := Lib.hid (HB4.out.trans (b5.mono HB4.out.size))
            clear hl5 b5 HL2'' HL4
            have KG2 := Lib.hid (KG2'.out w5 J5.out.2.1 A5 c5 HL5.out (by rw [selR_len]; exact hLr))
            clear KG2'
            go_wp2_with fail
            refine KG2.out.mono ?_
            rintro e w6 ⟨A6, N6, c6, rfl, m6, l6, o6, ⟨_, nw6⟩, b6⟩
            have HW6 : Hid (∀ n ∈ N6, New w n.a) := fun n hn ad e => Nat.le_trans J5.out.2.2 (nw6 n hn ad e)
            clear nw6
            have J6 := Lib.hid (J5.out.below b6)
            have HM6 := Lib.hid m6
            have HL6 := Lib.hid l6
            have HO6 := Lib.hid o6
            have HL4'' := Lib.hid ((HL4'.out.below b6).mono b6.size)
            have HB6 := Lib.hid (HB5.out.trans (b6.mono HB5.out.size))
            clear l6 o6 m6 b6 HL4' HL5 KG2
            have HN6 : Hid (N6.length = Y.1.length) := by show _ = _; rw [← HM6.out, List.length_map]
            obtain ⟨YG, ya, ye⟩ := Y
            simp only at HX4' HX5' HN6 HM6 HYB HYP
            by_cases hy : ye = 0
            · subst hy
              have HR := Lib.hid (HX5'.out rfl)
              obtain ⟨u0, u1, _, _⟩ := J6.out.head.two
              have hn4 : N4.length ≤ 3000 := by have := HN4.out; have := HXB.out.1; omega
              have hn6 : N6.length ≤ 3000 := by have := HN6.out; have := HYB.out.1; omega
              have hbd4 : ∀ n ∈ N4, bdT 100000 n := fun n hn => by
                have h1 := HXB.out.2 (cnt n) (by rw [← HM4.out]; exact List.mem_map_of_mem hn)
                have := HXB.out.1
                unfold bdT cnt at h1
                unfold bdT
                simp only at h1
                omega
              have hbd6 : ∀ n ∈ N6, bdT 100000 n := fun n hn => by
                have h1 := HYB.out.2 (cnt n) (by rw [← HM6.out]; exact List.mem_map_of_mem hn)
                have := HYB.out.1
                unfold bdT cnt at h1
                unfold bdT
                simp only at h1
                omega
              have HBD4 := Lib.hid hbd4
              have HBD6 := Lib.hid hbd6
              have hn4i : (N4.length : Int) ≤ 3000 := by omega
              have hn6i : (N6.length : Int) ≤ 3000 := by omega
              have J7 := Lib.hid (J6.out.alloc #[.slice Ac DL cc, .int .i64 dl, .int .i64 1, .int .i64 (1 + (N4.length : Int)), .int .i64 M] 39)
              clear HX4' HX5' hbd4 hbd6 HXB HYB
              have hN6p : 0 < N6.length := by have := HN6.out; have := HYP.out rfl; omega
              obtain ⟨W7, hW7⟩ : ∃ W7, W7 = w6.alloc (.cells #[.slice Ac DL cc, .int .i64 dl, .int .i64 1, .int .i64 (1 + (N4.length : Int)), .int .i64 M] 39) := ⟨_, rfl⟩
              have HSZ7 : Hid (W7.heap.size = w6.heap.size + 1) := by show _ = _; rw [hW7, alloc_size']
              have HB7 : Hid (Below w6.heap.size w6 W7) := by show Below _ _ _; rw [hW7]; exact (Below.refl _ _).alloc (Nat.le_refl _) _
              have HOW7 : Hid (OwnN W7 w6.heap.size (.slice (some ⟨w6.heap.size, 0, none⟩) 1 1) [⟨Ac, cc, dc, dl, 1, 1 + (N4.length : Int), M⟩]) := by
                have := own_new (w := w6) ⟨Ac, cc, dc, dl, 1, 1 + (N4.length : Int), M⟩
                unfold ndC at this
                simp only at this
                rw [HDL.out, ← hW7] at this
                exact this
              have HT4 := Lib.hid ((HL4''.out.below HB7.out).mono HB7.out.size)
              have KH1 := Lib.hid (KSh.out W7 N4 A4 c4 1 1 rfl HT4.out (by omega) (by omega) HBD4.out)
              rw [← hW7] at J7
              go_upto_region 17 with fail
              rw [← hW7]
              clear hW7
              go_wp2_with fail
              refine KH1.out.mono ?_
              rintro e w8 ⟨⟨v8, rfl, o8⟩, b8⟩
              have HO8 := Lib.hid o8
              have HOW8 := Lib.hid (HOW7.out.below b8)
              have HB8 : Hid (Below w6.heap.size w6 w8) := HB7.out.trans (b8.mono HB7.out.size)
              have hps : 0 < (shL 1 N4).length := by rw [shL_len]; exact hN4p
              have hps3 : (shL 1 N4).length ≤ 1000000 := by rw [shL_len]; omega
              clear o8 b8 KH1
              go_upto_region 18 with (at_builtin; refine app_nds rfl (.tmp 110) (.tmp 112) rfl (.slice (some ⟨w6.heap.size, 0, none⟩) 1 1) v8 _ (shL 1 N4) rfl rfl HOW8.out HO8.out hps HB8.out.size (by simp) hps3 ?_; intro v9 w9 ho9 hb9; have HO9 := Lib.hid ho9; have HB9 := Lib.hid (HB8.out.trans hb9); clear ho9 hb9)
              have HT6 := Lib.hid ((HL6.out.below HB9.out).mono HB9.out.size)
              have KH2 := Lib.hid (KSh.out w9 N6 A6 c6 (1 + N4.length) (1 + (N4.length : Int)) (by omega) HT6.out (by omega) (by omega) HBD6.out)
              go_wp2_with fail
              refine KH2.out.mono ?_
              rintro e w10 ⟨⟨v10, rfl, o10⟩, b10⟩
              have HO10 := Lib.hid o10
              have HOW10 := Lib.hid (HO9.out.below b10)
              have HB10 : Hid (Below w6.heap.size w6 w10) := HB9.out.trans (b10.mono HB9.out.size)
              have hps2 : 0 < (shL (1 + N4.length) N6).length := by rw [shL_len]; exact hN6p
              have hps4 : (shL (1 + N4.length) N6).length ≤ 1000000 := by rw [shL_len]; omega
              have hps5 : ([(⟨Ac, cc, dc, dl, 1, 1 + (N4.length : Int), M⟩ : TN)] ++ shL 1 N4).length ≤ 1000000 := by rw [List.length_append, shL_len]; simp; omega
              have HNN : Hid (∀ NN, [(⟨Ac, cc, dc, dl, 1, 1 + (N4.length : Int), M⟩ : TN)] ++ shL 1 N4 ++ shL (1 + N4.length) N6 = NN → ∀ w11, Below w6.heap.size w6 w11 → NN.map cnt = (rootN (dc, dl, da, true, 0) M XG.length :: (shL 1 XG ++ shL (1 + XG.length) YG)) ∧ okT NN ∧ (∀ n ∈ NN, Lies w11 w11.heap.size n.a n.co) ∧ ∀ n ∈ NN, New w n.a) := fun NN hNN w11 hb => by
                subst hNN
                refine ⟨?_, ?_, ?_, ?_⟩
                · rw [List.map_append, List.map_append, shL_cnt, shL_cnt, HM4.out, HM6.out, ← HN4.out, List.append_assoc]
                  rfl
                · intro n hn
                  rcases List.mem_append.1 hn with hn | hn
                  · rcases List.mem_append.1 hn with hn | hn
                    · rw [List.mem_singleton.1 hn]
                      obtain ⟨g1, g2, g3, g4, g5, g6, g7⟩ := HOK.out _ (List.mem_singleton.2 rfl)
                      exact ⟨g1, g2, g3, g4, g5, (by unfold I64; simp only; omega), g7⟩
                    · exact okT_sh HO4.out HBD4.out (by omega) n hn
                  · exact okT_sh HO6.out HBD6.out (by omega) n hn
                · intro n hn
                  rcases List.mem_append.1 hn with hn | hn
                  · rcases List.mem_append.1 hn with hn | hn
                    · rw [List.mem_singleton.1 hn]
                      exact ((HL.out.below HB6.out).below (hb.mono HB6.out.size)).mono (Nat.le_trans HB6.out.size hb.size)
                    · exact lies_sh (fun m hm => ((HL4''.out.2 m hm).below hb).mono hb.size) n hn
                  · exact lies_sh (fun m hm => ((HL6.out.2 m hm).below hb).mono hb.size) n hn
                · intro n hn
                  rcases List.mem_append.1 hn with hn | hn
                  · rcases List.mem_append.1 hn with hn | hn
                    · rw [List.mem_singleton.1 hn]
                      exact HNW.out
                    · obtain ⟨m, hm, rfl⟩ := List.mem_map.1 hn
                      rw [(shN_a 1 m).1]
                      exact HW4.out m hm
                  · obtain ⟨m, hm, rfl⟩ := List.mem_map.1 hn
                    rw [(shN_a _ m).1]
                    exact HW6.out m hm
              clear o10 b10 KH2
              go_wp2_with (at_builtin; refine app_nds rfl (.tmp 114) (.tmp 119) rfl v9 v10 _ (shL (1 + N4.length) N6) rfl rfl HOW10.out HO10.out hps2 HB10.out.size hps5 hps4 ?_; intro v11 w11 ho11 hb11; obtain ⟨NN, hNN⟩ : ∃ NN, [(⟨Ac, cc, dc, dl, 1, 1 + (N4.length : Int), M⟩ : TN)] ++ shL 1 N4 ++ shL (1 + N4.length) N6 = NN := ⟨_, rfl⟩; rw [hNN] at ho11; obtain ⟨n1, n2, n3, n5⟩ := HNN.out NN hNN w11 (HB10.out.trans hb11); have nA := own_newN ho11 J6.out.2.2; obtain ⟨A11, c11, rfl, hl11⟩ := OwnN.lies ho11 n3; have HF := Lib.hid (show NN.map cnt = (rootN (dc, dl, da, true, 0) M XG.length :: (shL 1 XG ++ shL (1 + XG.length) YG)) ∧ okT NN ∧ LiesT w11 w11.heap.size A11 NN ∧ (New w A11 ∧ ∀ n ∈ NN, New w n.a) ∧ Below w6.heap.size w6 w11 from ⟨n1, n2, hl11, ⟨nA _ _ _ rfl, n5⟩, HB10.out.trans hb11⟩); clear ho11 hb11 n1 n2 n3 n5 nA hl11 hNN)
              go_ret3
              rw [HR.out]
              obtain ⟨n1, n2, n3, n5, n4⟩ := HF.out
              exact ⟨A11, NN, c11, rfl, n1, n3, n2, n5, J6.out.2.1.trans (n4.mono J6.out.2.2)⟩
            · have hyb : (ye != 0) = true := by simp [hy]
              have HR := Lib.hid (HX4'.out hy)
              go_wp2
              go_ret3
              rw [HR.out]
              exact givesGN_no J6.out.2.1
          · have hxb : (X.2.2 != 0) = true := by simp [hx]
            have HR := Lib.hid (HX3.out hx)
            clear HX4 HX5 hX hY
            generalize X.2.2 = xe at *
            go_wp2
            go_ret3
            rw [HR.out]
            exact givesGN_no J4.out.2.1
      · have hne : (de != 0) = true := by simp [he]
        have HR := Lib.hid (HG1.out he)
        go_wp2
        go_ret3
        rw [HR.out]
        exact givesGN_no J1.out.2.1
end Go.Proofs.Ytkkeejbgaaodeaa
