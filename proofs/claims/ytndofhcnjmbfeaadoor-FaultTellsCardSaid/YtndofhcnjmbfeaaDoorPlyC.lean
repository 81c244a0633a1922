/- What acts make: play. -/
import Derived.Test.YtndofhcnjmbfeaaDoorPlyB
namespace Go.Proofs.YtndofhcnjmbfeaaDoor
open Go.RowKit Go.Extern.Stop Go.Stop Go.Extern
set_option linter.unusedVariables false
set_option linter.unusedSimpArgs false

theorem box_six {w : World} {g : Nat} {a b c d e f : Value} {t : TypeId} (h : Box w g #[a, b, c, d, e, f] t) : w.cell? ⟨g, 0, none⟩ = some a ∧ w.cell? ⟨g, 1, none⟩ = some b ∧ w.cell? ⟨g, 2, none⟩ = some c ∧ w.cell? ⟨g, 3, none⟩ = some d ∧ w.cell? ⟨g, 4, none⟩ = some e ∧ w.cell? ⟨g, 5, none⟩ = some f :=
  ⟨h.cell 0, h.cell 1, h.cell 2, h.cell 3, h.cell 4, h.cell 5⟩
theorem below_dN {B : Nat} {a w : World} (h : Below B a w) (n : Nat) : Below B a (w.drewN n) := ⟨h.os, h.tape, h.output, h.size, h.block⟩
/-- the state in the middle of an act: its own copy, its node -/
def PX (B : Nat) (W : World) (vm vn vp : Value) (T : List FT) (bs : List Nat) (N : List Nd) (P : List Int) (gA gN : Nat) (xs ns : Array Value) (w : World) : Prop := PL B W vm vn vp T bs N P w ∧ Box w gA xs 42 ∧ Box w gN ns 52
theorem PX.below {B : Nat} {W w w' : World} {vm vn vp : Value} {T : List FT} {bs : List Nat} {N : List Nd} {P : List Int} {gA gN : Nat} {xs ns : Array Value} (h : PX B W vm vn vp T bs N P gA gN xs ns w) (hb : Below w.heap.size w w') : PX B W vm vn vp T bs N P gA gN xs ns w' := ⟨h.1.below hb, h.2.1.below hb h.2.1.lt, h.2.2.below hb h.2.2.lt⟩
theorem PX.placed {B : Nat} {W w w' : World} {vm vn vp vp' : Value} {T : List FT} {bs : List Nat} {N : List Nd} {P : List Int} {gA gN : Nat} {xs ns : Array Value} (h : PX B W vm vn vp T bs N P gA gN xs ns w) {x : Int} (ho : w'.ownsRow B 3 1 vp' (P.length + 1) (litJ P ++ [.int .i64 x])) (hb : Below B w w') (hk : Lib.OthersKept 3 none w w') : PX B W vm vn vp' T bs N (P ++ [x]) gA gN xs ns w' :=
  ⟨h.1.placed ho hb hk, box_kept h.2.1 hk (by decide) (by simp), box_kept h.2.2 hk (by decide) (by simp)⟩
theorem PX.made {B : Nat} {W w w' : World} {vm vm' vn vp : Value} {T : List FT} {bs : List Nat} {N : List Nd} {P : List Int} {gA gN : Nat} {xs ns : Array Value} (h : PX B W vm vn vp T bs N P gA gN xs ns w) {b : Nat} {t : FT} (hf : IsFault w t b) (hl : bs.length = T.length) (ho : w'.ownsRow B 31 1 vm' (bs.length + 1) (litB bs ++ [ptr b 0])) (hb : Below B w w') (hk : Lib.OthersKept 31 none w w') : PX B W vm' vn vp (T ++ [t]) (bs ++ [b]) N P gA gN xs ns w' :=
  ⟨h.1.made hf hl ho hb hk, box_kept h.2.1 hk (by decide) (by simp), box_kept h.2.2 hk (by decide) (by simp)⟩
theorem pl_len {B : Nat} {W w : World} {vm vn vp : Value} {T : List FT} {bs : List Nat} {N : List Nd} {P : List Int} (h : PL B W vm vn vp T bs N P w) : ∃ A c, vn = .slice A N.length c := pc_shape h.2.1
theorem Fit.add {T : List FT} {N : List Nd} {P : List Int} (h : Fit T N P) {t : FT} {n : Nd} (hn : okN4 n) (hi : NdIs (T ++ [t]) T.length n) : Fit (T ++ [t]) (N ++ [n]) (P ++ [(N.length : Int)]) := by
  obtain ⟨g1, g2, g3, g4, g5⟩ := (h.place (x := -1) (.inl rfl)).grow (by have := h.2.1; simp; omega) hn hi
  refine ⟨g1, by simpa using g2, g3, g4, fun j hj => ?_⟩
  rcases Nat.lt_or_ge j P.length with g | g
  · rw [getD_app _ _ _ g]
    rcases h.2.2.2.2 j g with e | ⟨k, hk, e⟩
    · exact .inl e
    · exact .inr ⟨k, by simp; omega, e⟩
  · rw [getD_end _ _ _ (by simp at hj; omega)]
    exact .inr ⟨N.length, by have := h.1; simp; omega, rfl⟩
set_option maxRecDepth 100000 in
set_option maxHeartbeats 16000000 in
theorem law_play (A : Option Addr) (l : List Ac) (c : Nat) (w : World) (hA : LiesA w w.heap.size A l) (hok : ∀ x ∈ l, okAc x) (hs : smallA l = true) :
    Calls Tryd.prog 6 #[.slice A l.length c] w fun e w' => ∃ vm vn vp T bs N P, e = .returned (.tuple #[vm, vn, .bool true]) ∧ PL w.heap.size w vm vn vp T bs N P w' ∧ Fit T N P ∧ bs.length = T.length ∧ T.length ≤ 12 := by
  have hsm : (∀ x ∈ l, x.op.size ≤ 100) ∧ l.length ≤ 12 := of_decide_eq_true hs
  have HA := Lib.hid hA
  have HOK : Hid (∀ k, k < l.length → okAc (l.getD k ac0) ∧ (l.getD k ac0).op.size ≤ 100) := fun k hk => by
    have hm : l.getD k ac0 ∈ l := by rw [List.getD_eq_getElem?_getD, List.getElem?_eq_getElem hk]; exact List.getElem_mem hk
    exact ⟨hok _ hm, hsm.1 _ hm⟩
  have hM := hsm.2
  clear hA hok hs hsm
  generalize hN : l.length = M at *
  have HN := Lib.hid hN
  clear hN
  go_enter Tryd.func6, Tryd.ntmps6
  go_wp2
  go_loopw [5, 6, 7, 8] (fun vm vn vp i wr => ∃ (k : Nat) (T : List FT) (bs : List Nat) (N : List Nd) (P : List Int), k ≤ M ∧ i = .int .i64 k ∧ Hid (PL w.heap.size w vm vn vp T bs N P wr) ∧ Hid (Fit T N P) ∧ Hid (bs.length = T.length) ∧ Hid (P.length = k)) (fun _ _ _ i _ => M - (intOf i).toNat)
  case atStart => exact ⟨0, [], [], [], [], by omega, rfl, ⟨World.ownsRow_nil _ _ _ _, World.ownsRow_nil _ _ _ _, World.ownsRow_nil _ _ _ _, (fun i hi => absurd hi (by simp)), Below.refl _ _, Nat.le_refl _⟩, Fit.start, rfl, rfl⟩
  case round =>
    obtain ⟨k, T, bs, N, P, hk, rfl, HPL, HFT, HBL, HPK⟩ := hrel
    by_cases hlt : k < M
    · obtain ⟨ad, rfl, _, hcell⟩ := (HA.out.below HPL.out.2.2.2.2.1) (by have := HN.out; omega)
      obtain ⟨c0, c1, c2, c3, c4, c5⟩ := hcell k (by have := HN.out; omega)
      obtain ⟨⟨o1, o2, o3, o4, o5, _⟩, o6⟩ := HOK.out k hlt
      clear hcell
      generalize l.getD k ac0 = x at *
      obtain ⟨xd, xo, xt, xc, xa, xb⟩ := x
      simp only at c0 c1 c2 c3 c4 c5 o1 o2 o3 o4 o5 o6
      have d1 := c1; have d2 := c2; have d3 := c3; have d4 := c4; have d5 := c5
      rw [← fld ad (k * 6) _ (by omega)] at d1 d2 d3 d4 d5
      have hkg : (k : Int) < (M : Int) := by omega
      have HOX := Lib.hid (show I64 xt ∧ I64 xc ∧ xo.size ≤ 100 from ⟨o2, o3, o6⟩)
      have HNL := Lib.hid HFT.out.1
      have htl : T.length ≤ 12 := by have := HFT.out.2.1; have := HPK.out; omega
      obtain ⟨An, cn, rfl⟩ := pl_len HPL.out
      go_wp2
      have b1 : Below wr.heap.size wr (wr.alloc (.cells #[.int .i64 xd, .string xo, .int .i64 xt, .int .i64 xc, .int .i64 xa, .int .i64 xb] 42)) := (Below.refl _ _).alloc (Nat.le_refl _) _
      have HP1 := Lib.hid (HPL.out.below b1)
      have HBX := Lib.hid (Box.new wr #[.int .i64 xd, .string xo, .int .i64 xt, .int .i64 xc, .int .i64 xa, .int .i64 xb] 42)
      have KA := Lib.hid (fun n (i : Int) => law_low i ((wr.alloc (.cells #[.int .i64 xd, .string xo, .int .i64 xt, .int .i64 xc, .int .i64 xa, .int .i64 xb] 42)).drewN n) (HP1.out.below (below_dN (Below.refl _ _) n)).2.2.1)
      obtain ⟨e0, e1, e2, e3, e4, e5⟩ := box_six HBX.out
      have HLA := Lib.hid (lowV_fit HFT.out xa)
      have HLB := Lib.hid (lowV_fit HFT.out xb)
      clear c0 c1 c2 c3 c4 c5 d1 d2 d3 d4 d5 b1
      go_quiet ((go_at_call 20; exact Calls.quiet_of_same (still_of (KA.out _ _))))
      generalize lowV P xa = al at *
      generalize lowV P xb = be at *
      have HP2 := Lib.hid (HP1.out.below (below_dN (Below.refl _ _) nq))
      have HB2 := Lib.hid (HBX.out.drewN nq)
      clear KA HP1 HBX HPL e0 e1 e2 e3 e4 e5
      generalize (wr.alloc (.cells #[.int .i64 xd, .string xo, .int .i64 xt, .int .i64 xc, .int .i64 xa, .int .i64 xb] 42)).drewN nq = w1 at *
      generalize hgA : wr.heap.size = gA at *
      clear hgA
      obtain ⟨e0, e1, e2, e3, e4, e5⟩ := box_six HB2.out
      have bn : Below w1.heap.size w1 (w1.alloc (.cells #[.int .i64 xd, .string xo, .int .i64 xt, .int .i64 xc, .int .i64 al, .int .i64 be] 52)) := (Below.refl _ _).alloc (Nat.le_refl _) _
      have HX := Lib.hid (show PX w.heap.size w u5 (.slice An N.length cn) u7 T bs N P gA w1.heap.size #[.int .i64 xd, .string xo, .int .i64 xt, .int .i64 xc, .int .i64 xa, .int .i64 xb] #[.int .i64 xd, .string xo, .int .i64 xt, .int .i64 xc, .int .i64 al, .int .i64 be] (w1.alloc (.cells #[.int .i64 xd, .string xo, .int .i64 xt, .int .i64 xc, .int .i64 al, .int .i64 be] 52)) from ⟨HP2.out.below bn, HB2.out.below bn HB2.out.lt, Box.new _ _ _⟩)
      clear bn HP2 HB2
      by_cases hd0 : xd = 0
      · subst hd0
        by_cases hz : xc = 0
        · skip
          subst hz
          obtain ⟨h0, h1, h2, h3, h4, h5⟩ := box_six HX.out.2.1
          go_wp2_with fail
          generalize w1.alloc (.cells #[.int .i64 0, .string xo, .int .i64 xt, .int .i64 0, .int .i64 al, .int .i64 be] 52) = w2 at *
          generalize w1.heap.size = gN at *
          obtain ⟨e0, e1, e2, e3, e4, e5⟩ := box_six HX.out.2.1
          obtain ⟨n0, n1, n2, n3, n4, n5⟩ := box_six HX.out.2.2
          refine (fau_new0 xo xt _).mono ?_
          rintro e w3 ⟨rfl, rfl⟩
          go_wp2_with (at_builtin; refine app_gen 3 49 1 8 _ Tryd.underlying49 info_jt rfl (by decide) (by decide) rfl (.tmp 90) (.tmp 92) rfl _ P.length (litJ P) [.int .i64 (-1)] rfl HX.out.1.2.2.1 rfl rfl (by intro u hu; simp at hu; first | (subst hu; rfl) | (rcases hu with rfl | rfl | rfl | rfl | rfl | rfl <;> rfl)) HX.out.1.2.2.2.2.2 (by have := HPK.out; omega) ?_; intro v4 w4 ho4 hb4 hk4; have HY := Lib.hid (HX.out.placed ho4 hb4 hk4); clear ho4 hb4 hk4)
          exact ⟨⟨k + 1, T, bs, N, P ++ [(-1)], by omega, by go_num, HY.out.1, HFT.out.place (.inl rfl), HBL.out, by show _ = _; rw [List.length_append, HPK.out]; rfl⟩, by first | (simp [intOf]; done) | (simp [intOf]; omega)⟩
        · skip
          have hzf : (xc == 0) = false := by simpa using hz
          obtain ⟨h0, h1, h2, h3, h4, h5⟩ := box_six HX.out.2.1
          go_wp2_with fail
          generalize w1.alloc (.cells #[.int .i64 0, .string xo, .int .i64 xt, .int .i64 xc, .int .i64 al, .int .i64 be] 52) = w2 at *
          generalize w1.heap.size = gN at *
          obtain ⟨e0, e1, e2, e3, e4, e5⟩ := box_six HX.out.2.1
          obtain ⟨n0, n1, n2, n3, n4, n5⟩ := box_six HX.out.2.2
          refine (fau_new xo xt xc hz _).mono ?_
          rintro e w3 ⟨rfl, rfl⟩
          have HX2 := Lib.hid (HX.out.below ((Below.refl w2.heap.size w2).alloc (Nat.le_refl _) (.cells #[codedV xo xt xc] 74)))
          have HF2 := Lib.hid (isf_code w2 xo xt xc)
          generalize w2.alloc (.cells #[codedV xo xt xc] 74) = w3 at *
          generalize w2.heap.size = gF at *
          obtain ⟨e0, e1, e2, e3, e4, e5⟩ := box_six HX2.out.2.1
          obtain ⟨n0, n1, n2, n3, n4, n5⟩ := box_six HX2.out.2.2
          have tokP : True := trivial
          have tokM : True := trivial
          go_wp2_with (first
            | (at_builtin; have _t := tokP; refine app_gen 3 49 1 8 _ Tryd.underlying49 info_jt rfl (by decide) (by decide) rfl (.tmp 90) (.tmp 92) rfl _ P.length (litJ P) [.int .i64 N.length] rfl HX2.out.1.2.2.1 rfl rfl (by intro u hu; simp at hu; first | (subst hu; rfl) | (rcases hu with rfl | rfl | rfl | rfl | rfl | rfl <;> rfl)) HX2.out.1.2.2.2.2.2 (by have := HPK.out; omega) ?_; intro v4 w4 ho4 hb4 hk4; clear tokP; have HY := Lib.hid (HX2.out.placed ho4 hb4 hk4); have HFY := Lib.hid (HF2.out.same (same_kept hk4 (by decide))); obtain ⟨n0, n1, n2, n3, n4, n5⟩ := box_six HY.out.2.2; clear ho4 hb4 hk4)
            | (at_builtin; have _t := tokM; refine app_gen 31 25 1 8 _ Tryd.underlying25 info_pb rfl (by decide) (by decide) rfl (.tmp 98) (.tmp 100) rfl _ bs.length (litB bs) [ptr gF 0] rfl HY.out.1.1 rfl rfl (by intro u hu; simp at hu; first | (subst hu; rfl) | (rcases hu with rfl | rfl | rfl | rfl | rfl | rfl <;> rfl)) HY.out.1.2.2.2.2.2 (by have := HBL.out; omega) ?_; intro v5 w5 ho5 hb5 hk5; clear tokM; have HY2 := Lib.hid (HY.out.made HFY.out HBL.out ho5 hb5 hk5); obtain ⟨n0, n1, n2, n3, n4, n5⟩ := box_six HY2.out.2.2; clear ho5 hb5 hk5)
            | (at_builtin; refine app_gen 52 26 6 56 _ Tryd.underlying26 info_nd rfl (by decide) (by decide) rfl (.tmp 102) (.tmp 104) rfl _ N.length (litN N) [.int .i64 0, .string xo, .int .i64 xt, .int .i64 xc, .int .i64 al, .int .i64 be] rfl HY2.out.1.2.1 rfl rfl (by intro u hu; simp at hu; first | (subst hu; rfl) | (rcases hu with rfl | rfl | rfl | rfl | rfl | rfl <;> rfl)) HY2.out.1.2.2.2.2.2 (by have := HNL.out; omega) ?_; intro v6 w6 ho6 hb6 hk6; have HY3 := Lib.hid (HY2.out.1.noded (n := ⟨0, xo, xt, xc, al, be⟩) ho6 hb6 hk6); clear ho6 hb6 hk6))
          exact ⟨⟨k + 1, T ++ [(.code xo xt xc : FT)], bs ++ [gF], N ++ [(⟨0, xo, xt, xc, al, be⟩ : Nd)], P ++ [(N.length : Int)], by omega, by go_num, HY3, HFT.out.add ⟨HOX.out.1, HOX.out.2.1, HOX.out.2.2⟩ (.inl ⟨rfl, hz, getD_end _ _ _ rfl⟩), by show _ = _; rw [List.length_append, List.length_append, HBL.out]; rfl, by show _ = _; rw [List.length_append, HPK.out]; rfl⟩, by first | (simp [intOf]; done) | (simp [intOf]; omega)⟩
      · have hdf0 : (xd == 0) = false := by simpa using hd0
        by_cases hd1 : xd = 1
        · subst hd1
          rcases HLA.out with rfl | ⟨j, hj, rfl⟩
          · skip
            obtain ⟨h0, h1, h2, h3, h4, h5⟩ := box_six HX.out.2.1
            go_wp2
            generalize w1.alloc (.cells #[.int .i64 1, .string xo, .int .i64 xt, .int .i64 xc, .int .i64 (-1), .int .i64 be] 52) = w2 at *
            generalize w1.heap.size = gN at *
            have HX := Lib.hid (HX.out.below (Below.refl _ _).drew)
            obtain ⟨e0, e1, e2, e3, e4, e5⟩ := box_six HX.out.2.1
            obtain ⟨n0, n1, n2, n3, n4, n5⟩ := box_six HX.out.2.2
            have hown := Lib.hid HX.out.1.1
            go_region_held3 (fun W => W.cell? ⟨gA, 1, none⟩ = some (.string xo) ∧ W.cell? ⟨gA, 2, none⟩ = some (.int .i64 xt)) (go_keep)
              (first
                | (go_at_call 21; (refine (law_at (-1) _ hown.out (.inl rfl)).mono ?_); rintro e w3 ⟨rfl, rfl⟩)
                | (go_at_call 14; (refine (fau_wrap0 xo xt _).mono ?_); rintro e w3 ⟨rfl, rfl⟩))
            go_wp2_with (at_builtin; refine app_gen 3 49 1 8 _ Tryd.underlying49 info_jt rfl (by decide) (by decide) rfl (.tmp 90) (.tmp 92) rfl _ P.length (litJ P) [.int .i64 (-1)] rfl HX.out.1.2.2.1 rfl rfl (by intro u hu; simp at hu; first | (subst hu; rfl) | (rcases hu with rfl | rfl | rfl | rfl | rfl | rfl <;> rfl)) HX.out.1.2.2.2.2.2 (by have := HPK.out; omega) ?_; intro v4 w4 ho4 hb4 hk4; have HY := Lib.hid (HX.out.placed ho4 hb4 hk4); clear ho4 hb4 hk4)
            exact ⟨⟨k + 1, T, bs, N, P ++ [(-1)], by omega, by go_num, HY.out.1, HFT.out.place (.inl rfl), HBL.out, by show _ = _; rw [List.length_append, HPK.out]; rfl⟩, by first | (simp [intOf]; done) | (simp [intOf]; omega)⟩
          · skip
            have hjf : ¬ ((j : Nat) : Int) < 0 := by omega
            obtain ⟨h0, h1, h2, h3, h4, h5⟩ := box_six HX.out.2.1
            go_wp2
            generalize w1.alloc (.cells #[.int .i64 1, .string xo, .int .i64 xt, .int .i64 xc, .int .i64 (j : Int), .int .i64 be] 52) = w2 at *
            generalize w1.heap.size = gN at *
            have HX := Lib.hid (HX.out.below (Below.refl _ _).drew)
            obtain ⟨e0, e1, e2, e3, e4, e5⟩ := box_six HX.out.2.1
            obtain ⟨n0, n1, n2, n3, n4, n5⟩ := box_six HX.out.2.2
            have KAT := Lib.hid (law_at (j : Int) _ HX.out.1.1 (.inr ⟨j, by have := HBL.out; omega, rfl⟩))
            rw [if_neg (by omega), show ((j : Int)).toNat = j from by omega] at KAT
            have HFJ := Lib.hid (HX.out.1.2.2.2.1 j hj)
            generalize bs.getD j 0 = bj at *
            have HX2 := Lib.hid (HX.out.below ((Below.refl w2.drew.heap.size w2.drew).alloc (Nat.le_refl _) (.cells #[wrapV xo xt (some ⟨bj, 0, none⟩)] 74)))
            have HF2 := Lib.hid (isf_wrap HFJ.out xo xt)
            go_region_held3 (fun W => W.cell? ⟨gA, 1, none⟩ = some (.string xo) ∧ W.cell? ⟨gA, 2, none⟩ = some (.int .i64 xt)) (go_keep)
              (first
                | (go_at_call 21; (refine KAT.out.mono ?_); rintro e w3 ⟨rfl, rfl⟩)
                | (go_at_call 14; (refine (fau_wrap xo xt ⟨bj, 0, none⟩ _).mono ?_); rintro e w3 ⟨rfl, rfl⟩; obtain ⟨e0, e1, e2, e3, e4, e5⟩ := box_six HX2.out.2.1))
            have HF3 : Hid (IsFault (w2.alloc (.cells #[wrapV xo xt (some ⟨bj, 0, none⟩)] 74)).drew (.wrap xo xt (T.getD j tD)) w2.heap.size) := HF2.out
            have HX3 : Hid (PX w.heap.size w u5 (.slice An N.length cn) u7 T bs N P gA gN _ _ (w2.alloc (.cells #[wrapV xo xt (some ⟨bj, 0, none⟩)] 74)).drew) := HX2.out
            clear HX2 HF2 e0 e1 e2 e3 e4 e5
            generalize (w2.alloc (.cells #[wrapV xo xt (some ⟨bj, 0, none⟩)] 74)).drew = w3 at *
            generalize w2.heap.size = gF at *
            obtain ⟨e0, e1, e2, e3, e4, e5⟩ := box_six HX3.out.2.1
            obtain ⟨n0, n1, n2, n3, n4, n5⟩ := box_six HX3.out.2.2
            have tokP : True := trivial
            have tokM : True := trivial
            go_wp2_with (first
              | (at_builtin; have _t := tokP; refine app_gen 3 49 1 8 _ Tryd.underlying49 info_jt rfl (by decide) (by decide) rfl (.tmp 90) (.tmp 92) rfl _ P.length (litJ P) [.int .i64 N.length] rfl HX3.out.1.2.2.1 rfl rfl (by intro u hu; simp at hu; first | (subst hu; rfl) | (rcases hu with rfl | rfl | rfl | rfl | rfl | rfl <;> rfl)) HX3.out.1.2.2.2.2.2 (by have := HPK.out; omega) ?_; intro v4 w4 ho4 hb4 hk4; clear tokP; have HY := Lib.hid (HX3.out.placed ho4 hb4 hk4); have HFY := Lib.hid (HF3.out.same (same_kept hk4 (by decide))); obtain ⟨n0, n1, n2, n3, n4, n5⟩ := box_six HY.out.2.2; clear ho4 hb4 hk4)
              | (at_builtin; have _t := tokM; refine app_gen 31 25 1 8 _ Tryd.underlying25 info_pb rfl (by decide) (by decide) rfl (.tmp 98) (.tmp 100) rfl _ bs.length (litB bs) [ptr gF 0] rfl HY.out.1.1 rfl rfl (by intro u hu; simp at hu; first | (subst hu; rfl) | (rcases hu with rfl | rfl | rfl | rfl | rfl | rfl <;> rfl)) HY.out.1.2.2.2.2.2 (by have := HBL.out; omega) ?_; intro v5 w5 ho5 hb5 hk5; clear tokM; have HY2 := Lib.hid (HY.out.made HFY.out HBL.out ho5 hb5 hk5); obtain ⟨n0, n1, n2, n3, n4, n5⟩ := box_six HY2.out.2.2; clear ho5 hb5 hk5)
              | (at_builtin; refine app_gen 52 26 6 56 _ Tryd.underlying26 info_nd rfl (by decide) (by decide) rfl (.tmp 102) (.tmp 104) rfl _ N.length (litN N) [.int .i64 1, .string xo, .int .i64 xt, .int .i64 xc, .int .i64 (j : Int), .int .i64 be] rfl HY2.out.1.2.1 rfl rfl (by intro u hu; simp at hu; first | (subst hu; rfl) | (rcases hu with rfl | rfl | rfl | rfl | rfl | rfl <;> rfl)) HY2.out.1.2.2.2.2.2 (by have := HNL.out; omega) ?_; intro v6 w6 ho6 hb6 hk6; have HY3 := Lib.hid (HY2.out.1.noded (n := ⟨1, xo, xt, xc, (j : Int), be⟩) ho6 hb6 hk6); clear ho6 hb6 hk6))
            exact ⟨⟨k + 1, T ++ [(.wrap xo xt (T.getD j tD) : FT)], bs ++ [gF], N ++ [(⟨1, xo, xt, xc, (j : Int), be⟩ : Nd)], P ++ [(N.length : Int)], by omega, by go_num, HY3, HFT.out.add ⟨HOX.out.1, HOX.out.2.1, HOX.out.2.2⟩ (.inr (.inl ⟨rfl, j, hj, rfl, by rw [getD_end _ _ _ rfl, getD_app _ _ _ hj]⟩)), by show _ = _; rw [List.length_append, List.length_append, HBL.out]; rfl, by show _ = _; rw [List.length_append, HPK.out]; rfl⟩, by first | (simp [intOf]; done) | (simp [intOf]; omega)⟩
        · have hdf1 : (xd == 1) = false := by simpa using hd1
          rcases HLA.out with rfl | ⟨ja, hja, rfl⟩
          · rcases HLB.out with rfl | ⟨jb, hjb, rfl⟩
            · skip
              obtain ⟨h0, h1, h2, h3, h4, h5⟩ := box_six HX.out.2.1
              go_wp2_with fail
              generalize w1.alloc (.cells #[.int .i64 xd, .string xo, .int .i64 xt, .int .i64 xc, .int .i64 (-1), .int .i64 (-1)] 52) = w2 at *
              generalize w1.heap.size = gN at *
              obtain ⟨e0, e1, e2, e3, e4, e5⟩ := box_six HX.out.2.1
              obtain ⟨n0, n1, n2, n3, n4, n5⟩ := box_six HX.out.2.2
              have KA := Lib.hid (law_at (-1) w2 HX.out.1.1 (.inl rfl))
              rw [if_pos (by decide)] at KA
              have KB := Lib.hid (law_at (-1) w2 HX.out.1.1 (.inl rfl))
              rw [if_pos (by decide)] at KB
              refine KA.out.mono ?_
              rintro e w3 ⟨rfl, rfl⟩
              go_wp2_with fail
              refine KB.out.mono ?_
              rintro e w3 ⟨rfl, rfl⟩
              go_wp2_with fail
              refine (fau_both_n none _).mono ?_
              rintro e w3 ⟨rfl, rfl⟩
              go_wp2_with (at_builtin; refine app_gen 3 49 1 8 _ Tryd.underlying49 info_jt rfl (by decide) (by decide) rfl (.tmp 90) (.tmp 92) rfl _ P.length (litJ P) [.int .i64 (-1)] rfl HX.out.1.2.2.1 rfl rfl (by intro u hu; simp at hu; first | (subst hu; rfl) | (rcases hu with rfl | rfl | rfl | rfl | rfl | rfl <;> rfl)) HX.out.1.2.2.2.2.2 (by have := HPK.out; omega) ?_; intro v4 w4 ho4 hb4 hk4; have HY := Lib.hid (HX.out.placed ho4 hb4 hk4); clear ho4 hb4 hk4)
              exact ⟨⟨k + 1, T, bs, N, P ++ [(-1)], by omega, by go_num, HY.out.1, HFT.out.place (.inl rfl), HBL.out, by show _ = _; rw [List.length_append, HPK.out]; rfl⟩, by first | (simp [intOf]; done) | (simp [intOf]; omega)⟩
            · skip
              obtain ⟨h0, h1, h2, h3, h4, h5⟩ := box_six HX.out.2.1
              go_wp2_with fail
              generalize w1.alloc (.cells #[.int .i64 xd, .string xo, .int .i64 xt, .int .i64 xc, .int .i64 (-1), .int .i64 (jb : Int)] 52) = w2 at *
              generalize w1.heap.size = gN at *
              obtain ⟨e0, e1, e2, e3, e4, e5⟩ := box_six HX.out.2.1
              obtain ⟨n0, n1, n2, n3, n4, n5⟩ := box_six HX.out.2.2
              have KA := Lib.hid (law_at (-1) w2 HX.out.1.1 (.inl rfl))
              rw [if_pos (by decide)] at KA
              have KB := Lib.hid (law_at (jb : Int) w2 HX.out.1.1 (.inr ⟨jb, by have := HBL.out; omega, rfl⟩))
              rw [if_neg (by omega), show ((jb : Int)).toNat = jb from by omega] at KB
              have HFB := Lib.hid (HX.out.1.2.2.2.1 jb hjb)
              generalize bs.getD jb 0 = bjb at *
              have hnjb : ¬ ((jb : Nat) : Int) < 0 := by omega
              refine KA.out.mono ?_
              rintro e w3 ⟨rfl, rfl⟩
              go_wp2_with fail
              refine KB.out.mono ?_
              rintro e w3 ⟨rfl, rfl⟩
              go_wp2_with fail
              have hnl : ((jb : Int) == (N.length : Int)) = false := by rw [beq_eq_false_iff_ne]; have := HNL.out; omega
              refine (fau_both_n (some ⟨bjb, 0, none⟩) _).mono ?_
              rintro e w3 ⟨rfl, rfl⟩
              go_wp2_with (at_builtin; refine app_gen 3 49 1 8 _ Tryd.underlying49 info_jt rfl (by decide) (by decide) rfl (.tmp 90) (.tmp 92) rfl _ P.length (litJ P) [.int .i64 (jb : Int)] rfl HX.out.1.2.2.1 rfl rfl (by intro u hu; simp at hu; first | (subst hu; rfl) | (rcases hu with rfl | rfl | rfl | rfl | rfl | rfl <;> rfl)) HX.out.1.2.2.2.2.2 (by have := HPK.out; omega) ?_; intro v4 w4 ho4 hb4 hk4; have HY := Lib.hid (HX.out.placed ho4 hb4 hk4); clear ho4 hb4 hk4)
              exact ⟨⟨k + 1, T, bs, N, P ++ [(jb : Int)], by omega, by go_num, HY.out.1, HFT.out.place (.inr ⟨jb, hjb, rfl⟩), HBL.out, by show _ = _; rw [List.length_append, HPK.out]; rfl⟩, by first | (simp [intOf]; done) | (simp [intOf]; omega)⟩
          · rcases HLB.out with rfl | ⟨jb, hjb, rfl⟩
            · skip
              obtain ⟨h0, h1, h2, h3, h4, h5⟩ := box_six HX.out.2.1
              go_wp2_with fail
              generalize w1.alloc (.cells #[.int .i64 xd, .string xo, .int .i64 xt, .int .i64 xc, .int .i64 (ja : Int), .int .i64 (-1)] 52) = w2 at *
              generalize w1.heap.size = gN at *
              obtain ⟨e0, e1, e2, e3, e4, e5⟩ := box_six HX.out.2.1
              obtain ⟨n0, n1, n2, n3, n4, n5⟩ := box_six HX.out.2.2
              have KA := Lib.hid (law_at (ja : Int) w2 HX.out.1.1 (.inr ⟨ja, by have := HBL.out; omega, rfl⟩))
              rw [if_neg (by omega), show ((ja : Int)).toNat = ja from by omega] at KA
              have HFA := Lib.hid (HX.out.1.2.2.2.1 ja hja)
              generalize bs.getD ja 0 = bja at *
              have hnja : ¬ ((ja : Nat) : Int) < 0 := by omega
              have KB := Lib.hid (law_at (-1) w2 HX.out.1.1 (.inl rfl))
              rw [if_pos (by decide)] at KB
              refine KA.out.mono ?_
              rintro e w3 ⟨rfl, rfl⟩
              go_wp2_with fail
              refine KB.out.mono ?_
              rintro e w3 ⟨rfl, rfl⟩
              go_wp2_with fail
              have hnl : ((ja : Int) == (N.length : Int)) = false := by rw [beq_eq_false_iff_ne]; have := HNL.out; omega
              refine (fau_both_1 ⟨bja, 0, none⟩ _).mono ?_
              rintro e w3 ⟨rfl, rfl⟩
              go_wp2_with (at_builtin; refine app_gen 3 49 1 8 _ Tryd.underlying49 info_jt rfl (by decide) (by decide) rfl (.tmp 90) (.tmp 92) rfl _ P.length (litJ P) [.int .i64 (ja : Int)] rfl HX.out.1.2.2.1 rfl rfl (by intro u hu; simp at hu; first | (subst hu; rfl) | (rcases hu with rfl | rfl | rfl | rfl | rfl | rfl <;> rfl)) HX.out.1.2.2.2.2.2 (by have := HPK.out; omega) ?_; intro v4 w4 ho4 hb4 hk4; have HY := Lib.hid (HX.out.placed ho4 hb4 hk4); clear ho4 hb4 hk4)
              exact ⟨⟨k + 1, T, bs, N, P ++ [(ja : Int)], by omega, by go_num, HY.out.1, HFT.out.place (.inr ⟨ja, hja, rfl⟩), HBL.out, by show _ = _; rw [List.length_append, HPK.out]; rfl⟩, by first | (simp [intOf]; done) | (simp [intOf]; omega)⟩
            · skip
              obtain ⟨h0, h1, h2, h3, h4, h5⟩ := box_six HX.out.2.1
              go_wp2_with fail
              generalize w1.alloc (.cells #[.int .i64 xd, .string xo, .int .i64 xt, .int .i64 xc, .int .i64 (ja : Int), .int .i64 (jb : Int)] 52) = w2 at *
              generalize w1.heap.size = gN at *
              obtain ⟨e0, e1, e2, e3, e4, e5⟩ := box_six HX.out.2.1
              obtain ⟨n0, n1, n2, n3, n4, n5⟩ := box_six HX.out.2.2
              have KA := Lib.hid (law_at (ja : Int) w2 HX.out.1.1 (.inr ⟨ja, by have := HBL.out; omega, rfl⟩))
              rw [if_neg (by omega), show ((ja : Int)).toNat = ja from by omega] at KA
              have HFA := Lib.hid (HX.out.1.2.2.2.1 ja hja)
              generalize bs.getD ja 0 = bja at *
              have hnja : ¬ ((ja : Nat) : Int) < 0 := by omega
              have KB := Lib.hid (law_at (jb : Int) w2 HX.out.1.1 (.inr ⟨jb, by have := HBL.out; omega, rfl⟩))
              rw [if_neg (by omega), show ((jb : Int)).toNat = jb from by omega] at KB
              have HFB := Lib.hid (HX.out.1.2.2.2.1 jb hjb)
              generalize bs.getD jb 0 = bjb at *
              have hnjb : ¬ ((jb : Nat) : Int) < 0 := by omega
              refine KA.out.mono ?_
              rintro e w3 ⟨rfl, rfl⟩
              go_wp2_with fail
              refine KB.out.mono ?_
              rintro e w3 ⟨rfl, rfl⟩
              go_wp2_with fail
              refine (fau_both ⟨bja, 0, none⟩ ⟨bjb, 0, none⟩ _).mono ?_
              rintro e w3 ⟨rfl, rfl⟩
              have HX2 := Lib.hid (HX.out.below ((Below.refl w2.heap.size w2).alloc (Nat.le_refl _) (.cells #[bothV (some ⟨bja, 0, none⟩) (some ⟨bjb, 0, none⟩)] 74)))
              have HF2 := Lib.hid (isf_both HFA.out HFB.out)
              generalize w2.alloc (.cells #[bothV (some ⟨bja, 0, none⟩) (some ⟨bjb, 0, none⟩)] 74) = w3 at *
              generalize w2.heap.size = gF at *
              obtain ⟨e0, e1, e2, e3, e4, e5⟩ := box_six HX2.out.2.1
              obtain ⟨n0, n1, n2, n3, n4, n5⟩ := box_six HX2.out.2.2
              have tokP : True := trivial
              have tokM : True := trivial
              go_wp2_with (first
                | (at_builtin; have _t := tokP; refine app_gen 3 49 1 8 _ Tryd.underlying49 info_jt rfl (by decide) (by decide) rfl (.tmp 90) (.tmp 92) rfl _ P.length (litJ P) [.int .i64 N.length] rfl HX2.out.1.2.2.1 rfl rfl (by intro u hu; simp at hu; first | (subst hu; rfl) | (rcases hu with rfl | rfl | rfl | rfl | rfl | rfl <;> rfl)) HX2.out.1.2.2.2.2.2 (by have := HPK.out; omega) ?_; intro v4 w4 ho4 hb4 hk4; clear tokP; have HY := Lib.hid (HX2.out.placed ho4 hb4 hk4); have HFY := Lib.hid (HF2.out.same (same_kept hk4 (by decide))); obtain ⟨n0, n1, n2, n3, n4, n5⟩ := box_six HY.out.2.2; clear ho4 hb4 hk4)
                | (at_builtin; have _t := tokM; refine app_gen 31 25 1 8 _ Tryd.underlying25 info_pb rfl (by decide) (by decide) rfl (.tmp 98) (.tmp 100) rfl _ bs.length (litB bs) [ptr gF 0] rfl HY.out.1.1 rfl rfl (by intro u hu; simp at hu; first | (subst hu; rfl) | (rcases hu with rfl | rfl | rfl | rfl | rfl | rfl <;> rfl)) HY.out.1.2.2.2.2.2 (by have := HBL.out; omega) ?_; intro v5 w5 ho5 hb5 hk5; clear tokM; have HY2 := Lib.hid (HY.out.made HFY.out HBL.out ho5 hb5 hk5); obtain ⟨n0, n1, n2, n3, n4, n5⟩ := box_six HY2.out.2.2; clear ho5 hb5 hk5)
                | (at_builtin; refine app_gen 52 26 6 56 _ Tryd.underlying26 info_nd rfl (by decide) (by decide) rfl (.tmp 102) (.tmp 104) rfl _ N.length (litN N) [.int .i64 xd, .string xo, .int .i64 xt, .int .i64 xc, .int .i64 (ja : Int), .int .i64 (jb : Int)] rfl HY2.out.1.2.1 rfl rfl (by intro u hu; simp at hu; first | (subst hu; rfl) | (rcases hu with rfl | rfl | rfl | rfl | rfl | rfl <;> rfl)) HY2.out.1.2.2.2.2.2 (by have := HNL.out; omega) ?_; intro v6 w6 ho6 hb6 hk6; have HY3 := Lib.hid (HY2.out.1.noded (n := ⟨xd, xo, xt, xc, (ja : Int), (jb : Int)⟩) ho6 hb6 hk6); clear ho6 hb6 hk6))
              exact ⟨⟨k + 1, T ++ [(.both (T.getD ja tD) (T.getD jb tD) : FT)], bs ++ [gF], N ++ [(⟨xd, xo, xt, xc, (ja : Int), (jb : Int)⟩ : Nd)], P ++ [(N.length : Int)], by omega, by go_num, HY3, HFT.out.add ⟨HOX.out.1, HOX.out.2.1, HOX.out.2.2⟩ (.inr (.inr ⟨hd0, hd1, ja, jb, hja, hjb, rfl, rfl, by rw [getD_end _ _ _ rfl, getD_app _ _ _ hja, getD_app _ _ _ hjb]⟩)), by show _ = _; rw [List.length_append, List.length_append, HBL.out]; rfl, by show _ = _; rw [List.length_append, HPK.out]; rfl⟩, by first | (simp [intOf]; done) | (simp [intOf]; omega)⟩
    · obtain rfl : k = M := by omega
      go_wp2
      go_ret3
      exact ⟨_, _, _, T, bs, N, P, rfl, HPL.out, HFT.out, HBL.out, by have := HFT.out.2.1; have := HPK.out; omega⟩
end Go.Proofs.YtndofhcnjmbfeaaDoor
