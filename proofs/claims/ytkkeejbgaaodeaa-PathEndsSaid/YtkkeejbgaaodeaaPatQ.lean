import Derived.Test.YtkkeejbgaaodeaaPatP

/-! Layer 12's reference: Lengths. -/
namespace Go.Proofs.Ytkkeejbgaaodeaa
open Go.RowKit
set_option linter.unusedVariables false
set_option linter.unusedSimpArgs false

/-- wp_region_steps, with what the slots hold at the beginning -/
theorem wp_region_steps0 {P : Program} {ops : Array Oper} {Q : Exit → Act → World → Prop} {id : Nat} {a0 : Act} {w : World} (J : (Nat → Bool) → List Value → World → Prop) (pre : List (List Nat)) (hm : P.follows .mixedOrders = true)
    (hap : dstApart ops.toList = true) (hbk : backward ops = true) (hpre : (List.range ops.size).map (hangsOn ops) = pre)
    (hJ : ∀ f g vs w, (∀ k, k < ops.size → f k = g k) → J f vs w → J g vs w)
    (h0 : ∀ vs, vs.length = ops.size → putAll ops.toList vs a0 = a0 → J (fun _ => false) vs w.drew)
    (hst : Steps P ops Q J a0 0 ops.toList pre)
    (hQ : ∀ vs w, vs.length = ops.size → J (fun _ => true) vs w → Q .normal (putAll ops.toList vs a0) w) :
    (Code.region id ops true).wp P Q a0 w := by
  refine wp_region_any hm ?_
  obtain ⟨vs, hv, he⟩ := putAll_start ops.toList a0
  have := wpAny_inv (P := P) hap hbk (fun i o ho => ?_) hQ hJ ops.size (Array.replicate ops.size false) vs w.drew (by simp) (by
    refine Nat.le_trans List.countP_le_length ?_
    simp) (by simpa using hv) (hJ _ _ _ _ (fun k hk => by rw [Array.getD_eq_getD_getElem?]; simp [hk]) (h0 vs (by simpa using hv) he))
  · rw [he] at this
    exact this
  obtain ⟨p, hp, hs⟩ := steps_at ops.toList pre 0 hst i o (by rw [Array.getElem?_toList]; exact ho)
  rw [Nat.zero_add] at hs
  intro f vs w hl hf hj
  refine hs f vs w hl hf (fun j hjp => hj j ?_)
  have hi : i < ops.size := by
    rcases Nat.lt_or_ge i ops.size with h | h
    · exact h
    · rw [Array.getElem?_eq_none h] at ho; cases ho
  rw [← hpre, List.getElem?_map, List.getElem?_range hi] at hp
  obtain rfl : hangsOn ops i = p := by simpa using hp
  exact hjp
theorem i64_idP {x : Int} (h : -9223372036854775808 ≤ x ∧ x ≤ 9223372036854775807) : IntKind.i64.wrap x = x := by
  rw [i64w]
  omega
theorem nrm_small : ∀ n, n < 65 → normN n ≤ 10000000000 := by decide +kernel
theorem lenP_small {dep sz : Int} (hd : 0 ≤ dep ∧ dep ≤ 126) (hz : 1 ≤ sz ∧ sz ≤ 64) : 0 ≤ lenP dep sz ∧ lenP dep sz ≤ 274877906944 := by
  have h0 := (norm_bd sz).1
  have h1 : heldN sz < 65 := by unfold heldN; rw [if_neg (by omega), if_neg (by omega)]; omega
  have h2 := nrm_small _ h1
  unfold lenP
  omega
/-- the lengths of the leaves -/
def lnL (N : List TN) (dm : Int) : List Int := (levL N dm).map (fun x => lenP x.2 (N.getD x.1 tn0).sz)
theorem levL_at {N : List TN} {dm : Int} (hT : isT N dm = true) {x : Nat × Nat} (hx : x ∈ levL N dm) : x.1 < N.length ∧ depN N dm x.1 = x.2 ∧ x.2 ≤ 126 ∧ (N.getD x.1 tn0).lf = 0 ∧ 1 ≤ (N.getD x.1 tn0).sz ∧ (N.getD x.1 tn0).sz ≤ 64 := by
  unfold levL at hx
  rw [List.mem_filter, decide_eq_true_iff] at hx
  obtain ⟨h1, h2⟩ := hx
  obtain ⟨_, _, _, d0, s0, _⟩ := isT_iff.1 hT
  have hd := s0.deep
  have hl := isT_len hT
  have h3 : x.1 < N.length := by
    have h := h1
    rw [allT_yes hT] at h
    exact (seqT_in s0 _ 0 (by omega) x h).2
  have h4 := depN_mem hT (j := x.1) (δ := x.2) h1
  have h5 := depN_le hT x.1 x.1 (Nat.le_refl _) h3
  have h6 := leaves_ok hT x.1 h3 h2
  exact ⟨h3, h4, by omega, h2, h6.1, h6.2⟩
theorem levK_eq {N : List TN} {dm : Int} (hT : isT N dm = true) : ∀ k, k ≤ N.length → levK N k = (((allT N dm).take k).filter (fun x => decide ((N.getD x.1 tn0).lf = 0))).map (fun x => (x.1 : Int))
  | 0, _ => by simp [levK]
  | k + 1, h => by
    have hl := allT_len hT
    have ha := allT_at hT (k := k) (by omega)
    have e : (allT N dm).take (k + 1) = (allT N dm).take k ++ [(k, depN N dm k)] := by
      rw [List.take_succ_eq_append_getElem (by omega)]
      rw [List.getD_eq_getElem?_getD, List.getElem?_eq_getElem (by omega), Option.getD_some] at ha
      rw [ha]
    rw [levK, levK_eq hT k (by omega), e, List.filter_append]
    by_cases h0 : (N.getD k tn0).lf = 0
    · rw [if_pos h0, List.filter_cons_of_pos (by simpa using h0)]
      simp
    · rw [if_neg h0, List.filter_cons_of_neg (by simpa using h0)]
      simp
theorem lev_eq {N : List TN} {dm : Int} (hT : isT N dm = true) : levV N dm = (levL N dm).map (fun x => (x.1 : Int)) := by
  unfold levV levL
  rw [if_pos hT, levK_eq hT _ (Nat.le_refl _), List.take_of_length_le (by rw [allT_len hT]; exact Nat.le_refl _)]
theorem lnL_no {N : List TN} {dm : Int} (hT : isT N dm = false) : lnL N dm = [] := by unfold lnL levL; rw [allT_no hT]; rfl
theorem levL_len {N : List TN} {dm : Int} (hT : isT N dm = true) : (levL N dm).length ≤ N.length := by
  have := List.length_filter_le (fun x : Nat × Nat => decide ((N.getD x.1 tn0).lf = 0)) (allT N dm)
  rw [allT_len hT] at this
  exact this
/-- what holds in the region of a round -/
def LenJ (E : List (Option Value)) (B : Nat) (W : World) (v : Value) (l : List Int) (d : Int) (f : Nat → Bool) (vs : List Value) (X : World) : Prop :=
  RegV E f vs ∧ Below B W X ∧ B ≤ X.heap.size ∧ (f 21 = false → X.ownsRow B 3 1 v l.length (litI l)) ∧
  (f 20 = true → f 21 = false → ∃ g, vs.getD 20 undef = .slice (some ⟨g, 0, none⟩) 1 1 ∧ Box X g #[.int .i64 d] 3) ∧
  (f 21 = true → X.ownsRow B 3 1 (vs.getD 21 undef) (l.length + 1) (litI l ++ [.int .i64 d])) ∧ (f 22 = true → f 21 = true ∧ f 0 = true ∧ vs.getD 22 undef = vs.getD 21 undef) ∧ (f 22 = false → vs.getD 22 undef = v)
theorem getD_off (vs : List Value) (i j : Nat) (v : Value) (h : i ≠ j) : (vs.set i v).getD j undef = vs.getD j undef := by
  rw [List.getD_eq_getElem?_getD, List.getElem?_set_ne h, ← List.getD_eq_getElem?_getD]
theorem getD_on (vs : List Value) (i : Nat) (v : Value) (h : i < vs.length) : (vs.set i v).getD i undef = v := by
  rw [List.getD_eq_getElem?_getD, List.getElem?_set_self h]
  rfl
theorem LenJ.alike {E : List (Option Value)} {B : Nat} {W : World} {v : Value} {l : List Int} {d : Int} (hE : E.length = 23) (f g : Nat → Bool) (vs : List Value) (X : World) (hfg : ∀ k, k < 23 → f k = g k) (h : LenJ E B W v l d f vs X) : LenJ E B W v l d g vs X := by
  obtain ⟨h1, h2⟩ := h
  unfold LenJ
  rw [← hfg 20 (by omega), ← hfg 21 (by omega), ← hfg 22 (by omega), ← hfg 0 (by omega)]
  exact ⟨fun j u hj he => h1 j u ((hfg j (by have := (List.getElem?_eq_some_iff.1 he).1; omega)).trans hj) he, h2⟩
theorem LenJ.step {E : List (Option Value)} {B : Nat} {W : World} {v : Value} {l : List Int} {d : Int} {f : Nat → Bool} {vs : List Value} {X X' : World} (h : LenJ E B W v l d f vs X) {i : Nat} (hi : i < vs.length) (h20 : i ≠ 20) (h21 : i ≠ 21) (h22 : i ≠ 22) (u : Value) (hv : ∀ z, E[i]? = some (some z) → u = z) (hb : Below X.heap.size X X') :
    LenJ E B W v l d (fun j => if j = i then true else f j) (vs.set i u) X' := by
  obtain ⟨h1, h2, h3, h4, h5, h6, h7, h8⟩ := h
  unfold LenJ
  simp only [if_neg (Ne.symm h20), if_neg (Ne.symm h21), if_neg (Ne.symm h22), getD_off _ _ _ _ h20, getD_off _ _ _ _ h21, getD_off _ _ _ _ h22]
  refine ⟨h1.set hi hv, h2.trans (hb.mono h3), Nat.le_trans h3 hb.size, fun a => ownI_below (h4 a) hb, fun a b => ?_, fun a => ownI_below (h6 a) hb, fun a => ⟨(h7 a).1, by rw [(h7 a).2.1]; simp, (h7 a).2.2⟩, h8⟩
  obtain ⟨g, e, bx⟩ := h5 a b
  exact ⟨g, e, bx.below hb bx.lt⟩
theorem LenJ.make {E : List (Option Value)} {B : Nat} {W : World} {v : Value} {l : List Int} {d : Int} {f : Nat → Bool} {vs : List Value} {X : World} (h : LenJ E B W v l d f vs X) (hi : 20 < vs.length) (hE : E[20]? = some none) :
    LenJ E B W v l d (fun j => if j = 20 then true else f j) (vs.set 20 (.slice (some ⟨X.heap.size, 0, none⟩) 1 1)) (X.alloc (.cells #[.int .i64 d] 3)) := by
  obtain ⟨h1, h2, h3, h4, h5, h6, h7, h8⟩ := h
  have hb : Below X.heap.size X (X.alloc (.cells #[.int .i64 d] 3)) := (Below.refl _ _).alloc (Nat.le_refl _) _
  unfold LenJ
  simp only [if_neg (show ¬ 21 = 20 by omega), if_neg (show ¬ 22 = 20 by omega), if_neg (show ¬ 0 = 20 by omega), getD_off _ 20 21 _ (by omega), getD_off _ 20 22 _ (by omega), getD_on _ _ _ hi]
  refine ⟨h1.set hi (fun z hz => by rw [hE] at hz; cases hz), h2.trans (hb.mono h3), Nat.le_trans h3 hb.size, fun a => ownI_below (h4 a) hb, fun a b => ⟨X.heap.size, rfl, Box.new _ _ _⟩, fun a => ownI_below (h6 a) hb, h7, h8⟩
theorem LenJ.app {E : List (Option Value)} {B : Nat} {W : World} {v : Value} {l : List Int} {d : Int} {f : Nat → Bool} {vs : List Value} {X X' : World} (h : LenJ E B W v l d f vs X) (hi : 21 < vs.length) (hE : E[21]? = some none) (hf : f 21 = false) (u : Value)
    (hw : X'.ownsRow B 3 1 u (l.length + 1) (litI l ++ [.int .i64 d])) (hb : Below B X X') : LenJ E B W v l d (fun j => if j = 21 then true else f j) (vs.set 21 u) X' := by
  obtain ⟨h1, h2, h3, h4, h5, h6, h7, h8⟩ := h
  have h22 : f 22 = false := by
    cases h : f 22 with
    | false => rfl
    | true => have := (h7 h).1; rw [hf] at this; cases this
  unfold LenJ
  have h8' := h8 h22
  simp only [if_neg (show ¬ 20 = 21 by omega), if_neg (show ¬ 22 = 21 by omega), if_neg (show ¬ 0 = 21 by omega), h22, getD_off _ 21 20 _ (by omega), getD_off _ 21 22 _ (by omega), getD_on _ _ _ hi]
  exact ⟨h1.set hi (fun z hz => by rw [hE] at hz; cases hz), h2.trans hb, Nat.le_trans h3 hb.size, (fun a => by simp at a), (fun _ a => by simp at a), fun _ => hw, (fun a => by cases a), fun _ => h8'⟩
theorem LenJ.last {E : List (Option Value)} {B : Nat} {W : World} {v : Value} {l : List Int} {d : Int} {f : Nat → Bool} {vs : List Value} {X : World} (h : LenJ E B W v l d f vs X) (hi : 22 < vs.length) (hE : E[22]? = some none) (hf : f 21 = true) (hf0 : f 0 = true) (u : Value) (hu : u = vs.getD 21 undef) :
    LenJ E B W v l d (fun j => if j = 22 then true else f j) (vs.set 22 u) X := by
  obtain ⟨h1, h2, h3, h4, h5, h6, h7, h8⟩ := h
  unfold LenJ
  simp only [if_neg (show ¬ 20 = 22 by omega), if_neg (show ¬ 21 = 22 by omega), if_neg (show ¬ 0 = 22 by omega), getD_off _ 22 20 _ (by omega), getD_off _ 22 21 _ (by omega), getD_on _ _ _ hi]
  exact ⟨h1.set hi (fun z hz => by rw [hE] at hz; cases hz), h2, h3, h4, h5, h6, fun _ => ⟨hf, hf0, hu⟩, (fun a => by simp at a)⟩
theorem len23P {vs : List Value} (h : vs.length = 23) : ∃ y0 y1 y2 y3 y4 y5 y6 y7 y8 y9 y10 y11 y12 y13 y14 y15 y16 y17 y18 y19 y20 y21 y22, vs = [y0, y1, y2, y3, y4, y5, y6, y7, y8, y9, y10, y11, y12, y13, y14, y15, y16, y17, y18, y19, y20, y21, y22] := by
  match vs, h with
  | [y0, y1, y2, y3, y4, y5, y6, y7, y8, y9, y10, y11, y12, y13, y14, y15, y16, y17, y18, y19, y20, y21, y22], _ => exact ⟨_, _, _, _, _, _, _, _, _, _, _, _, _, _, _, _, _, _, _, _, _, _, _, rfl⟩
set_option maxRecDepth 100000 in
set_option maxHeartbeats 8000000 in
theorem ref_lengths (N : List TN) (dim : Int) (A : Option Addr) (c B : Nat) (w : World) (hl : N.length ≤ 100000) (hA : LiesT w B A N) (hB : B ≤ w.heap.size) :
    Calls Try.prog 63 #[.agg #[.int .i64 dim, .slice A N.length c]] w (GivesI (lnL N dim) w) := by
  have HX := Lib.hid ((Kpc.start w).alloc #[.int .i64 dim, .slice A N.length c] 24)
  obtain ⟨y0, y1⟩ := box_cut HX.out.head
  have KL := Lib.hid (fun W (h : Below w.heap.size w W) => ref_leaves N dim A c B W hl (hA.below (h.mono hB)) (Nat.le_trans hB h.size))
  have KD := Lib.hid (fun W (h : Below w.heap.size w W) => ref_depths N dim A c B W hl (hA.below (h.mono hB)) (Nat.le_trans hB h.size))
  unfold GivesI at KL KD
  cases h1 : isT N dim with
  | false =>
    rw [lnL_no h1]
    rw [show levV N dim = [] from by unfold levV; rw [h1]; rfl] at KL
    clear hA h1
    generalize depL N dim = DL at *
    simp only [List.length_nil] at KL
    generalize N.length = M at *
    go_enter Try.func63, Try.ntmps63
    go_wp2_with fail
    refine (KL.out _ HX.out.2.1).mono ?_
    rintro e w1 ⟨A1, c1, rfl, -, -, -, b1⟩
    have J1 := Lib.hid (HX.out.below b1)
    clear b1 y0 y1
    obtain ⟨y0, y1⟩ := box_cut J1.out.head
    go_wp2_with fail
    refine (KD.out _ J1.out.2.1).mono ?_
    rintro e w2 ⟨A2, c2, rfl, -, -, -, b2⟩
    have J2 := Lib.hid (J1.out.below b2)
    clear b2 y0 y1
    go_wp2
    go_loopw [5, 6] (fun v iv wr => v = .slice none 0 0 ∧ iv = .int .i64 0 ∧ wr = w2) (fun _ iv _ => 0)
    case atStart => exact ⟨rfl, rfl, rfl⟩
    case round =>
      obtain ⟨rfl, rfl, rfl⟩ := hrel
      go_wp2
      go_ret
      exact givesI_nil J2.out.2.1
  | true =>
    have hlen := isT_len h1
    have HLE := Lib.hid (lev_eq h1)
    have HLL := Lib.hid (levL_len h1)
    have HDL := Lib.hid (depL_yes h1)
    have HDA := Lib.hid (fun j hj => depL_at (N := N) (dm := dim) h1 (j := j) hj)
    have HMEM := Lib.hid (fun x hx => levL_at (N := N) (dm := dim) h1 (x := x) hx)
    obtain ⟨ad, e0, hab, -, -⟩ := hA.at (k := 0) (by omega)
    subst e0
    have HC : Hid (∀ W (h : Below w.heap.size w W) k (hk : k < N.length), W.cell? ⟨(ad.add (k * 5)).block, (ad.add (k * 5)).off + 4, none⟩ = some (.int .i64 (N.getD k tn0).sz)) := fun W h k hk => by
      obtain ⟨ad', e, _, ⟨hc0, hc1, hc2, hc3, hc4⟩, _⟩ := (hA.below (h.mono hB)).at hk
      cases e; exact hc4
    have HLN : Hid (lnL N dim = (levL N dim).map (fun x => lenP x.2 (N.getD x.1 tn0).sz)) := rfl
    have hlv : (levV N dim).length = (levL N dim).length := by rw [HLE.out]; simp
    have hdl : (depL N dim).length = N.length := by rw [HDL.out]; exact depP_len _ _ _
    have HLV : Hid (∀ k, k < (levL N dim).length → (levV N dim).getD k 0 = (((levL N dim).getD k (0, 0)).1 : Int)) := fun k hk => by
      rw [HLE.out, List.getD_eq_getElem?_getD, List.getElem?_map, List.getElem?_eq_getElem hk, List.getD_eq_getElem?_getD, List.getElem?_eq_getElem hk]
      rfl
    have HGM : Hid (∀ k, k < (levL N dim).length → (levL N dim).getD k (0, 0) ∈ levL N dim) := fun k hk => by
      rw [List.getD_eq_getElem?_getD, List.getElem?_eq_getElem hk]
      exact List.getElem_mem hk
    clear hA h1 HLE HDL
    generalize depL N dim = DL at *
    generalize levV N dim = LV at *
    generalize depN N dim = D at *
    generalize levL N dim = LL at *
    obtain ⟨LN, hLN⟩ : ∃ LN, LN = lnL N dim := ⟨_, rfl⟩
    have HLN2 : Hid (LN = LL.map (fun x => lenP x.2 (N.getD x.1 tn0).sz)) := hLN.trans HLN.out
    rw [← hLN]
    clear hLN HLN
    generalize hM : N.length = M at *
    clear hM
    go_enter Try.func63, Try.ntmps63
    go_wp2_with fail
    refine (KL.out _ HX.out.2.1).mono ?_
    rintro e w1 ⟨A1, c1, rfl, -, -, l1, b1⟩
    have J1 := Lib.hid (HX.out.below b1)
    have HL1 := Lib.hid l1
    clear b1 y0 y1 l1
    obtain ⟨y0, y1⟩ := box_cut J1.out.head
    go_wp2_with fail
    refine (KD.out _ J1.out.2.1).mono ?_
    rintro e w2 ⟨A2, c2, rfl, -, -, l2, b2⟩
    have J2 := Lib.hid (J1.out.below b2)
    have HL1b := Lib.hid ((HL1.out.below b2).mono b2.size)
    obtain ⟨a2, eA2, ha2, hc2⟩ := l2 (by omega)
    subst eA2
    clear b2 y0 y1 HL1
    have hn0 := HLL.out
    rw [hdl]
    obtain ⟨nl, hnl⟩ : ∃ nl, nl = LL.length := ⟨_, rfl⟩
    have HNL := Lib.hid hnl
    rw [← hnl] at hn0 hlv ⊢
    clear hnl
    have HB2 : Hid (Below w.heap.size w w2) := J2.out.2.1
    have HTB : Hid (∀ W, Below w2.heap.size w2 W → W.cell? ⟨w.heap.size, 0, none⟩ = some (.int .i64 dim) ∧ W.cell? ⟨w.heap.size, 1, none⟩ = some (.slice (some ad) M c)) := fun W h => box_cut (J2.out.head.below h J2.out.head.lt)
    have HUDA : Hid (∀ W, Below w2.heap.size w2 W → ∀ j, j < M → W.cell? (a2.add j) = some (.int .i64 (D j : Int))) := fun W h j hj => by
      rw [← HDA.out j hj, ← hc2 j (by omega)]
      exact h.cell (by rw [add_block]; exact ha2)
    have hbig : w.heap.size ≤ w2.heap.size := HB2.out.size
    go_wp2
    go_loopw [5, 6] (fun v iv wr => ∃ k : Nat, k ≤ nl ∧ iv = .int .i64 k ∧ Hid (wr.ownsRow w2.heap.size 3 1 v (LN.take k).length (litI (LN.take k))) ∧ Hid (Below w2.heap.size w2 wr)) (fun _ iv _ => nl - (intOf iv).toNat)
    case atStart => exact ⟨0, by omega, rfl, World.ownsRow_nil _ _ _ _, Below.refl _ _⟩
    case round =>
      obtain ⟨k, hk, rfl, HO, HB⟩ := hrel
      by_cases hlt : k < nl
      · have hlg : (k : Int) < (nl : Int) := by omega
        have hkL : k < LL.length := by have := HNL.out; omega
        obtain ⟨a1, eA1, ha1, hc1⟩ := HL1b.out (by omega)
        subst eA1
        obtain ⟨m1, m2, m3, m4, m5, m6⟩ := HMEM.out _ (HGM.out k hkL)
        have hlvk := HLV.out k hkL
        have HTK : Hid (LN.take (k + 1) = LN.take k ++ [lenP (LL.getD k (0, 0)).2 (N.getD (LL.getD k (0, 0)).1 tn0).sz]) := by
          have hkN : k < LN.length := by rw [HLN2.out]; simpa using hkL
          show _ = _
          rw [List.take_succ_eq_append_getElem hkN]
          refine congrArg (fun z => LN.take k ++ [z]) ?_
          have : LN[k]? = some (lenP (LL.getD k (0, 0)).2 (N.getD (LL.getD k (0, 0)).1 tn0).sz) := by
            rw [HLN2.out, List.getElem?_map, List.getElem?_eq_getElem hkL, List.getD_eq_getElem?_getD, List.getElem?_eq_getElem hkL]
            rfl
          rw [List.getElem?_eq_getElem hkN] at this
          exact Option.some.inj this
        unfold lenP at HTK
        have hll : (LN.take k).length + 1 ≤ 1000000000 := by rw [List.length_take]; omega
        have HUL : Hid (∀ W, Below w2.heap.size w2 W → W.cell? (a1.add k) = some (.int .i64 (((LL.getD k (0, 0)).1 : Nat) : Int))) := fun W h => by
          rw [← hlvk, ← hc1 k (by omega)]
          exact h.cell (by rw [add_block]; exact ha1)
        have HUD : Hid (∀ W, Below w2.heap.size w2 W → W.cell? (a2.add (LL.getD k (0, 0)).1) = some (.int .i64 (((LL.getD k (0, 0)).2 : Nat) : Int))) := fun W h => by
          rw [← m2]
          exact HUDA.out W h _ m1
        have HCZ : Hid (∀ W, Below w2.heap.size w2 W → W.cell? ⟨(ad.add ((LL.getD k (0, 0)).1 * 5)).block, (ad.add ((LL.getD k (0, 0)).1 * 5)).off + 4, none⟩ = some (.int .i64 (N.getD (LL.getD k (0, 0)).1 tn0).sz)) := fun W h => HC.out W (HB2.out.trans (h.mono hbig)) _ m1
        have hnv := norm_bd (N.getD (LL.getD k (0, 0)).1 tn0).sz
        have KN := Lib.hid (fun W => ref5_norm (N.getD (LL.getD k (0, 0)).1 tn0).sz W)
        clear hlvk hc1 m2 m4 m5 m6 hkL
        generalize (LL.getD k (0, 0)).1 = j at *
        generalize (LL.getD k (0, 0)).2 = δ at *
        generalize (N.getD j tn0).sz = sz at *
        generalize normN (heldN sz) = nv at *
        have hj1 : (j : Int) < (M : Int) := by omega
        have hd1 : (δ : Int) ≤ 126 := by omega
        obtain ⟨hnv1, hnv2⟩ := hnv
        obtain ⟨A5, c5, rfl, -, -, -⟩ := lies_ownI HO.out
        have hw8 : IntKind.i64.wrap ((δ : Int) * 1073741824) = (δ : Int) * 1073741824 := i64_idP (by omega)
        have hw19 : IntKind.i64.wrap ((δ : Int) * 1073741824 + nv) = (δ : Int) * 1073741824 + nv := i64_idP (by omega)
        generalize hLK : LN.take k = lk at *
        clear hLK m1 m3
        go_wp2
        refine wp_region_steps0 (LenJ [some (.slice A5 lk.length c5), some (.slice (some a2) M c2), some (.slice (some a1) nl c1), some (.int .i64 (k : Int)), some (.pointer (some (a1.add k))), some (.int .i64 (j : Int)), some (.pointer (some (a2.add j))), some (.int .i64 (δ : Int)), some (.int .i64 ((δ : Int) * 1073741824)), some (.pointer (some ⟨w.heap.size, 1, none⟩)), some (.slice (some ad) M c), some (.slice (some a1) nl c1), some (.int .i64 (k : Int)), some (.pointer (some (a1.add k))), some (.int .i64 (j : Int)), some (.pointer (some (ad.add (j * 5)))), some (.pointer (some ⟨(ad.add (j * 5)).block, (ad.add (j * 5)).off + 4, none⟩)), some (.int .i64 sz), some (.int .i64 nv), some (.int .i64 ((δ : Int) * 1073741824 + nv)), none, none, none] w2.heap.size w2 (.slice A5 lk.length c5) lk ((δ : Int) * 1073741824 + nv))
          [[], [], [], [], [2, 3], [4], [1, 5], [6], [7], [], [9], [], [], [11, 12], [13], [10, 14], [15], [16], [17], [8, 18], [19], [0, 20, 18], [21, 21, 0, 1, 2, 3, 4, 5, 6, 7, 8, 9, 10, 11, 12, 13, 14, 15, 16, 17, 18, 19, 20, 21]] (by kernel_rfl) (by kernel_rfl) (by kernel_rfl) (by kernel_rfl) ?_ ?_ ?_ ?_
        · exact LenJ.alike rfl
        · intro vs hlen he
          obtain ⟨y0, y1, y2, y3, y4, y5, y6, y7, y8, y9, y10, y11, y12, y13, y14, y15, y16, y17, y18, y19, y20, y21, y22, rfl⟩ := len23P hlen
          have e22 := congrArg (fun a : Act => a.tmps.getD 5 undef) he
          simp only [putAll, Act.put, List.setIfInBounds_toArray, List.set_cons_zero, List.set_cons_succ] at e22
          exact ⟨fun j u h => by simp at h, HB.out.drew, HB.out.size, fun _ => ownI_below HO.out (Below.refl _ _).drew, (fun h => by simp at h), (fun h => by simp at h), (fun h => by simp at h), fun _ => by simpa using e22⟩
        · refine ⟨?_, ?_, ?_, ?_, ?_, ?_, ?_, ?_, ?_, ?_, ?_, ?_, ?_, ?_, ?_, ?_, ?_, ?_, ?_, ?_, ?_, ?_, ?_, trivial⟩
          all_goals
            intro f vs X hlen hf hp hj K hK
            obtain ⟨y0, y1, y2, y3, y4, y5, y6, y7, y8, y9, y10, y11, y12, y13, y14, y15, y16, y17, y18, y19, y20, y21, y22, rfl⟩ := len23P hlen
            clear hlen
            have HJ := Lib.hid hj
            clear hj
          · rw [if_pos (by rfl)]
            have h22 : f 22 = false := by
              cases h : f 22 with
              | false => rfl
              | true => have := (HJ.out.2.2.2.2.2.2.1 h).2.1; rw [hf] at this; cases this
            have e22 : y22 = .slice A5 lk.length c5 := HJ.out.2.2.2.2.2.2.2 h22
            subst e22
            simp only [putAll, Act.put, List.setIfInBounds_toArray, List.set_cons_zero, List.set_cons_succ] at hK ⊢
            go_simp
            refine hK _ X ?_
            exact HJ.out.step (i := 0) (by simp) (by omega) (by omega) (by omega) _ (fun u hu => by simpa using hu) (Below.refl _ _)
          · rw [if_pos (by rfl)]
            simp only [putAll, Act.put, List.setIfInBounds_toArray, List.set_cons_zero, List.set_cons_succ] at hK ⊢
            go_simp
            refine hK _ X ?_
            exact HJ.out.step (i := 1) (by simp) (by omega) (by omega) (by omega) _ (fun u hu => by simpa using hu) (Below.refl _ _)
          · rw [if_pos (by rfl)]
            simp only [putAll, Act.put, List.setIfInBounds_toArray, List.set_cons_zero, List.set_cons_succ] at hK ⊢
            go_simp
            refine hK _ X ?_
            exact HJ.out.step (i := 2) (by simp) (by omega) (by omega) (by omega) _ (fun u hu => by simpa using hu) (Below.refl _ _)
          · rw [if_pos (by rfl)]
            simp only [putAll, Act.put, List.setIfInBounds_toArray, List.set_cons_zero, List.set_cons_succ] at hK ⊢
            go_simp
            refine hK _ X ?_
            exact HJ.out.step (i := 3) (by simp) (by omega) (by omega) (by omega) _ (fun u hu => by simpa using hu) (Below.refl _ _)
          · rw [if_pos (by rfl)]
            have e2 : y2 = .slice (some a1) nl c1 := HJ.out.1 2 _ (hp 2 (by simp)) rfl
            subst e2
            have e3 : y3 = .int .i64 (k : Int) := HJ.out.1 3 _ (hp 3 (by simp)) rfl
            subst e3
            simp only [putAll, Act.put, List.setIfInBounds_toArray, List.set_cons_zero, List.set_cons_succ] at hK ⊢
            go_simp
            refine hK _ X ?_
            exact HJ.out.step (i := 4) (by simp) (by omega) (by omega) (by omega) _ (fun u hu => by simpa using hu) (Below.refl _ _)
          · rw [if_pos (by rfl)]
            have e4 : y4 = .pointer (some (a1.add k)) := HJ.out.1 4 _ (hp 4 (by simp)) rfl
            subst e4
            have m0 := HUL.out X HJ.out.2.1
            simp only [putAll, Act.put, List.setIfInBounds_toArray, List.set_cons_zero, List.set_cons_succ] at hK ⊢
            go_simp
            refine hK _ X ?_
            exact HJ.out.step (i := 5) (by simp) (by omega) (by omega) (by omega) _ (fun u hu => by simpa using hu) (Below.refl _ _)
          · rw [if_pos (by rfl)]
            have e1 : y1 = .slice (some a2) M c2 := HJ.out.1 1 _ (hp 1 (by simp)) rfl
            subst e1
            have e5 : y5 = .int .i64 (j : Int) := HJ.out.1 5 _ (hp 5 (by simp)) rfl
            subst e5
            simp only [putAll, Act.put, List.setIfInBounds_toArray, List.set_cons_zero, List.set_cons_succ] at hK ⊢
            go_simp
            refine hK _ X ?_
            exact HJ.out.step (i := 6) (by simp) (by omega) (by omega) (by omega) _ (fun u hu => by simpa using hu) (Below.refl _ _)
          · rw [if_pos (by rfl)]
            have e6 : y6 = .pointer (some (a2.add j)) := HJ.out.1 6 _ (hp 6 (by simp)) rfl
            subst e6
            have m0 := HUD.out X HJ.out.2.1
            simp only [putAll, Act.put, List.setIfInBounds_toArray, List.set_cons_zero, List.set_cons_succ] at hK ⊢
            go_simp
            refine hK _ X ?_
            exact HJ.out.step (i := 7) (by simp) (by omega) (by omega) (by omega) _ (fun u hu => by simpa using hu) (Below.refl _ _)
          · rw [if_pos (by rfl)]
            have e7 : y7 = .int .i64 (δ : Int) := HJ.out.1 7 _ (hp 7 (by simp)) rfl
            subst e7
            simp only [putAll, Act.put, List.setIfInBounds_toArray, List.set_cons_zero, List.set_cons_succ] at hK ⊢
            go_simp
            refine hK _ X ?_
            exact HJ.out.step (i := 8) (by simp) (by omega) (by omega) (by omega) _ (fun u hu => by simpa using hu) (Below.refl _ _)
          · rw [if_pos (by rfl)]
            simp only [putAll, Act.put, List.setIfInBounds_toArray, List.set_cons_zero, List.set_cons_succ] at hK ⊢
            go_simp
            refine hK _ X ?_
            exact HJ.out.step (i := 9) (by simp) (by omega) (by omega) (by omega) _ (fun u hu => by simpa using hu) (Below.refl _ _)
          · rw [if_pos (by rfl)]
            have e9 : y9 = .pointer (some ⟨w.heap.size, 1, none⟩) := HJ.out.1 9 _ (hp 9 (by simp)) rfl
            subst e9
            have mm := HTB.out X HJ.out.2.1
            have m0 := mm.2
            clear mm
            simp only [putAll, Act.put, List.setIfInBounds_toArray, List.set_cons_zero, List.set_cons_succ] at hK ⊢
            go_simp
            refine hK _ X ?_
            exact HJ.out.step (i := 10) (by simp) (by omega) (by omega) (by omega) _ (fun u hu => by simpa using hu) (Below.refl _ _)
          · rw [if_pos (by rfl)]
            simp only [putAll, Act.put, List.setIfInBounds_toArray, List.set_cons_zero, List.set_cons_succ] at hK ⊢
            go_simp
            refine hK _ X ?_
            exact HJ.out.step (i := 11) (by simp) (by omega) (by omega) (by omega) _ (fun u hu => by simpa using hu) (Below.refl _ _)
          · rw [if_pos (by rfl)]
            simp only [putAll, Act.put, List.setIfInBounds_toArray, List.set_cons_zero, List.set_cons_succ] at hK ⊢
            go_simp
            refine hK _ X ?_
            exact HJ.out.step (i := 12) (by simp) (by omega) (by omega) (by omega) _ (fun u hu => by simpa using hu) (Below.refl _ _)
          · rw [if_pos (by rfl)]
            have e11 : y11 = .slice (some a1) nl c1 := HJ.out.1 11 _ (hp 11 (by simp)) rfl
            subst e11
            have e12 : y12 = .int .i64 (k : Int) := HJ.out.1 12 _ (hp 12 (by simp)) rfl
            subst e12
            simp only [putAll, Act.put, List.setIfInBounds_toArray, List.set_cons_zero, List.set_cons_succ] at hK ⊢
            go_simp
            refine hK _ X ?_
            exact HJ.out.step (i := 13) (by simp) (by omega) (by omega) (by omega) _ (fun u hu => by simpa using hu) (Below.refl _ _)
          · rw [if_pos (by rfl)]
            have e13 : y13 = .pointer (some (a1.add k)) := HJ.out.1 13 _ (hp 13 (by simp)) rfl
            subst e13
            have m0 := HUL.out X HJ.out.2.1
            simp only [putAll, Act.put, List.setIfInBounds_toArray, List.set_cons_zero, List.set_cons_succ] at hK ⊢
            go_simp
            refine hK _ X ?_
            exact HJ.out.step (i := 14) (by simp) (by omega) (by omega) (by omega) _ (fun u hu => by simpa using hu) (Below.refl _ _)
          · rw [if_pos (by rfl)]
            have e10 : y10 = .slice (some ad) M c := HJ.out.1 10 _ (hp 10 (by simp)) rfl
            subst e10
            have e14 : y14 = .int .i64 (j : Int) := HJ.out.1 14 _ (hp 14 (by simp)) rfl
            subst e14
            simp only [putAll, Act.put, List.setIfInBounds_toArray, List.set_cons_zero, List.set_cons_succ] at hK ⊢
            go_simp
            refine hK _ X ?_
            exact HJ.out.step (i := 15) (by simp) (by omega) (by omega) (by omega) _ (fun u hu => by simpa using hu) (Below.refl _ _)
          · rw [if_pos (by rfl)]
            have e15 : y15 = .pointer (some (ad.add (j * 5))) := HJ.out.1 15 _ (hp 15 (by simp)) rfl
            subst e15
            simp only [putAll, Act.put, List.setIfInBounds_toArray, List.set_cons_zero, List.set_cons_succ] at hK ⊢
            go_simp
            refine hK _ X ?_
            exact HJ.out.step (i := 16) (by simp) (by omega) (by omega) (by omega) _ (fun u hu => by simpa using hu) (Below.refl _ _)
          · rw [if_pos (by rfl)]
            have e16 : y16 = .pointer (some ⟨(ad.add (j * 5)).block, (ad.add (j * 5)).off + 4, none⟩) := HJ.out.1 16 _ (hp 16 (by simp)) rfl
            subst e16
            have m0 := HCZ.out X HJ.out.2.1
            simp only [putAll, Act.put, List.setIfInBounds_toArray, List.set_cons_zero, List.set_cons_succ] at hK ⊢
            go_simp
            refine hK _ X ?_
            exact HJ.out.step (i := 17) (by simp) (by omega) (by omega) (by omega) _ (fun u hu => by simpa using hu) (Below.refl _ _)
          · rw [if_pos (by rfl)]
            have e17 : y17 = .int .i64 sz := HJ.out.1 17 _ (hp 17 (by simp)) rfl
            subst e17
            simp only [putAll, Act.put, List.setIfInBounds_toArray, List.set_cons_zero, List.set_cons_succ] at hK ⊢
            go_simp
            refine (KN.out X).mono ?_
            rintro e w3 ⟨rfl, nn, rfl⟩
            refine hK _ _ ?_
            exact HJ.out.step (i := 18) (by simp) (by omega) (by omega) (by omega) _ (fun u hu => by simpa using hu) (below_drewN2 (Below.refl _ _) nn)
          · rw [if_pos (by rfl)]
            have e8 : y8 = .int .i64 ((δ : Int) * 1073741824) := HJ.out.1 8 _ (hp 8 (by simp)) rfl
            subst e8
            have e18 : y18 = .int .i64 nv := HJ.out.1 18 _ (hp 18 (by simp)) rfl
            subst e18
            simp only [putAll, Act.put, List.setIfInBounds_toArray, List.set_cons_zero, List.set_cons_succ] at hK ⊢
            go_simp
            refine hK _ X ?_
            exact HJ.out.step (i := 19) (by simp) (by omega) (by omega) (by omega) _ (fun u hu => by simpa using hu) (Below.refl _ _)
          · rw [if_pos (by rfl)]
            have e19 : y19 = .int .i64 ((δ : Int) * 1073741824 + nv) := HJ.out.1 19 _ (hp 19 (by simp)) rfl
            subst e19
            simp only [putAll, Act.put, List.setIfInBounds_toArray, List.set_cons_zero, List.set_cons_succ] at hK ⊢
            go_simp
            refine hK _ _ ?_
            exact HJ.out.make (by simp) rfl
          · rw [if_pos (by rfl)]
            have e0 : y0 = .slice A5 lk.length c5 := HJ.out.1 0 _ (hp 0 (by simp)) rfl
            subst e0
            obtain ⟨g20, e20, bx⟩ := HJ.out.2.2.2.2.1 (hp 20 (by simp)) hf
            have e20' : y20 = .slice (some ⟨g20, 0, none⟩) 1 1 := e20
            subst e20'
            clear e20
            have hown := HJ.out.2.2.2.1 hf
            have hszX := HJ.out.2.2.1
            simp only [putAll, Act.put, List.setIfInBounds_toArray, List.set_cons_zero, List.set_cons_succ] at hK ⊢
            obtain ⟨i0, hi, hz0, hz1, hz2⟩ := info_parts infoI
            refine wp_append_where (P := Try.prog) X (.tmp 17) (.tmp 37) 35 rfl w2.heap.size 3 i0 (.int .i64 0) 1 8 Try.underlying35 hi hz0 hz1 hz2 rfl (by decide) (.slice A5 lk.length c5) lk.length (litI lk) rfl hown ⟨g20, 0, none⟩ 1 1 [.int .i64 ((δ : Int) * 1073741824 + nv)] rfl rfl ?_ (by intro u hu; rw [List.mem_singleton.1 hu]; rfl) (by unfold maxLen; omega) (by omega) hszX ?_
            · intro j u hj
              rw [cell_add, bx.cell j, ← Array.getElem?_toList]
              exact hj
            · intro v' w' q1 q2 q3
              refine hK v' w' ?_
              exact HJ.out.app (by simp) rfl hf v' q1 ((Below.refl _ _).grown q2 hszX fun k hk => (hown.lt k hk).1)
          · rw [if_pos (by rfl)]
            simp only [putAll, Act.put, List.setIfInBounds_toArray, List.set_cons_zero, List.set_cons_succ] at hK ⊢
            go_simp
            refine hK _ X ?_
            exact HJ.out.last (by simp) rfl (hp 21 (by simp)) (hp 0 (by simp)) _ rfl
        · intro vs X hl hj
          obtain ⟨y0, y1, y2, y3, y4, y5, y6, y7, y8, y9, y10, y11, y12, y13, y14, y15, y16, y17, y18, y19, y20, y21, y22, rfl⟩ := len23P hl
          obtain ⟨_, q2, q3, _, _, q6, q7, _⟩ := hj
          have e22 : y22 = y21 := (q7 rfl).2.2
          have HO2 := Lib.hid (show X.ownsRow w2.heap.size 3 1 y21 (lk.length + 1) (litI lk ++ [.int .i64 ((δ : Int) * 1073741824 + nv)]) from q6 rfl)
          have HBX := Lib.hid q2
          subst e22
          clear q2 q3 q6 q7
          simp only [putAll, Act.put, List.setIfInBounds_toArray, List.set_cons_zero, List.set_cons_succ]
          go_wp2
          refine ⟨⟨k + 1, by omega, by go_num, ?_, HBX.out⟩, by first | (simp [intOf]; done) | (simp [intOf]; omega)⟩
          show World.ownsRow _ _ _ _ _ _ _
          rw [HTK.out, List.length_append, List.length_singleton, ← litI_snoc]
          exact HO2.out
      · obtain rfl : k = nl := by omega
        have HTA : Hid (LN.take k = LN) := List.take_of_length_le (by rw [HLN2.out, List.length_map, ← HNL.out]; exact Nat.le_refl _)
        rw [HTA.out] at HO
        obtain ⟨A', c', rfl, g1, g2, g3⟩ := lies_ownI HO.out
        go_wp2
        go_ret
        exact ⟨A', c', by simp, g1, g2, g3, HB2.out.trans (HB.out.mono hbig)⟩
end Go.Proofs.Ytkkeejbgaaodeaa
