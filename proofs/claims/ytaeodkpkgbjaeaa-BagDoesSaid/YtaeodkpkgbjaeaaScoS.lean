/- Contracts of package score: sorted, merged. -/
import Derived.Test.YtaeodkpkgbjaeaaScoN
import Derived.Deep.RegionHeld3
import Derived.Laws.AppendOwnNone
import Derived.OwnWalk
import Derived.Laws.OwnMore
import Derived.Lib.AppendIntMem
namespace Go.Proofs.Ytaeodkpkgbjaeaa
open Go.RowKit
set_option linter.unusedVariables false
set_option linter.unusedSimpArgs false
set_option maxRecDepth 100000

theorem info_sc : (Try.prog.info? 24).map (fun i => (i.zero, i.size, i.bytes)) = some (some (.agg #[.int .i64 0, .int .i64 0]), 2, 16) := by kernel_rfl
theorem info_parts3 {E : TypeId} {z : Value} {s b : Nat} (h : (Try.prog.info? E).map (fun i => (i.zero, i.size, i.bytes)) = some (some z, s, b)) : ∃ i0, Try.prog.info? E = some i0 ∧ i0.zero = some z ∧ i0.size = s ∧ i0.bytes = b := by
  rcases hi : Try.prog.info? E with _ | i0
  · rw [hi] at h; cases h
  · rw [hi] at h
    simp only [Option.map_some, Option.some.injEq, Prod.mk.injEq] at h
    exact ⟨i0, rfl, h.1, h.2.1, h.2.2⟩
/-- a score more, behind a row of the call's own -/
theorem app_sc {B : Nat} {W : World} {o : Oper} {a : Act} {K : Act → World → Prop} {Q : Exit → Act → World → Prop} (s x : Operand)
    (ho : o.op = .call { callee := .builtin .append, args := #[s, x], argTypes := #[28, 28] })
    (v : Value) (l : List PQ) (p q : Int) (g : Nat) (hs : a.eval s = v) (hx : a.eval x = .slice (some ⟨g, 0, none⟩) 1 1) (hown : OwnS W B v l) (hb : Box W g #[.int .i64 p, .int .i64 q] 24)
    (hB : B ≤ W.heap.size) (hn : l.length ≤ 1000000)
    (h : ∀ v' w', OwnS w' B v' (l ++ [(p, q)]) → Below B W w' → K (a.put o.dst v') w') : o.wp Try.prog a W K Q := by
  obtain ⟨i0, hi, hz0, hz1, hz2⟩ := info_parts3 info_sc
  refine wp_append_own _ s x 28 ho B 24 i0 (.agg #[.int .i64 0, .int .i64 0]) 2 16 Try.underlying28 hi hz0 hz1 hz2 rfl (by decide) v l.length (celS l) hs hown ⟨g, 0, none⟩ 1 1 (celS [(p, q)]) hx rfl ?_ celS_one ?_ ?_ hB ?_
  · intro j u hj
    have e1 : (⟨g, 0, none⟩ : Addr).add j = ⟨g, j, none⟩ := by unfold Addr.add; split <;> simp_all
    rw [e1, hb.cell j]
    simpa [celS] using hj
  · unfold maxLen; omega
  · omega
  · intro v' w' h1 h2 _
    refine h v' w' ?_ ?_
    · show w'.ownsRow _ _ _ _ _ _
      rw [List.length_append, celS_app]
      exact h1
    · refine (Below.refl _ _).grown h2 hB fun k hk => ?_
      rcases hown.2 with ⟨rfl, _⟩ | ⟨g, cap, cur, rfl, hg, _⟩
      · simp [Value.ownBlock] at hk
      · simp only [Value.ownBlock, Option.some.injEq] at hk; omega
/-- a row of scores more, behind a row of the call's own -/
theorem app_row {B B2 : Nat} {W : World} {o : Oper} {a : Act} {K : Act → World → Prop} {Q : Exit → Act → World → Prop} (s x : Operand)
    (ho : o.op = .call { callee := .builtin .append, args := #[s, x], argTypes := #[28, 28] })
    (v : Value) (l m : List PQ) (ad : Addr) (c n : Nat) (hs : a.eval s = v) (hx : a.eval x = .slice (some ad) n c) (hN : m.length = n) (hown : OwnS W B v l) (hm : LiesS W B2 (some ad) m)
    (hB : B ≤ W.heap.size) (hn : l.length + n ≤ 1000000)
    (h : ∀ v' w', OwnS w' B v' (l ++ m) → Below B W w' → K (a.put o.dst v') w') : o.wp Try.prog a W K Q := by
  subst hN
  obtain ⟨i0, hi, hz0, hz1, hz2⟩ := info_parts3 info_sc
  refine wp_append_own _ s x 28 ho B 24 i0 (.agg #[.int .i64 0, .int .i64 0]) 2 16 Try.underlying28 hi hz0 hz1 hz2 rfl (by decide) v l.length (celS l) hs hown ad m.length c (celS m) hx (celS_len m) ?_ celS_one ?_ ?_ hB ?_
  · exact hm.cells
  · unfold maxLen; omega
  · omega
  · intro v' w' h1 h2 _
    refine h v' w' ?_ ?_
    · show w'.ownsRow _ _ _ _ _ _
      rw [List.length_append, celS_app]
      exact h1
    · refine (Below.refl _ _).grown h2 hB fun k hk => ?_
      rcases hown.2 with ⟨rfl, _⟩ | ⟨g, cap, cur, rfl, hg, _⟩
      · simp [Value.ownBlock] at hk
      · simp only [Value.ownBlock, Option.some.injEq] at hk; omega
theorem LiesS.tail {w : World} {B : Nat} {ad : Addr} {x : PQ} {l : List PQ} (h : LiesS w B (some ad) (x :: l)) : LiesS w B (some (ad.add 2)) l := by
  have := h.drop 1
  simpa using this
theorem tailS {w : World} {B : Nat} {pb : Addr} {y : PQ} {rb : List PQ} {nb cb : Nat} (hL : LiesS w B (some pb) (y :: rb)) (hn : (y :: rb).length = nb) (hc : nb ≤ cb) : ∃ pc, (if cb = 1 then some pb else some { block := pb.block, off := pb.off + 2 }) = some pc ∧ LiesS w B (some pc) rb := by
  by_cases h : cb = 1
  · have : rb = [] := List.eq_nil_of_length_eq_zero (by simp at hn; omega)
    subst this
    exact ⟨pb, by rw [if_pos h], LiesS.nil⟩
  · refine ⟨_, by rw [if_neg h], ?_⟩
    have e := fldS pb 0 2 (by omega)
    have h0 : pb.add 0 = pb := by unfold Addr.add; simp
    rw [h0] at e
    rw [e]
    exact hL.tail
/-- room for so many scores, none there yet -/
theorem make_sc {B : Nat} {wr : World} {ops : Array Oper} {rest : List Oper} {o : Oper} {a : Act} {Q : Exit → Act → World → Prop} (hgd : o.guard = none) (l c : Operand)
    (ho : o.op = Op.makeSlice 28 l c) (n : Nat) (hl : a.eval l = .int .i64 0) (hc : a.eval c = .int .i64 n) (hn : n ≤ 1000000) (hB : B ≤ wr.heap.size)
    (h : ∀ w', OwnS w' B (.slice (some ⟨wr.heap.size, 0, none⟩) 0 n) [] → Below wr.heap.size wr w' → wpList Try.prog ops Q rest (a.put o.dst (.slice (some ⟨wr.heap.size, 0, none⟩) 0 n)) w') :
    wpList Try.prog ops Q (o :: rest) a wr := by
  obtain ⟨i0, hi, hz0, hz1, hz2⟩ := info_parts3 info_sc
  refine wpList_make_own wr hgd l c 28 ho B 24 i0 (.agg #[.int .i64 0, .int .i64 0]) 2 Try.underlying28 hi hz0 hz1 .i64 .i64 n n hl hc rfl (by rw [hz2]; omega) (by unfold maxLen; omega) hB ?_
  intro w' h1 h2
  exact h w' h1 ((Below.refl _ _).grown h2 (Nat.le_refl _) (fun k hk => by cases hk))
/-- what a function gives: a row of scores of its own -/
def RowS (s : List PQ) (w : World) (e : Ending) (w' : World) : Prop := ∃ ad c, e = .returned (.slice (some ad) s.length c) ∧ s.length ≤ c ∧ LiesS w' w'.heap.size (some ad) s ∧ Below w.heap.size w w'
theorem OwnS.below {w w' : World} {B : Nat} {v : Value} {l : List PQ} (h : OwnS w B v l) (hb : Below w.heap.size w w') : OwnS w' B v l := by
  refine ⟨h.1, ?_⟩
  rcases h.2 with h0 | ⟨g, cap, cur, h1, hbg, hh, hr⟩
  · exact .inl h0
  · refine .inr ⟨g, cap, cur, h1, hbg, (hb.block g ?_).trans hh, hr⟩
    rcases Nat.lt_or_ge g w.heap.size with h | h
    · exact h
    · rw [Array.getElem?_eq_none h] at hh; cases hh
theorem app_rowL {B B2 : Nat} {W : World} {ops : Array Oper} {rest : List Oper} {o : Oper} {a : Act} {Q : Exit → Act → World → Prop} (hgd : o.guard = none) (s x : Operand)
    (ho : o.op = .call { callee := .builtin .append, args := #[s, x], argTypes := #[28, 28] })
    (v : Value) (l m : List PQ) (ad : Addr) (c n : Nat) (hs : a.eval s = v) (hx : a.eval x = .slice (some ad) n c) (hN : m.length = n) (hown : OwnS W B v l) (hm : LiesS W B2 (some ad) m)
    (hB : B ≤ W.heap.size) (hn : l.length + n ≤ 1000000)
    (h : ∀ v' w', OwnS w' B v' (l ++ m) → Below B W w' → wpList Try.prog ops Q rest (a.put o.dst v') w') : wpList Try.prog ops Q (o :: rest) a W :=
  wpList_plain hgd fun _ hK => app_row s x ho v l m ad c n hs hx hN hown hm hB hn fun v' w' h1 h2 => hK _ _ (h v' w' h1 h2)
/-- the row that a function gives back -/
theorem OwnS.row {w w' : World} {v : Value} {l s : List PQ} (h : OwnS w' w.heap.size v l) (hb : Below w.heap.size w w') (h0 : 0 < l.length) (he : l = s) : RowS s w (.returned v) w' := by
  subst he
  rcases h.2 with ⟨_, h1⟩ | ⟨g, cap, cur, rfl, hbg, hh, hnc, hr⟩
  · omega
  · obtain ⟨A, c, e, hL⟩ := OwnS.lies h
    cases e
    exact ⟨_, cap, rfl, hnc, hL, hb⟩
theorem leB_no {x y : PQ} (h : 0 < oddC x.1 x.2 y.1 y.2) : ¬ leB x y = true := fun hc => by
  have := of_decide_eq_true (p := leS x y) hc
  unfold leS at this
  omega
theorem leB_yes {x y : PQ} (h : ¬ 0 < oddC x.1 x.2 y.1 y.2) : leB x y = true := by
  refine decide_eq_true (p := leS x y) ?_
  unfold leS
  omega
def lenV : Value → Nat
  | .slice _ n _ => n
  | _ => 0
theorem add_zeroS (a : Addr) : a.add 0 = a := by unfold Addr.add; simp
abbrev ordV : Value := .func (.func 159) #[] #[]
set_option maxHeartbeats 1000000 in
theorem sco_merged (ad bd : Addr) (a b : List PQ) (ca cb : Nat) (w : World) (hA : LiesS w w.heap.size (some ad) a) (hB : LiesS w w.heap.size (some bd) b) (oa : okS a) (ob : okS b) (hca : a.length ≤ ca) (hcb : b.length ≤ cb) (hn : a.length + b.length ≤ 100000) (h0 : 0 < a.length + b.length) :
    Calls Try.prog 200 #[.slice (some ad) a.length ca, .slice (some bd) b.length cb, ordV] w (RowS (List.merge a b leB) w) := by
  have HA := Lib.hid hA
  have HB := Lib.hid hB
  have OA := Lib.hid oa
  have OB := Lib.hid ob
  clear hA hB oa ob
  generalize hN : a.length = N at *
  generalize hM : b.length = M at *
  have HN := Lib.hid hN
  have HM := Lib.hid hM
  clear hN hM
  go_enter Try.func200, Try.ntmps200
  go_wp2_with (at_make; refine make_sc (B := w.heap.size) rfl (.const (.int .i64 0)) (.tmp 12) rfl (N + M) rfl rfl (by omega) (Nat.le_refl _) ?_; intro w1 ho1 hb1)
  have HO1 : Hid (OwnS w1 w.heap.size (.slice (some ⟨w.heap.size, 0, none⟩) 0 (N + M)) []) := ho1
  have HB1 := Lib.hid hb1
  clear ho1 hb1
  go_wp2
  go_loopw [0, 1, 7] (fun av bv lv wr => ∃ (pa pb : Addr) (ca cb na nb : Nat) (ra rb out : List PQ), av = .slice (some pa) na ca ∧ bv = .slice (some pb) nb cb ∧ na ≤ ca ∧ nb ≤ cb ∧ Hid (ra.length = na) ∧ Hid (rb.length = nb) ∧ Hid (LiesS wr w.heap.size (some pa) ra) ∧ Hid (LiesS wr w.heap.size (some pb) rb) ∧ Hid (okS ra) ∧ Hid (okS rb) ∧ Hid (out ++ List.merge ra rb leB = List.merge a b leB) ∧ Hid (out.length + na + nb = N + M) ∧ Hid (OwnS wr w.heap.size lv out) ∧ Hid (Below w.heap.size w wr)) (fun av bv _ _ => lenV av + lenV bv)
  case atStart => exact ⟨ad, bd, ca, cb, N, M, a, b, [], rfl, rfl, hca, hcb, HN, HM, HA.out.below HB1.out, HB.out.below HB1.out, OA, OB, by show _ = _; rfl, by show _ = _; simp, HO1, HB1⟩
  case round =>
    obtain ⟨pa, pb, ca, cb, na, nb, ra, rb, out, rfl, rfl, h1, h2, HNa, HNb, HLa, HLb, HIa, HIb, HE, HT, HO, HW⟩ := hrel
    by_cases ha : 0 < na
    · have ha1 : (0 : Int) < (na : Int) := by omega
      by_cases hb : 0 < nb
      · have hb1 : (0 : Int) < (nb : Int) := by omega
        match ra, HNa, HLa, HIa, HE with
        | [], HNa, _, _, _ => exact absurd HNa.out (by simp; omega)
        | (x1, x2) :: ra, HNa, HLa, HIa, HE =>
        match rb, HNb, HLb, HIb, HE with
        | [], HNb, _, _, _ => exact absurd HNb.out (by simp; omega)
        | (y1, y2) :: rb, HNb, HLb, HIb, HE =>
        obtain ⟨_, e, hbk, c0, c1⟩ := HLa.out.at (k := 0) (by simp)
        obtain rfl := Option.some.inj e
        obtain ⟨_, e2, hbk2, d0, d1⟩ := HLb.out.at (k := 0) (by simp)
        obtain rfl := Option.some.inj e2
        rw [Nat.zero_mul, add_zeroS] at c0 c1 d0 d1
        simp only [List.getD_cons_zero] at c0 c1 d0 d1
        obtain ⟨ix1, ix2⟩ := HIa.out (x1, x2) List.mem_cons_self
        obtain ⟨iy1, iy2⟩ := HIb.out (y1, y2) List.mem_cons_self
        have KO := Lib.hid (fun W => sco_order x1 x2 y1 y2 ix1 ix2 iy1 iy2 W)
        clear e e2 ix1 ix2 iy1 iy2
        have HO2 := Lib.hid (show OwnS wr.drew w.heap.size _ _ from HO.out)
        have HLa' := Lib.hid HLa.out.tail
        have HLb' := Lib.hid HLb.out.tail
        have HMC : Hid (0 < oddC x1 x2 y1 y2 → List.merge ((x1, x2) :: ra) ((y1, y2) :: rb) leB = (y1, y2) :: List.merge ((x1, x2) :: ra) rb leB) := fun h => by
          rw [List.cons_merge_cons, if_neg (leB_no (x := (x1, x2)) (y := (y1, y2)) h)]
        have HMD : Hid (¬ 0 < oddC x1 x2 y1 y2 → List.merge ((x1, x2) :: ra) ((y1, y2) :: rb) leB = (x1, x2) :: List.merge ra ((y1, y2) :: rb) leB) := fun h => by
          rw [List.cons_merge_cons, if_pos (leB_yes (x := (x1, x2)) (y := (y1, y2)) h)]
        generalize oddC x1 x2 y1 y2 = r at *
        have hbp : pa.block < wr.heap.size := Nat.lt_of_lt_of_le hbk HW.out.size
        have hbq : pb.block < wr.heap.size := Nat.lt_of_lt_of_le hbk2 HW.out.size
        have hol : out.length ≤ 1000000 := by have := HT.out; omega
        have hsz := HW.out.size
        have na1 : (1 : Int) ≤ (na : Int) := by omega
        have nb1 : (1 : Int) ≤ (nb : Int) := by omega
        have na2 : (na : Int) ≤ (ca : Int) := by omega
        have nb2 : (nb : Int) ≤ (cb : Int) := by omega
        obtain ⟨pcb, hpcb⟩ := tailS HLb.out HNb.out h2
        obtain ⟨pca, hpca⟩ := tailS HLa.out HNa.out h1
        have HPb := Lib.hid hpcb
        have HPa := Lib.hid hpca
        clear hpcb hpca
        by_cases hr : 0 < r
        · go_wp2
          go_region_held3 (fun wr => wr.cell? pa = some (.int .i64 x1) ∧ wr.cell? ⟨pa.block, pa.off + 1, none⟩ = some (.int .i64 x2) ∧ wr.cell? pb = some (.int .i64 y1) ∧ wr.cell? ⟨pb.block, pb.off + 1, none⟩ = some (.int .i64 y2)) (go_keep)
            (first | (go_at_call 159; ((with_reducible refine (KO.out _).mono ?_); rintro e w2 ⟨rfl, b2⟩; have q0 : w2.cell? pa = some (.int .i64 x1) := (b2.cell hbp).trans c0; have q1 : w2.cell? ⟨pa.block, pa.off + 1, none⟩ = some (.int .i64 x2) := (b2.cell (show (⟨pa.block, pa.off + 1, none⟩ : Addr).block < _ from hbp)).trans c1; have q2 : w2.cell? pb = some (.int .i64 y1) := (b2.cell hbq).trans d0; have q3 : w2.cell? ⟨pb.block, pb.off + 1, none⟩ = some (.int .i64 y2) := (b2.cell (show (⟨pb.block, pb.off + 1, none⟩ : Addr).block < _ from hbq)).trans d1; have HO2 := Lib.hid (OwnS.below HO2.out b2); have HB2 := Lib.hid (show Below w.heap.size wr w2 from (Below.refl _ wr).drew.trans (b2.mono hsz)); have HW2 := Lib.hid (show Below w.heap.size w w2 from HW.out.drew.trans (b2.mono hsz)); have hsz2 := Nat.le_trans hsz b2.size; clear b2)))
          go_wp2
          go_region_held3 (fun wr => wr.cell? pb = some (.int .i64 y1) ∧ wr.cell? ⟨pb.block, pb.off + 1, none⟩ = some (.int .i64 y2)) (go_keep)
            (first | (refine app_sc (.tmp 31) (.tmp 35) rfl _ out y1 y2 w2.heap.size rfl rfl ((show OwnS w2.drew w.heap.size _ _ from HO2.out).alloc _) (Box.new _ _ _) (by simp; omega) hol ?_; intro v3 w3 ho3 hb3; have HO3 := Lib.hid ho3; have hb23 : Below w.heap.size w2 w3 := ((Below.refl _ w2).drew.alloc hsz2 _).trans hb3; have z2 : w3.cell? pb = some (.int .i64 y1) := (hb23.cell hbk2).trans q2; have z3 : w3.cell? ⟨pb.block, pb.off + 1, none⟩ = some (.int .i64 y2) := (hb23.cell (show (⟨pb.block, pb.off + 1, none⟩ : Addr).block < _ from hbk2)).trans q3; have HW3 := Lib.hid (show Below w.heap.size w w3 from HW2.out.trans hb23); have HB23 := Lib.hid (show Below w.heap.size wr w3 from HB2.out.trans hb23); clear ho3 hb3 hb23))
          clear z2 z3
          go_wp2
          rw [HPb.out.1]
          exact ⟨⟨pa, pcb, ca, cb - 1, na, nb - 1, (x1, x2) :: ra, rb, out ++ [(y1, y2)], rfl, rfl, h1, by omega, HNa, (by have := HNb.out; show _ = _; rw [List.length_cons] at this; omega), HLa.out.below (HB23.out), HPb.out.2.below (HB23.out), HIa, (fun z hz => HIb.out z (List.mem_cons_of_mem _ hz)), (by have := HE.out; rw [HMC.out hr] at this; show _ = _; rw [List.append_assoc]; exact this), (by have := HT.out; show _ = _; rw [List.length_append, List.length_singleton]; omega), HO3, HW3⟩, by show na + (nb - 1) < na + nb; omega⟩
        · go_wp2
          go_region_held3 (fun wr => wr.cell? pa = some (.int .i64 x1) ∧ wr.cell? ⟨pa.block, pa.off + 1, none⟩ = some (.int .i64 x2) ∧ wr.cell? pb = some (.int .i64 y1) ∧ wr.cell? ⟨pb.block, pb.off + 1, none⟩ = some (.int .i64 y2)) (go_keep)
            (first | (go_at_call 159; ((with_reducible refine (KO.out _).mono ?_); rintro e w2 ⟨rfl, b2⟩; have q0 : w2.cell? pa = some (.int .i64 x1) := (b2.cell hbp).trans c0; have q1 : w2.cell? ⟨pa.block, pa.off + 1, none⟩ = some (.int .i64 x2) := (b2.cell (show (⟨pa.block, pa.off + 1, none⟩ : Addr).block < _ from hbp)).trans c1; have q2 : w2.cell? pb = some (.int .i64 y1) := (b2.cell hbq).trans d0; have q3 : w2.cell? ⟨pb.block, pb.off + 1, none⟩ = some (.int .i64 y2) := (b2.cell (show (⟨pb.block, pb.off + 1, none⟩ : Addr).block < _ from hbq)).trans d1; have HO2 := Lib.hid (OwnS.below HO2.out b2); have HB2 := Lib.hid (show Below w.heap.size wr w2 from (Below.refl _ wr).drew.trans (b2.mono hsz)); have HW2 := Lib.hid (show Below w.heap.size w w2 from HW.out.drew.trans (b2.mono hsz)); have hsz2 := Nat.le_trans hsz b2.size; clear b2)))
          go_wp2
          go_region_held3 (fun wr => wr.cell? pa = some (.int .i64 x1) ∧ wr.cell? ⟨pa.block, pa.off + 1, none⟩ = some (.int .i64 x2)) (go_keep)
            (first | (refine app_sc (.tmp 39) (.tmp 43) rfl _ out x1 x2 w2.heap.size rfl rfl ((show OwnS w2.drew w.heap.size _ _ from HO2.out).alloc _) (Box.new _ _ _) (by simp; omega) hol ?_; intro v3 w3 ho3 hb3; have HO3 := Lib.hid ho3; have hb23 : Below w.heap.size w2 w3 := ((Below.refl _ w2).drew.alloc hsz2 _).trans hb3; have z2 : w3.cell? pa = some (.int .i64 x1) := (hb23.cell hbk).trans q0; have z3 : w3.cell? ⟨pa.block, pa.off + 1, none⟩ = some (.int .i64 x2) := (hb23.cell (show (⟨pa.block, pa.off + 1, none⟩ : Addr).block < _ from hbk)).trans q1; have HW3 := Lib.hid (show Below w.heap.size w w3 from HW2.out.trans hb23); have HB23 := Lib.hid (show Below w.heap.size wr w3 from HB2.out.trans hb23); clear ho3 hb3 hb23))
          clear z2 z3
          go_wp2
          rw [HPa.out.1]
          exact ⟨⟨pca, pb, ca - 1, cb, na - 1, nb, ra, (y1, y2) :: rb, out ++ [(x1, x2)], rfl, rfl, by omega, h2, (by have := HNa.out; show _ = _; rw [List.length_cons] at this; omega), HNb, HPa.out.2.below HB23.out, HLb.out.below HB23.out, (fun z hz => HIa.out z (List.mem_cons_of_mem _ hz)), HIb, (by have := HE.out; rw [HMD.out hr] at this; show _ = _; rw [List.append_assoc]; exact this), (by have := HT.out; show _ = _; rw [List.length_append, List.length_singleton]; omega), HO3, HW3⟩, by show na - 1 + nb < na + nb; omega⟩
      · obtain rfl : nb = 0 := by omega
        obtain rfl : rb = [] := List.eq_nil_of_length_eq_zero HNb.out
        have HEE : Hid (out ++ ra ++ [] = List.merge a b leB) := by have := HE.out; rw [List.merge_right] at this; show _ = _; rw [List.append_nil]; exact this
        have hsz := HW.out.size
        have hlo : out.length + na ≤ 1000000 := by have := HT.out; omega
        have HPOS : Hid (0 < (out ++ ra ++ []).length) := by show _ < _; rw [List.append_nil, List.length_append, HNa.out]; have := HT.out; omega
        go_wp2_with (first | (at_builtin; refine app_rowL rfl (.tmp 47) (.tmp 48) rfl _ out ra pa ca na rfl rfl HNa.out HO.out HLa.out hsz hlo ?_; intro v3 w3 ho3 hb3; have HO3 := Lib.hid ho3; have HLb3 := Lib.hid (HLb.out.below hb3); have HW3 := Lib.hid (HW.out.trans hb3); have hsz3 := Nat.le_trans hsz hb3.size; have hl3 : (out ++ ra).length + 0 ≤ 1000000 := (by rw [List.length_append, HNa.out]; omega); clear ho3 hb3) | (at_builtin; refine app_rowL rfl (.tmp 49) (.tmp 50) rfl _ (out ++ ra) [] pb cb 0 rfl rfl rfl HO3.out HLb3.out hsz3 hl3 ?_; intro v4 w4 ho4 hb4; have HO4 := Lib.hid ho4; have HW4 := Lib.hid (HW3.out.trans hb4); clear ho4 hb4))
        go_ret
        exact OwnS.row HO4.out HW4.out HPOS.out HEE.out
    · obtain rfl : na = 0 := by omega
      obtain rfl : ra = [] := List.eq_nil_of_length_eq_zero HNa.out
      have HEE : Hid (out ++ [] ++ rb = List.merge a b leB) := by have := HE.out; rw [List.nil_merge] at this; show _ = _; rw [List.append_nil]; exact this
      have hsz := HW.out.size
      have hlo : out.length + 0 ≤ 1000000 := by have := HT.out; omega
      have HPOS : Hid (0 < (out ++ [] ++ rb).length) := by show _ < _; rw [List.append_nil, List.length_append, HNb.out]; have := HT.out; omega
      go_wp2_with (first | (at_builtin; refine app_rowL rfl (.tmp 47) (.tmp 48) rfl _ out [] pa ca 0 rfl rfl rfl HO.out HLa.out hsz hlo ?_; intro v3 w3 ho3 hb3; have HO3 := Lib.hid ho3; have HLb3 := Lib.hid (HLb.out.below hb3); have HW3 := Lib.hid (HW.out.trans hb3); have hsz3 := Nat.le_trans hsz hb3.size; have hl3 : (out ++ []).length + nb ≤ 1000000 := (by rw [List.append_nil]; have := HT.out; omega); clear ho3 hb3) | (at_builtin; refine app_rowL rfl (.tmp 49) (.tmp 50) rfl _ (out ++ []) rb pb cb nb rfl rfl HNb.out HO3.out HLb3.out hsz3 hl3 ?_; intro v4 w4 ho4 hb4; have HO4 := Lib.hid ho4; have HW4 := Lib.hid (HW3.out.trans hb4); clear ho4 hb4))
      go_ret
      exact OwnS.row HO4.out HW4.out HPOS.out HEE.out
end Go.Proofs.Ytaeodkpkgbjaeaa
