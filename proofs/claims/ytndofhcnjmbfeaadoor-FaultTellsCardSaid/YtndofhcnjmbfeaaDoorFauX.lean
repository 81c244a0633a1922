/- Text: its walk. -/
import Derived.Test.YtndofhcnjmbfeaaDoorFauW
import Derived.Test.YtndofhcnjmbfeaaDoorFauT
namespace Go.Proofs.YtndofhcnjmbfeaaDoor
open Go.RowKit Go.Extern.Stop Go.Stop Go.Extern
set_option linter.unusedVariables false
set_option linter.unusedSimpArgs false

/-- all numbers of a tree are ints, its steps' names no longer than may be -/
def okT : FT → Prop
  | .code op n c => I64 n ∧ I64 c ∧ op.size ≤ 1099511627776
  | .wrap op n t => I64 n ∧ op.size ≤ 1099511627776 ∧ okT t
  | .both x y => okT x ∧ okT y
def OkS (l : List Piece) : Prop := ∀ p ∈ l, p.1.size ≤ 1 ∧ ∀ x, p.2 = some x → okT x.1
theorem piece_last {w : World} {B : Nat} {v : Value} {l : List Piece} {p : Piece} (h : w.ownsRow B 67 2 v (l ++ [p]).length (litT (l ++ [p]))) :
    ∃ g c, v = .slice (some ⟨g, 0, none⟩) (l.length + 1) c ∧ l.length + 1 ≤ c ∧ w.cell? ⟨g, l.length * 2, none⟩ = some (.string p.1) ∧ w.cell? ⟨g, l.length * 2 + 1, none⟩ = some (match p.2 with | none => .pointer none | some x => ptr x.2 0) ∧ w.ownsRow B 67 2 (.slice (some ⟨g, 0, none⟩) l.length c) l.length (litT l) := by
  have hlt := litT_len l
  have hsp : litT (l ++ [p]) = litT l ++ pieceV p := by unfold litT; rw [List.flatMap_append]; simp
  rcases h.2 with ⟨rfl, h0⟩ | ⟨g, cap, cur, rfl, hb, hh, hnc, hm, hsz, hx⟩
  · simp at h0
  · rw [hsp] at hx
    simp only [List.length_append, List.length_singleton] at hx hnc
    have hget : ∀ j u, (litT l ++ pieceV p)[j]? = some u → w.cell? ⟨g, j, none⟩ = some u := fun j u hj => by
      refine (cell_of_row w g j _ _ (0, 0) hh).trans ?_
      rw [← hx] at hj
      rw [List.getElem?_take] at hj
      split at hj
      · simpa using hj
      · cases hj
    refine ⟨g, cap, by simp, by omega, hget _ _ ?_, hget _ _ ?_, hlt, .inr ⟨g, cap, cur, rfl, hb, hh, by omega, hm, by omega, ?_⟩⟩
    · rw [List.getElem?_append_right (by omega), hlt, Nat.sub_self]
      obtain ⟨m, _ | x⟩ := p <;> rfl
    · rw [List.getElem?_append_right (by omega), hlt, show l.length * 2 + 1 - l.length * 2 = 1 from by omega]
      obtain ⟨m, _ | x⟩ := p <;> rfl
    · have h2 : (cur.toList.take ((l.length + 1) * 2)).take (l.length * 2) = litT l := by rw [hx, List.take_append_of_le_length (by omega), List.take_of_length_le (by omega)]
      rw [List.take_take, Nat.min_eq_left (by omega)] at h2
      exact h2
theorem bld_new (w : World) : Lib.IsBuilderF 65 5 w.heap.size w.heap.size (Lib.strCells ⟨#[]⟩) (w.alloc (.cells #[.pointer none, .slice none 0 0] 65)) :=
  Lib.IsBuilderF.of (.inl ⟨Nat.le_refl _, .slice none 0 0, heap_alloc_new w _, World.ownsRow_nil _ _ _ _, by simp [Value.ownBlock]⟩)
theorem bld_below {w w' : World} {T e : TypeId} {B b : Nat} {bs : List Value} (h : Lib.IsBuilderF T e B b bs w) (hb : Below w.heap.size w w') : Lib.IsBuilderF T e B b bs w' := by
  have lt : ∀ {k : Nat} {o : Obj}, w.heap[k]? = some o → w'.heap[k]? = some o := fun {k o} hk => by
    rcases Nat.lt_or_ge k w.heap.size with h | h
    · exact (hb.block k h).trans hk
    · rw [Array.getElem?_eq_none h] at hk; cases hk
  have key : ∀ p, Lib.BuilderAtF T e B b p bs w → Lib.BuilderAtF T e B b p bs w' := fun p ⟨hB, v, hx, hown, hne⟩ => by
    refine ⟨hB, v, lt hx, ⟨hown.1, ?_⟩, hne⟩
    rcases hown.2 with h0 | hr
    · exact .inl h0
    · right
      obtain ⟨g, cap, cur, fz, e1, e2, hh, hr⟩ := hr
      exact ⟨g, cap, cur, fz, e1, e2, lt hh, hr⟩
  rcases h with h | h
  · exact .inl (key _ h)
  · exact .inr (key _ h)
theorem pc_shape {w : World} {B : Nat} {E : TypeId} {s n : Nat} {v : Value} {xs : List Value} (h : w.ownsRow B E s v n xs) : ∃ A c, v = .slice A n c := by
  rcases h.2 with ⟨rfl, h0⟩ | ⟨g, cap, cur, rfl, _⟩
  · rw [h0]; exact ⟨_, _, rfl⟩
  · exact ⟨_, _, rfl⟩
/-- the stack, its faults, the builder and what was there -/
def TS (w0 : World) (v : Value) (L : List Piece) (dn : ByteArray) (wr : World) : Prop :=
  wr.ownsRow (w0.heap.size + 1) 67 2 v L.length (litT L) ∧ OkP wr L ∧ Lib.IsBuilderF 65 5 w0.heap.size w0.heap.size (Lib.strCells dn) wr ∧ Below w0.heap.size w0 wr
theorem TS.below {w0 wr w' : World} {v : Value} {L : List Piece} {dn : ByteArray} (h : TS w0 v L dn wr) (hb : Below wr.heap.size wr w') : TS w0 v L dn w' :=
  ⟨own_below2 h.1 hb, h.2.1.same (same_below hb), bld_below h.2.2.1 hb, h.2.2.2.trans (hb.mono h.2.2.2.size)⟩
theorem TS.al {w0 wr : World} {v : Value} {L : List Piece} {dn : ByteArray} (h : TS w0 v L dn wr) (o : Obj) : TS w0 v L dn (wr.alloc o) := h.below ((Below.refl _ _).alloc (Nat.le_refl _) _)
theorem TS.write {w0 wr w' : World} {v : Value} {L : List Piece} {dn s : ByteArray} (h : TS w0 v L dn wr) (h1 : Lib.IsBuilderF 65 5 w0.heap.size w0.heap.size (Lib.strCells (dn ++ s)) w') (h2 : Below w0.heap.size wr w') (h3 : Lib.OthersKept 5 (some w0.heap.size) wr w') : TS w0 v L (dn ++ s) w' :=
  ⟨own_write h.2.2.1 h3 h.1 (by decide) (by decide), h.2.1.same (same_write h.2.2.1 h3 (by decide) (by decide)), h1, h.2.2.2.trans h2⟩
theorem TS.bl {w0 wr : World} {v : Value} {L : List Piece} {dn : ByteArray} (h : TS w0 v L dn wr) : Lib.IsBuilderF 65 5 w0.heap.size w0.heap.size (Lib.strCells dn) wr := h.2.2.1
theorem TS.sz {w0 wr : World} {v : Value} {L : List Piece} {dn : ByteArray} (h : TS w0 v L dn wr) : w0.heap.size ≤ wr.heap.size := h.2.2.2.size
theorem TS.lt {w0 wr : World} {v : Value} {L : List Piece} {dn : ByteArray} (h : TS w0 v L dn wr) : w0.heap.size + 1 ≤ wr.heap.size := by
  obtain ⟨cs, hcs⟩ := bld_block h.2.2.1
  rcases Nat.lt_or_ge w0.heap.size wr.heap.size with h | h
  · exact h
  · rw [Array.getElem?_eq_none h] at hcs; cases hcs
/-- pieces more, when the faults that they hold are there -/
theorem TS.push {w0 wr w' : World} {v v' : Value} {L ps : List Piece} {dn : ByteArray} (h : TS w0 v L dn wr) (ho : w'.ownsRow (w0.heap.size + 1) 67 2 v' (L ++ ps).length (litT (L ++ ps))) (hp : OkP wr ps) (h2 : Below (w0.heap.size + 1) wr w') (h3 : Lib.OthersKept 67 none wr w') : TS w0 v' (L ++ ps) dn w' := by
  have hs : Same wr w' := fun g cs hx => box_kept hx h3 (by decide) (by simp)
  refine ⟨ho, fun p hpm x hx => ?_, bld_kept h.2.2.1 h3 (by decide) (by decide), h.2.2.2.trans ⟨h2.os, h2.tape, h2.output, h2.size, fun k hk => h2.block k (by omega)⟩⟩
  rcases List.mem_append.1 hpm with e | e
  · exact (h.2.1 p e x hx).same hs
  · exact (hp p e x hx).same hs
theorem stkS_len (l : List Piece) : l.length ≤ stkS l := by
  induction l with
  | nil => simp [stkS]
  | cons p l ih =>
    obtain ⟨m, _ | x⟩ := p <;> (simp only [stkS, List.length_cons]; omega)
theorem wr_str (b : Nat) (dn s : ByteArray) (W : World) (h : Lib.IsBuilderF 65 5 b b (Lib.strCells dn) W) (hl : dn.size + s.size ≤ 140737488355328) (hW : b ≤ W.heap.size) :
    Calls Tryd.prog 24 #[ptr b 0, .string s] W fun e w' => e = .returned (.tuple #[.int .i64 s.size, .nilIface]) ∧ Lib.IsBuilderF 65 5 b b (Lib.strCells (dn ++ s)) w' ∧ Below b W w' ∧ Lib.OthersKept 5 (some b) W w' := by
  refine (Tryd.Builder_WriteString_k b b (Lib.strCells dn) s W h (by rw [Lib.strCells_length]; exact hl) hW).mono fun e w' hh => ?_
  obtain ⟨he, h1, h2, h3⟩ := hh
  refine ⟨he, .inr ?_, h2, h3⟩
  have e1 : Lib.strCells (dn ++ s) = Lib.strCells dn ++ Lib.strCells s := by unfold Lib.strCells; simp
  rw [e1]; exact h1
set_option maxRecDepth 100000 in
set_option maxHeartbeats 8000000 in
theorem fau_text (t0 : FT) (b0 : Nat) (w : World) (hf : IsFault w t0 b0) (hT : Tab4 w) (h1 : 1 < w.heap.size) (hsz : size t0 ≤ 1000000) (hts : (textF t0).size ≤ 1099511627776) (hok : okT t0) :
    Calls Tryd.prog 9 #[ptr b0 0] w fun e w' => e = .returned (.string (textF t0)) ∧ Below w.heap.size w w' := by
  have KW := Lib.hid (fun dn s W h hl hW => wr_str w.heap.size dn s W h hl hW)
  have HB0 : Hid (Below w.heap.size w ((w.alloc (.cells #[.pointer none, .slice none 0 0] 65)).alloc (.cells #[.string ⟨#[]⟩, ptr b0 0] 67))) := ((Below.refl _ _).alloc (Nat.le_refl _) _).alloc (by rw [alloc_size']; omega) _
  have HO0 : Hid (((w.alloc (.cells #[.pointer none, .slice none 0 0] 65)).alloc (.cells #[.string ⟨#[]⟩, ptr b0 0] 67)).ownsRow (w.heap.size + 1) 67 2 (.slice (some ⟨w.heap.size + 1, 0, none⟩) 1 1) ([((⟨#[]⟩ : ByteArray), some (t0, b0))] : List Piece).length (litT [((⟨#[]⟩ : ByteArray), some (t0, b0))])) := by
    refine ⟨rfl, .inr ⟨w.heap.size + 1, 1, #[.string ⟨#[]⟩, ptr b0 0], rfl, Nat.le_refl _, ?_, Nat.le_refl _, by unfold maxLen; omega, rfl, rfl⟩⟩
    have := heap_alloc_new (w.alloc (.cells #[.pointer none, .slice none 0 0] 65)) (.cells #[.string ⟨#[]⟩, ptr b0 0] 67)
    rw [alloc_size'] at this
    exact this
  have HL0 : Hid (Lib.IsBuilderF 65 5 w.heap.size w.heap.size (Lib.strCells ⟨#[]⟩) ((w.alloc (.cells #[.pointer none, .slice none 0 0] 65)).alloc (.cells #[.string ⟨#[]⟩, ptr b0 0] 67))) := bld_kept (bld_new w) ((Lib.OthersKept.refl 67 none _).alloc _) (by decide) (by decide)
  have HP0 : Hid (OkP ((w.alloc (.cells #[.pointer none, .slice none 0 0] 65)).alloc (.cells #[.string ⟨#[]⟩, ptr b0 0] 67)) [((⟨#[]⟩ : ByteArray), some (t0, b0))]) := fun p hp x hx => by
    rw [List.mem_singleton.1 hp] at hx
    cases hx
    exact hf.below HB0.out
  have HS0 : Hid (OkS [((⟨#[]⟩ : ByteArray), some (t0, b0))]) := fun p hp => by
    rw [List.mem_singleton.1 hp]
    exact ⟨Nat.zero_le _, fun x hx => by cases hx; exact hok⟩
  have HX0 : Hid ((⟨#[]⟩ : ByteArray) ++ stackT [((⟨#[]⟩ : ByteArray), some (t0, b0))] = textF t0) := by
    show _ = _
    exact ByteArray.ext (by simp [stackT, pieceT])
  have HZ0 : Hid (stkS [((⟨#[]⟩ : ByteArray), some (t0, b0))] ≤ 4 * size t0 + 1) := by show _ ≤ _; simp [stkS]
  have HTS := Lib.hid hts
  have HTab := Lib.hid (fun W (h : Below w.heap.size w W) => hT.below h h1)
  clear hf hok hT
  go_enter Tryd.func9, Tryd.ntmps9
  go_wp2
  go_loopw [4] (fun sv wr => ∃ (L : List Piece) (dn : ByteArray), Hid (wr.ownsRow (w.heap.size + 1) 67 2 sv L.length (litT L)) ∧ Hid (OkP wr L) ∧ Hid (OkS L) ∧ Hid (Lib.IsBuilderF 65 5 w.heap.size w.heap.size (Lib.strCells dn) wr) ∧ Hid (Below w.heap.size w wr) ∧ Hid (dn ++ stackT L = textF t0) ∧ Hid (stkS L ≤ 4 * size t0 + 1)) (fun sv wr => stkV wr sv)
  case atStart => exact ⟨_, _, HO0.out, HP0.out, HS0.out, HL0.out, HB0.out, HX0.out, HZ0.out⟩
  case round =>
    obtain ⟨L, dn, HO, HP, HS, HL, HB, HX, HZ⟩ := hrel
    rcases List.eq_nil_or_concat L with rfl | ⟨L', ⟨m, q⟩, rfl⟩
    · obtain ⟨A, c, rfl⟩ := pc_shape HO.out
      have HR : Hid (dn = textF t0) := by
        show _ = _
        rw [← HX.out]
        exact ByteArray.ext (by simp [stackT])
      have HBS : Hid (w.heap.size ≤ wr.heap.size) := HB.out.size
      go_wp2_with (go_at_call 27; refine (Tryd.Builder_String_any_f w.heap.size w.heap.size dn.data.toList wr HL.out HBS.out).mono ?_; rintro e w5 ⟨rfl, _, hb5⟩)
      go_ret
      exact ⟨by rw [← HR.out]; rfl, HB.out.trans hb5⟩
    · rw [List.concat_eq_append] at HO HP HS HX HZ
      have hmeas := Lib.hid (stkV_eq HO.out HP.out)
      obtain ⟨g, c, rfl, hcc, hc0, hc1, hrow⟩ := piece_last HO.out
      have HRow := Lib.hid hrow
      have hg1 : (L'.length : Int) < ((L'.length + 1 : Nat) : Int) := by omega
      have hg2 : ((L'.length : Nat) : Int) ≤ (c : Int) := by omega
      clear hrow
      have hlen : L'.length ≤ 5000000 := by
        have h2 := stkS_len (L' ++ [(m, q)])
        have h3 := HZ.out
        simp only [List.length_append, List.length_singleton] at h2
        omega
      have hlen2 : (L'.length : Int) ≤ 5000000 := by omega
      have HSZ : Hid (dn.size + m.size ≤ 140737488355328) := by
        have h2 := congrArg ByteArray.size HX.out
        have h3 := HTS.out
        have h4 := (HS.out (m, q) (by simp)).1
        rw [ByteArray.size_append] at h2
        show _ ≤ _
        simp only at h4
        omega
      have HBS : Hid (w.heap.size ≤ wr.heap.size) := HB.out.size
      have hbne : w.heap.size < wr.heap.size := by
        obtain ⟨cs, hcs⟩ := bld_block HL.out
        rcases Nat.lt_or_ge w.heap.size wr.heap.size with h | h
        · exact h
        · rw [Array.getElem?_eq_none h] at hcs; cases hcs
      clear hlen
      cases q with
      | none =>
        simp only at hc0 hc1
        have HOA : Hid (Lib.OthersKept 67 none wr (wr.alloc (.cells #[.string m, .pointer none] 67))) := (Lib.OthersKept.refl _ _ _).alloc _
        have HLa : Hid (Lib.IsBuilderF 65 5 w.heap.size w.heap.size (Lib.strCells dn) (wr.alloc (.cells #[.string m, .pointer none] 67))) := bld_kept HL.out HOA.out (by decide) (by decide)
        have HBa : Hid (Below wr.heap.size wr (wr.alloc (.cells #[.string m, .pointer none] 67))) := (Below.refl _ _).alloc (Nat.le_refl _) _
        have HBS2 : Hid (w.heap.size ≤ (wr.alloc (.cells #[.string m, .pointer none] 67)).heap.size) := by show _ ≤ _; rw [alloc_size']; omega
        generalize hN : L'.length = N at *
        have HN := Lib.hid hN
        clear hN
        go_wp2_with (go_at_call 24; refine (KW.out dn m _ HLa.out HSZ.out HBS2.out).mono ?_; rintro e w5 ⟨rfl, hB5, hb5, hk5⟩; have bx := box_kept (Box.new wr #[.string m, .pointer none] 67) hk5 (by decide) (by simp; omega); have x0 := bx.cell 0; have x1 := bx.cell 1; simp at x0 x1; have HB5 := Lib.hid hB5; have HB6 := Lib.hid hb5; have HK5 := Lib.hid hk5; clear bx hB5 hb5 hk5)
        have hsm : Same wr w5 := (same_below HBa.out).trans (same_write HLa.out HK5.out (by decide) (by decide))
        have ho5 := own_write HLa.out HK5.out (own_below2 HRow.out HBa.out) (by decide) (by decide)
        have hp5 : OkP w5 L' := OkP.same (fun p hp => HP.out p (by simp [hp])) hsm
        refine ⟨⟨L', dn ++ m, ?_, hp5, (fun p hp => HS.out p (by simp [hp])), HB5.out, ?_, ?_, ?_⟩, ?_⟩
        · show World.ownsRow _ _ _ _ _ _ _
          rw [HN.out]; exact ho5
        · exact HB.out.trans ((HBa.out.mono HBS.out).trans HB6.out)
        · show _ = _
          rw [← HX.out, stackT_top]
          exact ByteArray.ext (by simp [pieceT, Array.append_assoc])
        · have h2 := HZ.out
          rw [stkS_append] at h2
          show _ ≤ _
          omega
        · have h3 := stkV_eq (l := L') (by rw [HN.out]; exact ho5) hp5
          rw [hmeas.out, h3, stkS_append]
          simp [stkS]
      | some x =>
        obtain ⟨t, b⟩ := x
        simp only at hc0 hc1
        obtain ⟨u, hxu, hpu⟩ := HP.out (m, some (t, b)) (by simp) (t, b) rfl
        have hokt := (HS.out (m, some (t, b)) (by simp)).2 (t, b) rfl
        simp only at hxu hpu hokt
        have HT0 : Hid (TS w (.slice (some ⟨g, 0, none⟩) L'.length c) L' dn wr) := ⟨HRow.out, fun p hp => HP.out p (by simp [hp]), HL.out, HB.out⟩
        have HXU := Lib.hid hxu
        have HPU := Lib.hid hpu
        have HLa : Hid (TS w (.slice (some ⟨g, 0, none⟩) L'.length c) L' dn (wr.alloc (.cells #[.string m, ptr b 0] 67))) := HT0.out.al _
        have HSL : Hid (∀ p ∈ L', p.1.size ≤ 1 ∧ ∀ x, p.2 = some x → okT x.1) := fun p hp => HS.out p (by simp [hp])
        have HLN : Hid (L'.length ≤ 100000000) := by show _ ≤ _; omega
        clear hxu hpu HRow HP HS
        generalize hN : L'.length = N at *
        have HN := Lib.hid hN
        clear hN
        have c1 := as_code_c
        have c2 := as_code_w
        have c3 := as_code_b
        have d1 := as_wrap_w
        have d2 := as_wrap_b
        have d3 := as_both_b
        cases t with
        | code op n c0 =>
          have hu := HPU.out
          simp only [IsPart] at hu
          subst hu
          obtain ⟨o1, o3, o2⟩ := hokt
          have KS := Lib.hid (fun W v l d (h : TS w v l d W) => fau_stepText op n o1 o2 W (HTab.out W h.2.2.2) (by have := h.sz; omega))
          have KI := Lib.hid (fun W v l d (h : TS w v l d W) => fau_itoa c0 o3 W (HTab.out W h.2.2.2))
          have HSW := Lib.hid (stack_code L' m op n c0 b)
          go_wp2_with (go_at_call 24; ((with_reducible refine (KW.out dn m _ HLa.out.bl HSZ.out HLa.out.sz).mono ?_); rintro e w5 ⟨rfl, hB5, hb5, hk5⟩; have bx5 := box_kept (Box.new wr #[.string m, ptr b 0] 67) hk5 (by decide) (by simp; omega); have x0 := bx5.cell 0; have x1 := bx5.cell 1; simp at x0 x1; have hsm := (same_below ((Below.refl wr.heap.size wr).alloc (Nat.le_refl _) (.cells #[.string m, ptr b 0] 67))).trans (same_write HLa.out.bl hk5 (by decide) (by decide)); have y0 := (hsm _ _ HXU.out).cell 0; try simp at y0; have HT1 := Lib.hid (HLa.out.write hB5 hb5 hk5); have HSM := Lib.hid hsm; have hsz5 : wr.heap.size < w5.heap.size := (by have := hb5.size; rw [alloc_size'] at this; omega); clear bx5 hsm hB5 hb5 hk5))
          have HTa := Lib.hid ((HT1.out.al (.cells #[.string op, .int .i64 n, .int .i64 c0] 55)).below (Below.refl _ _).drew)
          have hl0 : w5.heap.size < (w5.alloc (.cells #[.string op, .int .i64 n, .int .i64 c0] 55)).heap.size := by rw [alloc_size']; omega
          have HBX := Lib.hid ((Box.new w5 #[.string op, .int .i64 n, .int .i64 c0] 55).below (Below.refl (w5.alloc (.cells #[.string op, .int .i64 n, .int .i64 c0] 55)).heap.size (w5.alloc (.cells #[.string op, .int .i64 n, .int .i64 c0] 55))).drew hl0)
          have HSA := Lib.hid (HSM.out.trans (same_below ((Below.refl w5.heap.size w5).alloc (Nat.le_refl _) (.cells #[.string op, .int .i64 n, .int .i64 c0] 55)).drew))
          have hlt : w5.heap.size < (w5.alloc (.cells #[.string op, .int .i64 n, .int .i64 c0] 55)).drew.heap.size := by show w5.heap.size < (w5.alloc (.cells #[.string op, .int .i64 n, .int .i64 c0] 55)).heap.size; rw [alloc_size']; omega
          have p0 := HBX.out.cell 0
          have p1 := HBX.out.cell 1
          have p2 := HBX.out.cell 2
          try simp at p0 p1 p2
          have HSZ3 : Hid ((dn ++ m).size + (stepT op n ++ one 61 ++ ⟨(Lib.itoa c0).toArray⟩).size ≤ 140737488355328) := by
            have h2 := congrArg ByteArray.size HX.out
            have h3 := HTS.out
            rw [HSW.out] at h2
            simp only [ByteArray.size_append] at h2
            show _ ≤ _
            simp only [ByteArray.size_append]
            omega
          have hs61 : (one 61).size = 1 := rfl
          generalize hg1 : stepT op n = s1 at *
          generalize hg2 : (⟨(Lib.itoa c0).toArray⟩ : ByteArray) = s2 at *
          obtain ⟨s3, hs3⟩ : ∃ s3, s3 = s1 ++ one 61 := ⟨_, rfl⟩
          obtain ⟨s4, hs4⟩ : ∃ s4, s4 = s3 ++ s2 := ⟨_, rfl⟩
          have HSZ4 : s1.size + 1 + s2.size ≤ 140737488355328 := by
            have h2 := HSZ3.out
            simp only [ByteArray.size_append] at h2
            omega
          have HSZ5 : Hid ((dn ++ m).size + s4.size ≤ 140737488355328) := by
            rw [hs4, hs3]; exact HSZ3.out
          have HS4 : Hid (s4 = s1 ++ one 61 ++ s2) := by rw [hs4, hs3]; exact rfl
          have cat1 : ∀ W : World, (Op.stringOp .add s1 ⟨#[61]⟩).run Tryd.prog W = .ok (.string s3) W := fun W => by
            rw [hs3]; exact run_string_add_sum _ _ _ (by show s1.size + (one 61).size ≤ _; omega)
          have cat2 : ∀ W : World, (Op.stringOp .add s3 s2).run Tryd.prog W = .ok (.string s4) W := fun W => by
            rw [hs4]; exact run_string_add_sum _ _ _ (by rw [hs3, ByteArray.size_append]; omega)
          clear HSZ4 hs61 hs3 hs4 hg1 hg2 HSZ3
          go_region_held3 (fun W => W.cell? ⟨w5.heap.size, 0, none⟩ = some (.string op) ∧ W.cell? ⟨w5.heap.size, 1, none⟩ = some (.int .i64 n) ∧ W.cell? ⟨w5.heap.size, 2, none⟩ = some (.int .i64 c0)) (go_keep)
            (first
              | (go_at_call 25; ((refine (KS.out _ _ _ _ HTa.out).mono ?_); rintro e w7 ⟨rfl, hb7⟩; have HT2 := Lib.hid (HTa.out.below hb7); have HBX2 := Lib.hid (HBX.out.below hb7 hlt); have HS2 := Lib.hid (HSA.out.trans (same_below hb7)); have q0 := HBX2.out.cell 0; have q1 := HBX2.out.cell 1; have q2 := HBX2.out.cell 2; try simp at q0 q1 q2; have hlt2 := Nat.lt_of_lt_of_le hlt hb7.size; clear hb7))
              | (go_at_call 26; ((refine (KI.out _ _ _ _ HT2.out).mono ?_); rintro e w8 ⟨rfl, hb8⟩; have HT3 := Lib.hid (HT2.out.below hb8); have HBX3 := Lib.hid (HBX2.out.below hb8 hlt2); have HS3 := Lib.hid (HS2.out.trans (same_below hb8)); have r0 := HBX3.out.cell 0; have r1 := HBX3.out.cell 1; have r2 := HBX3.out.cell 2; try simp at r0 r1 r2; clear hb8))
              | (go_at_call 24; ((with_reducible refine (KW.out (dn ++ m) s4 _ HT3.out.bl HSZ5.out HT3.out.sz).mono ?_); rintro e w9 ⟨rfl, hB9, hb9, hk9⟩; have HT4 := Lib.hid (HT3.out.write hB9 hb9 hk9); have bz := box_kept HBX3.out hk9 (by decide) (by simp; omega); have s0 := bz.cell 0; have s1 := bz.cell 1; have s2 := bz.cell 2; try simp at s0 s1 s2; clear bz hB9 hb9 hk9)))
          all_goals
            go_wp2
            refine ⟨⟨L', dn ++ m ++ s4, ?_, HT4.out.2.1, HSL.out, HT4.out.2.2.1, HT4.out.2.2.2, ?_, ?_⟩, ?_⟩
            · show World.ownsRow _ _ _ _ _ _ _
              have := HT4.out.1
              rw [HN.out] at this ⊢; exact this
            · show _ = _
              rw [← HX.out, HSW.out, HS4.out]
              exact ByteArray.ext (by simp [Array.append_assoc])
            · have h2 := HZ.out
              rw [stkS_append] at h2
              show _ ≤ _
              omega
            · have h3 := stkV_eq (l := L') (by have := HT4.out.1; rw [HN.out] at this ⊢; exact this) HT4.out.2.1
              rw [hmeas.out, h3, stkS_append]
              simp [stkS, size]
        | wrap op n t' =>
          obtain ⟨b', u', rfl, hx2, hp2⟩ := HPU.out
          obtain ⟨o1, o2, o3⟩ := hokt
          have HIN : Hid (IsFault wr t' b') := ⟨u', hx2, hp2⟩
          clear hx2 hp2
          have KS := Lib.hid (fun W v l d (h : TS w v l d W) => fau_stepText op n o1 o2 W (HTab.out W h.2.2.2) (by have := h.sz; omega))
          have HSW := Lib.hid (stack_wrap L' m op n t' b b')
          have HSZ2 : Hid ((dn ++ m).size + (stepT op n).size ≤ 140737488355328) := by
            have h2 := congrArg ByteArray.size HX.out
            have h3 := HTS.out
            rw [HSW.out] at h2
            simp only [ByteArray.size_append] at h2
            show _ ≤ _
            rw [ByteArray.size_append]
            omega
          go_wp2_with (first
            | (go_at_call 24; ((with_reducible refine (KW.out dn m _ HLa.out.bl HSZ.out HLa.out.sz).mono ?_); rintro e w5 ⟨rfl, hB5, hb5, hk5⟩; have bx := box_kept (Box.new wr #[.string m, ptr b 0] 67) hk5 (by decide) (by simp; omega); have x0 := bx.cell 0; have x1 := bx.cell 1; simp at x0 x1; have hsm := (same_below ((Below.refl wr.heap.size wr).alloc (Nat.le_refl _) (.cells #[.string m, ptr b 0] 67))).trans (same_write HLa.out.bl hk5 (by decide) (by decide)); have y0 := (hsm _ _ HXU.out).cell 0; try simp at y0; have HT1 := Lib.hid (HLa.out.write hB5 hb5 hk5); have HSM := Lib.hid hsm; have hsz5 : wr.heap.size < w5.heap.size := (by have := hb5.size; rw [alloc_size'] at this; omega); clear bx hsm hB5 hb5 hk5))
            | (go_at_call 25; ((with_reducible refine (KS.out _ _ _ _ (HT1.out.al _)).mono ?_); rintro e w7 ⟨rfl, hb7⟩; have HT2 := Lib.hid (TS.below (HT1.out.al (.cells #[.string op, .int .i64 n, ptr b' 0] 78)) hb7); have HB7 := Lib.hid hb7; clear hb7))
            | (go_at_call 24; ((with_reducible refine (KW.out (dn ++ m) (stepT op n) _ HT2.out.bl HSZ2.out HT2.out.sz).mono ?_); rintro e w8 ⟨rfl, hB8, hb8, hk8⟩; have HT3 := Lib.hid (HT2.out.write hB8 hb8 hk8); have bz := box_kept ((Box.new w5 #[.string op, .int .i64 n, ptr b' 0] 78).below HB7.out (by rw [alloc_size']; omega)) hk8 (by decide) (by simp; omega); have z2 := bz.cell 2; simp at z2; have HSM2 := Lib.hid (HSM.out.trans ((same_below (((Below.refl w5.heap.size w5).alloc (Nat.le_refl _) (.cells #[.string op, .int .i64 n, ptr b' 0] 78)).trans (HB7.out.mono (by rw [alloc_size']; omega)))).trans (same_write HT2.out.bl hk8 (by decide) (by decide)))); clear bz hB8 hb8 hk8))
            | (at_builtin; (refine app_pieces2 (wr := w8) rfl (.tmp 56) (.tmp 60) rfl _ L' [(one 62, some (t', b'))] rfl HT3.out.1 rfl HT3.out.lt (by rw [HN.out]; exact HLN.out) (by simp) ?_; intro v' w9 ho9 hb9 hk9)))
          have HP8 : OkP w8 [(one 62, some (t', b'))] := fun p hp x hx => by
            rw [List.mem_singleton.1 hp] at hx
            cases hx
            exact HIN.out.same HSM2.out
          have HT4 := HT3.out.push ho9 HP8 hb9 hk9
          refine ⟨⟨L' ++ [(one 62, some (t', b'))], dn ++ m ++ stepT op n, HT4.1, HT4.2.1, ?_, HT4.2.2.1, HT4.2.2.2, ?_, ?_⟩, ?_⟩
          · intro p hp
            rcases List.mem_append.1 hp with e | e
            · exact HSL.out p e
            · rw [List.mem_singleton.1 e]
              exact ⟨by show (one 62).size ≤ 1; decide, fun x hx => by cases hx; exact o3⟩
          · show _ = _
            rw [← HX.out, HSW.out]
            exact ByteArray.ext (by simp [Array.append_assoc])
          · have h2 := HZ.out
            rw [stkS_append] at h2
            show _ ≤ _
            rw [stkS_append]
            simp only [stkS, size] at h2 ⊢
            omega
          · have h3 := stkV_eq HT4.1 HT4.2.1
            rw [hmeas.out, h3, stkS_append, stkS_append]
            simp only [stkS, size]
            omega
        | both x y =>
          obtain ⟨bx, yb, ux, uy, rfl, ⟨hx2, hp2⟩, hy2, hq2⟩ := HPU.out
          obtain ⟨o1, o2⟩ := hokt
          have HIX : Hid (IsFault wr x bx) := ⟨ux, hx2, hp2⟩
          have HIY : Hid (IsFault wr y yb) := ⟨uy, hy2, hq2⟩
          clear hx2 hp2 hy2 hq2
          have HSW := Lib.hid (stack_both L' m x y b bx yb)
          go_wp2_with (first
            | (go_at_call 24; ((with_reducible refine (KW.out dn m _ HLa.out.bl HSZ.out HLa.out.sz).mono ?_); rintro e w5 ⟨rfl, hB5, hb5, hk5⟩; have bx5 := box_kept (Box.new wr #[.string m, ptr b 0] 67) hk5 (by decide) (by simp; omega); have x0 := bx5.cell 0; have x1 := bx5.cell 1; simp at x0 x1; have hsm := (same_below ((Below.refl wr.heap.size wr).alloc (Nat.le_refl _) (.cells #[.string m, ptr b 0] 67))).trans (same_write HLa.out.bl hk5 (by decide) (by decide)); have y0 := (hsm _ _ HXU.out).cell 0; try simp at y0; have HT1 := Lib.hid (HLa.out.write hB5 hb5 hk5); have HSM := Lib.hid hsm; have hsz5 : wr.heap.size < w5.heap.size := (by have := hb5.size; rw [alloc_size'] at this; omega); clear bx5 hsm hB5 hb5 hk5))
            | (at_builtin; go_loud (refine app_pieces2 (wr := w5.alloc (.cells #[ptr bx 0, ptr yb 0] 59)) rfl (.tmp 65) (.tmp 73) rfl _ L' [(one 41, none), (one 124, some (y, yb)), (one 40, some (x, bx))] rfl (HT1.out.al _).1 (by rw [alloc_size']; rfl) (HT1.out.al _).lt (by rw [HN.out]; exact HLN.out) (by simp) ?_; intro v' w9 ho9 hb9 hk9)))
          have HP8 : OkP (w5.alloc (.cells #[ptr bx 0, ptr yb 0] 59)) [(one 41, none), (one 124, some (y, yb)), (one 40, some (x, bx))] := fun p hp z hz => by
            have hs := HSM.out.trans (same_below ((Below.refl w5.heap.size w5).alloc (Nat.le_refl _) (.cells #[ptr bx 0, ptr yb 0] 59)))
            simp only [List.mem_cons, List.not_mem_nil, or_false] at hp
            rcases hp with rfl | rfl | rfl <;> cases hz
            · exact HIY.out.same hs
            · exact HIX.out.same hs
          have HT4 := (HT1.out.al _).push ho9 HP8 hb9 hk9
          refine ⟨⟨L' ++ [(one 41, none), (one 124, some (y, yb)), (one 40, some (x, bx))], dn ++ m, HT4.1, HT4.2.1, ?_, HT4.2.2.1, HT4.2.2.2, ?_, ?_⟩, ?_⟩
          · intro p hp
            rcases List.mem_append.1 hp with e | e
            · exact HSL.out p e
            · simp only [List.mem_cons, List.not_mem_nil, or_false] at e
              rcases e with rfl | rfl | rfl
              · exact ⟨by show (one 41).size ≤ 1; decide, fun z hz => by cases hz⟩
              · exact ⟨by show (one 124).size ≤ 1; decide, fun z hz => by cases hz; exact o2⟩
              · exact ⟨by show (one 40).size ≤ 1; decide, fun z hz => by cases hz; exact o1⟩
          · show _ = _
            rw [← HX.out, HSW.out]
            exact ByteArray.ext (by simp [Array.append_assoc])
          · have h2 := HZ.out
            rw [stkS_append] at h2
            show _ ≤ _
            rw [stkS_append]
            simp only [stkS, size] at h2 ⊢
            omega
          · have h3 := stkV_eq HT4.1 HT4.2.1
            rw [hmeas.out, h3, stkS_append, stkS_append]
            simp only [stkS, size]
            omega
end Go.Proofs.YtndofhcnjmbfeaaDoor
