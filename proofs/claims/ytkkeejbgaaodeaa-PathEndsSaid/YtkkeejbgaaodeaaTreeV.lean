import Derived.Test.YtkkeejbgaaodeaaTreeU

/-! Layer 10: tree.Grow: what its walk needs. -/
namespace Go.Proofs.Ytkkeejbgaaodeaa
open Go.RowKit
set_option linter.unusedVariables false
set_option linter.unusedSimpArgs false

theorem info_node : (Try.prog.info? 39).map (fun i => (i.zero, i.size, i.bytes)) = some (some (.agg #[.slice none 0 0, .int .i64 0, .int .i64 0, .int .i64 0, .int .i64 0]), 5, 56) := by kernel_rfl
theorem info_wait : (Try.prog.info? 67).map (fun i => (i.zero, i.size, i.bytes)) = some (some (.agg #[.slice none 0 0, .int .i64 0, .int .i64 0]), 3, 40) := by kernel_rfl
theorem cell_add (w : World) (g j : Nat) : w.cell? ((⟨g, 0, none⟩ : Addr).add j) = w.cell? ⟨g, j, none⟩ := by
  have e1 : (⟨g, 0, none⟩ : Addr).add j = ⟨g, j, none⟩ := by unfold Addr.add; split <;> simp_all
  rw [e1]
/-- a leaf more onto the nodes -/
theorem app_node {w0 W : World} {ops : Array Oper} {rest : List Oper} {o : Oper} {a : Act} {Q : Exit → Act → World → Prop} (hgd : o.guard = none) (s x : Operand)
    (ho : o.op = .call { callee := .builtin .append, args := #[s, x], argTypes := #[22, 22] })
    (vN vS : Value) (N : List TN) (L : List WA) (n g : Nat) (hs : a.eval s = vN) (hx : a.eval x = .slice (some ⟨g, 0, none⟩) 1 1) (hT : TG w0 W vN N vS L) (hb : Box W g #[.slice none 0 0, .int .i64 0, .int .i64 0, .int .i64 0, .int .i64 n] 39)
    (hN : N.length ≤ 1000000) (hn : n ≤ 100000)
    (h : ∀ v' w', TG w0 w' v' (N ++ [lfN n]) vS L → (∀ k cs T, T ≠ 39 → Box W k cs T → Box w' k cs T) → wpList Try.prog ops Q rest (a.put o.dst v') w') : wpList Try.prog ops Q (o :: rest) a W := by
  refine wpList_plain hgd fun K hK => ?_
  obtain ⟨i0, hi, hz0, hz1, hz2⟩ := info_parts5 info_node
  refine wp_append_where (P := Try.prog) W s x 22 ho (w0.heap.size + 1) 39 i0 _ 5 56 Try.underlying22 hi hz0 hz1 hz2 rfl (by decide) vN N.length (ndL N) hs hT.nodes ⟨g, 0, none⟩ 1 1 (ndC (lfN n)).toList hx rfl ?_ ?_ ?_ ?_ hT.lt ?_
  · intro j u hj
    rw [cell_add, hb.cell j, ← Array.getElem?_toList]
    exact hj
  · intro u hu
    simp [ndC, lfN] at hu
    rcases hu with rfl | rfl | rfl <;> rfl
  · unfold maxLen; omega
  · omega
  · intro v' w' h1 h2 h3
    refine hK _ _ (h v' w' (hT.node h1 h2 h3 rfl ?_) fun k cs T hT' hbx => (h2.block k hbx.lt fun e => own_not_box hT.nodes hbx hT' e.symm).trans hbx)
    intro m hm
    rw [List.mem_singleton.1 hm]
    refine ⟨by show (0 : Nat) ≤ 0; omega, by show ((0 : Nat) : Int) ≤ _; omega, fun x hx => absurd hx (by simp [lfN]), ?_, ?_, ?_, ?_⟩ <;> (show I64 _; unfold lfN I64; simp only; omega)
/-- two more onto the stack -/
theorem app_waits {w0 W : World} {ops : Array Oper} {rest : List Oper} {o : Oper} {a : Act} {Q : Exit → Act → World → Prop} (hgd : o.guard = none) (s x : Operand)
    (ho : o.op = .call { callee := .builtin .append, args := #[s, x], argTypes := #[68, 68] })
    (vN vS : Value) (N : List TN) (L : List WA) (p q : WA) (g : Nat) (cells : Array Value) (hs : a.eval s = vS) (hx : a.eval x = .slice (some ⟨g, 0, none⟩) 2 2) (hT : TG w0 W vN N vS L) (hb : Box W g cells 67) (hcells : cells = (wtC p ++ wtC q).toArray)
    (hL : L.length ≤ 1000000) (hp : PtsOk w0 W p) (hq : PtsOk w0 W q)
    (h : ∀ v' w', TG w0 w' vN N v' (L ++ [p, q]) → wpList Try.prog ops Q rest (a.put o.dst v') w') : wpList Try.prog ops Q (o :: rest) a W := by
  subst hcells
  refine wpList_plain hgd fun K hK => ?_
  obtain ⟨i0, hi, hz0, hz1, hz2⟩ := info_parts5 info_wait
  refine wp_append_where (P := Try.prog) W s x 68 ho (w0.heap.size + 1) 67 i0 _ 3 40 Try.underlying68 hi hz0 hz1 hz2 rfl (by decide) vS L.length (wtL L) hs hT.stack ⟨g, 0, none⟩ 2 2 (wtC p ++ wtC q) hx rfl ?_ ?_ ?_ ?_ hT.lt ?_
  · intro j u hj
    rw [cell_add, hb.cell j]
    simpa using hj
  · intro u hu
    simp [wtC] at hu
    rcases hu with rfl | rfl | rfl | rfl | rfl | rfl <;> rfl
  · unfold maxLen; omega
  · omega
  · intro v' w' h1 h2 h3
    refine hK _ _ (h v' w' (hT.push (M := [p, q]) ?_ h2 h3 ?_))
    · have e : wtL [p, q] = wtC p ++ wtC q := by unfold wtL; simp
      rw [e]
      exact h1
    · intro y hy
      simp at hy
      rcases hy with rfl | rfl
      · exact hp
      · exact hq
theorem box3 {w : World} {g : Nat} {a b c : Value} {t : TypeId} (h : Box w g #[a, b, c] t) : w.cell? ⟨g, 0, none⟩ = some a ∧ w.cell? ⟨g, 1, none⟩ = some b ∧ w.cell? ⟨g, 2, none⟩ = some c := ⟨h.cell 0, h.cell 1, h.cell 2⟩
/-- the nodes as a tree's nodes, when only the result's place was stored to -/
theorem TG.lies {w0 w w' : World} {vN vS : Value} {N : List TN} {L : List WA} (h : TG w0 w vN N vS L) (hs : w.heap.size ≤ w'.heap.size) (hk : ∀ g, g ≠ w0.heap.size → w'.heap[g]? = w.heap[g]?) : ∃ A c, vN = .slice A N.length c ∧ LiesT w' w'.heap.size A N := by
  have hcut : ∀ n ∈ N, Lies w' w'.heap.size n.a n.co := fun n hn h0 => by
    obtain ⟨ad, e, hB, hlt, _, _, hc⟩ := h.cuts n hn _ rfl h0
    refine ⟨ad, e, by omega, fun j hj => ?_⟩
    rw [← hc j hj]
    refine World.cell?_of_block ?_
    rw [add_block]
    exact hk _ (by omega)
  rcases Nat.eq_zero_or_pos N.length with h0 | h0
  · rcases h.nodes.2 with ⟨e, _⟩ | ⟨g, cap, cur, e, _⟩
    · exact ⟨none, 0, by rw [e, h0], fun h1 => absurd h1 (by omega), hcut⟩
    · exact ⟨_, cap, e, fun h1 => absurd h1 (by omega), hcut⟩
  · obtain ⟨g, c, e, _, _, hg1, hg2, _, hcell⟩ := h.row h0
    refine ⟨_, c, e, fun _ => ⟨⟨g, 0, none⟩, rfl, by show g < _; omega, fun j hj => ?_⟩, hcut⟩
    have key : ∀ i, w'.cell? ((⟨g, 0, none⟩ : Addr).add i) = w.cell? ⟨g, i, none⟩ := fun i => by
      rw [cell_add]
      exact World.cell?_of_block (hk _ (by show g ≠ _; omega))
    unfold Nd5
    rw [key, key, key, key, key]
    exact hcell j hj
/-- what Grow gives -/
def GivesG (Z : Int × GT) (w : World) (e : Ending) (w' : World) : Prop :=
  ∃ A N c, e = .returned (.tuple #[.agg #[.int .i64 Z.1, .slice A N.length c], .int .i64 Z.2.2.1, .int .i64 Z.2.2.2]) ∧ N.map cnt = Z.2.1 ∧ LiesT w' w'.heap.size A N ∧ okT N ∧ Below w.heap.size w w'
theorem givesG_no {w w' : World} {x : Int} (h : Below w.heap.size w w') : GivesG (0, [], 0, x) w (.returned (.tuple #[.agg #[.int .i64 0, .slice none 0 0], .int .i64 0, .int .i64 x])) w' :=
  ⟨none, [], 0, rfl, rfl, ⟨fun h0 => absurd h0 (by simp), fun n hn => by cases hn⟩, (fun n hn => by cases hn), h⟩
/-- the start: no node, one on the stack -/
theorem TG.start (w : World) (Ar : Option Addr) (R : List Row) (cr : Nat) (hr : LiesR w w.heap.size Ar R) (hR : OkR R) (hcr : R.length ≤ cr) :
    TG w ((w.alloc (.cells #[.int .i64 0, .slice none 0 0] 24)).alloc (.cells #[.slice Ar R.length cr, .int .i64 0, .int .i64 (-1)] 67)) (.slice none 0 0) [] (.slice (some ⟨w.heap.size + 1, 0, none⟩) 1 1) [⟨Ar, cr, R, 0, -1⟩] where
  nodes := World.ownsRow_nil _ _ _ _
  stack := by
    refine ⟨rfl, .inr ⟨w.heap.size + 1, 1, #[.slice Ar R.length cr, .int .i64 0, .int .i64 (-1)], rfl, Nat.le_refl _, ?_, Nat.le_refl _, by unfold maxLen; omega, rfl, rfl⟩⟩
    have := heap_alloc_new (w.alloc (.cells #[.int .i64 0, .slice none 0 0] 24)) (.cells #[.slice Ar R.length cr, .int .i64 0, .int .i64 (-1)] 67)
    rw [alloc_size'] at this
    exact this
  cuts := fun n hn => by cases hn
  ok := fun n hn => by cases hn
  pts := fun x hx => by
    rw [List.mem_singleton.1 hx]
    exact ⟨hR, hcr, .inl hr⟩
  res := (Box.new w _ _).alloc _
  below := ((Below.refl _ _).alloc (Nat.le_refl _) _).alloc (by rw [alloc_size']; omega) _
/-- Right of the node of which what is grown is to be Right -/
theorem TG.right {w0 w : World} {vS : Value} {N : List TN} {L : List WA} {g c m n : Nat} (h : TG w0 w (.slice (some ⟨g, 0, none⟩) (N ++ [lfN n]).length c) (N ++ [lfN n]) vS L) (hm : m < N.length) (hN : N.length ≤ 1000000) :
    TG w0 (w.setCell ⟨g, m * 5 + 3, none⟩ (.int .i64 (N.length : Int))) (.slice (some ⟨g, 0, none⟩) (N ++ [lfN n]).length c) (setRt N m N.length ++ [lfN n]) vS L := by
  have hm' : m < (N ++ [lfN n]).length := by rw [List.length_append]; omega
  have hg : (N ++ [lfN n]).getD m tn0 = N.getD m tn0 := by simp [List.getD, List.getElem?_append_left hm]
  have hmem := mem_tn hm'
  rw [hg] at hmem
  have hs : (N ++ [lfN n]).set m { N.getD m tn0 with rt := (N.length : Int) } = setRt N m N.length ++ [lfN n] := by
    unfold setRt
    rw [List.set_append_left _ _ hm]
  have := h.store hm' (j := 3) (by omega) (.int .i64 (N.length : Int)) { N.getD m tn0 with rt := (N.length : Int) } (by rw [hg]; rfl) (h.cuts (N.getD m tn0) hmem) (fun x hx => by
    rw [List.mem_singleton.1 hx]
    obtain ⟨o1, o2, o3, o4, o5, o6, o7⟩ := h.ok _ hmem
    exact ⟨o1, o2, o3, o4, o5, (by unfold I64; simp only; omega), o7⟩)
  rw [hs] at this
  exact this
/-- the last node's cut and Left -/
theorem TG.cut {w0 w : World} {vS : Value} {N : List TN} {L : List WA} {g c n : Nat} (h : TG w0 w (.slice (some ⟨g, 0, none⟩) (N ++ [lfN n]).length c) (N ++ [lfN n]) vS L) (hN : N.length ≤ 1000000) (Ac : Option Addr) (cc : Nat) (co : List Int) (lv : Int)
    (hoff : OffN w0.heap.size w (.slice (some ⟨g, 0, none⟩) (N ++ [lfN n]).length c) vS ⟨Ac, cc, co, lv, 0, 0, n⟩) (hok : okT [⟨Ac, cc, co, lv, 0, 0, n⟩]) :
    TG w0 (((w.setCell ⟨g, N.length * 5, none⟩ (.slice Ac co.length cc)).setCell ⟨g, N.length * 5 + 1, none⟩ (.int .i64 lv)).setCell ⟨g, N.length * 5 + 2, none⟩ (.int .i64 ((N.length : Int) + 1))) (.slice (some ⟨g, 0, none⟩) (N ++ [lfN n]).length c) (N ++ [⟨Ac, cc, co, lv, (N.length : Int) + 1, 0, n⟩]) vS L := by
  have hset : ∀ x y : TN, (N ++ [x]).set N.length y = N ++ [y] := fun x y => by rw [List.set_append_right _ _ (Nat.le_refl _)]; simp
  have hgt : ∀ x : TN, (N ++ [x]).getD N.length tn0 = x := fun x => by simp [List.getD]
  have hlen : ∀ x : TN, (N ++ [x]).length = N.length + 1 := fun x => by rw [List.length_append]; rfl
  obtain ⟨o1, o2, o3, o4, o5, o6, o7⟩ := hok _ (List.mem_singleton.2 rfl)
  have k1 := h.store (k := N.length) (by rw [hlen]; omega) (j := 0) (by omega) (.slice Ac co.length cc) ⟨Ac, cc, co, 0, 0, 0, n⟩ (by rw [hgt]; rfl) hoff (fun x hx => by
    rw [List.mem_singleton.1 hx]
    exact ⟨o1, o2, o3, (by show I64 0; unfold I64; omega), o5, o6, o7⟩)
  rw [hset, Nat.add_zero] at k1
  have e1 : (N ++ [lfN n]).length = (N ++ [(⟨Ac, cc, co, 0, 0, 0, n⟩ : TN)]).length := by rw [hlen, hlen]
  rw [e1] at k1
  have k2 := k1.store (k := N.length) (by rw [hlen]; omega) (j := 1) (by omega) (.int .i64 lv) ⟨Ac, cc, co, lv, 0, 0, n⟩ (by rw [hgt]; rfl) (k1.cuts ⟨Ac, cc, co, 0, 0, 0, n⟩ (by simp)) (fun x hx => by
    rw [List.mem_singleton.1 hx]
    exact ⟨o1, o2, o3, o4, o5, o6, o7⟩)
  rw [hset] at k2
  have e2 : (N ++ [(⟨Ac, cc, co, 0, 0, 0, n⟩ : TN)]).length = (N ++ [(⟨Ac, cc, co, lv, 0, 0, n⟩ : TN)]).length := by rw [hlen, hlen]
  rw [e2] at k2
  have k3 := k2.store (k := N.length) (by rw [hlen]; omega) (j := 2) (by omega) (.int .i64 ((N.length : Int) + 1)) ⟨Ac, cc, co, lv, (N.length : Int) + 1, 0, n⟩ (by rw [hgt]; rfl) (k2.cuts ⟨Ac, cc, co, lv, 0, 0, n⟩ (by simp)) (fun x hx => by
    rw [List.mem_singleton.1 hx]
    exact ⟨o1, o2, o3, o4, (by show I64 _; unfold I64; simp only; omega), o6, o7⟩)
  rw [hset] at k3
  rw [e1, e2]
  exact k3
theorem PtsOk.rows {w0 w : World} {x : WA} (h : PtsOk w0 w x) : ∀ r ∈ x.R, Lies w0 w0.heap.size r.a r.l := by
  rcases h.2.2 with h1 | ⟨_, _, _, h1⟩
  · exact h1.2
  · exact h1
theorem mem_sel {R : List Row} {I : List Int} (hin : ∀ j, j < I.length → 0 ≤ I.getD j 0 ∧ I.getD j 0 < R.length) {r : Row} (h : r ∈ selR R I) : r ∈ R := by
  obtain ⟨j, hj, rfl⟩ := List.mem_iff_getElem.1 h
  rw [selR_len] at hj
  have h1 := selR_at R I hj
  rw [List.getD_eq_getElem?_getD, List.getElem?_eq_getElem (by rw [selR_len]; exact hj)] at h1
  simp only [Option.getD_some] at h1
  rw [h1]
  have := hin j hj
  exact getD_mem (by omega)
theorem PtsOk.sel {w0 w W : World} {x : WA} (h : PtsOk w0 w x) {I : List Int} (hin : ∀ j, j < I.length → 0 ≤ I.getD j 0 ∧ I.getD j 0 < x.R.length) {g : Nat} (ho : OwnR W g (selR x.R I)) (d : Nat) (ro : Int) : PtsOk w0 W ⟨some ⟨g, 0, none⟩, (selR x.R I).length, selR x.R I, d, ro⟩ :=
  ⟨fun r hr => h.1 r (mem_sel hin hr), Nat.le_refl _, .inr ⟨g, rfl, ho, fun r hr => h.rows r (mem_sel hin hr)⟩⟩
/-- a cut that a draw laid in the memory lies away from both rows -/
theorem offN_of {w0 w6 w7 w9 : World} {vN vS : Value} {N : List TN} {L : List WA} (h : TG w0 w6 vN N vS L) {Ac : Option Addr} {co : List Int} (hL : Lies w7 w7.heap.size Ac co) (hn : New w6 Ac) (hb : Below w7.heap.size w7 w9) (cc : Nat) (lv lf rt sz : Int) : OffN w0.heap.size w9 vN vS ⟨Ac, cc, co, lv, lf, rt, sz⟩ := fun i hi h0 => by
  simp only at hi
  subst hi
  obtain ⟨ad, e, hlt, hc⟩ := hL h0
  have h1 := hn ad e
  have h2 := h.lt
  refine ⟨ad, e, by omega, Nat.lt_of_lt_of_le hlt hb.size, fun e1 => ?_, fun e1 => ?_, fun j hj => (hb.cell (by rw [add_block]; exact hlt)).trans (hc j hj)⟩
  · have := (h.nodes.lt _ e1).2; omega
  · have := (h.stack.lt _ e1).2; omega
end Go.Proofs.Ytkkeejbgaaodeaa
