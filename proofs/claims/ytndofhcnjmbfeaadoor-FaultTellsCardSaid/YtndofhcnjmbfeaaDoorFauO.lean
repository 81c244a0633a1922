/- (*Fault).has: its walk. -/
import Derived.Test.YtndofhcnjmbfeaaDoorFauN
namespace Go.Proofs.YtndofhcnjmbfeaaDoor
open Go.RowKit Go.Extern.Stop Go.Stop Go.Extern
set_option linter.unusedVariables false
set_option linter.unusedSimpArgs false

theorem info_pf : (Tryd.prog.info? 31).map (fun i => (i.zero, i.size, i.bytes)) = some (some (.pointer none), 1, 8) := by kernel_rfl
def litP (l : List Nat) : List Value := l.map (fun b => ptr b 0)
abbrev pfT : TypeId := 31
theorem ownP_shape {w : World} {B : Nat} {v : Value} {D : List Nat} (h : w.ownsRow B pfT 1 v D.length (litP D)) : ∃ A c, v = .slice A D.length c := by
  rcases h.2 with ⟨rfl, h0⟩ | ⟨g, cap, cur, rfl, _⟩
  · rw [h0]; exact ⟨_, _, rfl⟩
  · exact ⟨_, _, rfl⟩
theorem ownP_last {w : World} {B : Nat} {v : Value} {D : List Nat} {x : Nat} (h : w.ownsRow B pfT 1 v (D ++ [x]).length (litP (D ++ [x]))) :
    ∃ g c, v = .slice (some ⟨g, 0, none⟩) (D.length + 1) c ∧ D.length + 1 ≤ c ∧ w.cell? ⟨g, D.length, none⟩ = some (ptr x 0) ∧ w.ownsRow B pfT 1 (.slice (some ⟨g, 0, none⟩) D.length c) D.length (litP D) := by
  rcases h.2 with ⟨rfl, h0⟩ | ⟨g, cap, cur, rfl, hb, hh, hnc, hm, hsz, hx⟩
  · simp at h0
  · simp only [List.length_append, List.length_singleton, Nat.mul_one] at hx hnc hsz
    refine ⟨g, cap, by simp, by omega, ?_, by simp [litP], .inr ⟨g, cap, cur, rfl, hb, hh, by omega, hm, by omega, ?_⟩⟩
    · refine (cell_of_row w g D.length _ _ (0, 0) hh).trans ?_
      have h1 : (cur.toList.take (D.length + 1))[D.length]? = some (ptr x 0) := by rw [hx]; simp [litP]
      rw [List.getElem?_take, if_pos (by omega)] at h1
      simpa using h1
    · have h2 : (cur.toList.take (D.length + 1)).take D.length = litP D := by rw [hx]; simp [litP]
      rw [List.take_take] at h2
      simpa using h2
theorem ownP_one (w : World) (b B : Nat) (hB : B ≤ w.heap.size) : (w.alloc (.cells #[ptr b 0] pfT)).ownsRow B pfT 1 (.slice (some ⟨w.heap.size, 0, none⟩) 1 1) ([b] : List Nat).length (litP [b]) :=
  ⟨by simp [litP], .inr ⟨w.heap.size, 1, #[ptr b 0], rfl, hB, heap_alloc_new w _, Nat.le_refl _, by unfold maxLen; omega, rfl, by simp [litP]⟩⟩
theorem ownP_below {w w' : World} {B : Nat} {v : Value} {n : Nat} {xs : List Value} (h : w.ownsRow B pfT 1 v n xs) (hb : Below w.heap.size w w') : w'.ownsRow B pfT 1 v n xs := by
  refine h.kept ⟨hb.os, hb.tape, hb.output, hb.size, fun k hk _ => hb.block k hk⟩ (row := none) ?_
  rcases h.2 with ⟨rfl, _⟩ | ⟨g, cap, cur, rfl, _⟩ <;> simp [Value.ownBlock]
theorem ownP_map {w w' : World} {B m : Nat} {ps : List Nat} {v : Value} {n : Nat} {xs : List Value} (h : w.ownsRow B pfT 1 v n xs) (hm : SetIs w m ps) (hk : ∀ g, g ≠ m → w'.heap[g]? = w.heap[g]?) : w'.ownsRow B pfT 1 v n xs := by
  rcases h with ⟨h1, ⟨rfl, h2⟩ | ⟨g, cap, cur, rfl, hb, hh, hr⟩⟩
  · exact ⟨h1, .inl ⟨rfl, h2⟩⟩
  · refine ⟨h1, .inr ⟨g, cap, cur, rfl, hb, ?_, hr⟩⟩
    have hne : g ≠ m := by
      rintro rfl
      obtain ⟨es, c, he, _⟩ := hm
      rw [hh] at he; cases he
    rw [hk g hne]; exact hh
theorem SetIs.below {w w' : World} {m : Nat} {ps : List Nat} (h : SetIs w m ps) (hb : Below w.heap.size w w') : SetIs w' m ps := by
  obtain ⟨es, c, hh, he⟩ := h
  have hlt : m < w.heap.size := by
    rcases Nat.lt_or_ge m w.heap.size with h | h
    · exact h
    · rw [Array.getElem?_eq_none h] at hh; cases hh
  exact ⟨es, c, (hb.block m hlt).trans hh, he⟩
theorem SetIs.lt {w : World} {m : Nat} {ps : List Nat} (h : SetIs w m ps) : m < w.heap.size := by
  obtain ⟨es, c, hh, he⟩ := h
  rcases Nat.lt_or_ge m w.heap.size with h | h
  · exact h
  · rw [Array.getElem?_eq_none h] at hh; cases hh
/-- the size of all that is left to do -/
noncomputable def sumV (w : World) : Value → Nat
  | .slice (some a) n _ => ((List.range n).map fun j => 2 * szp w ((w.cell? ⟨a.block, j, none⟩).getD .nilIface) + 1).sum
  | _ => 0
noncomputable def sumD (w : World) (D : List Nat) : Nat := (D.map fun b => 2 * szp w (ptr b 0) + 1).sum
theorem sumV_eq {w : World} {B : Nat} {v : Value} {D : List Nat} (h : w.ownsRow B pfT 1 v D.length (litP D)) : sumV w v = sumD w D := by
  rcases h.2 with ⟨rfl, h0⟩ | ⟨g, cap, cur, rfl, hb, hh, hnc, hm, hsz, hx⟩
  · rw [List.eq_nil_of_length_eq_zero h0]; rfl
  · unfold sumV sumD
    refine congrArg List.sum (List.ext_getElem (by simp) fun j h0 h2 => ?_)
    have h1 : j < D.length := by rw [List.length_map] at h2; exact h2
    have hc : w.cell? ⟨g, j, none⟩ = some (ptr D[j] 0) := by
      refine (cell_of_row w g j _ _ (0, 0) hh).trans ?_
      have h3 : (cur.toList.take (D.length * 1))[j]? = some (ptr D[j] 0) := by rw [hx]; simp [litP, h1]
      rw [List.getElem?_take, if_pos (by omega)] at h3
      simpa using h3
    simp [hc]
theorem sumD_same {w w' : World} (hb : Same w w') : ∀ {D : List Nat}, (∀ b ∈ D, ∃ t, IsFault w t b) → sumD w' D = sumD w D
  | [], _ => rfl
  | b :: D, h => by
    obtain ⟨t, hf⟩ := h b (by simp)
    have h1 := sumD_same hb (D := D) (fun b hb' => h b (by simp [hb']))
    unfold sumD at h1 ⊢
    simp only [List.map_cons, List.sum_cons]
    rw [h1, szp_eq hf, szp_eq (hf.same hb)]
theorem sumD_len (w : World) : ∀ D : List Nat, D.length ≤ sumD w D
  | [] => by simp [sumD]
  | b :: D => by
    have := sumD_len w D
    unfold sumD at this ⊢
    simp only [List.map_cons, List.sum_cons, List.length_cons]
    omega
theorem sumD_snoc (w : World) (D : List Nat) (x : Nat) : sumD w (D ++ [x]) = sumD w D + (2 * szp w (ptr x 0) + 1) := by
  unfold sumD; simp
theorem sumD_two (w : World) (D : List Nat) (x y : Nat) : sumD w (D ++ [x, y]) = sumD w D + (2 * szp w (ptr x 0) + 1) + (2 * szp w (ptr y 0) + 1) := by
  unfold sumD; simp; omega
theorem has_step {B : Nat} {wr wr' : World} {v v' : Value} {D : List Nat} {x : Nat} (hm : sumV wr v = sumD wr (D ++ [x])) (ho : wr'.ownsRow B pfT 1 v' D.length (litP D)) (hb : Same wr wr') (ha : ∀ b ∈ D, ∃ t, IsFault wr t b) :
    sumV wr' v' < sumV wr v ∧ sumD wr' D ≤ sumD wr (D ++ [x]) := by
  rw [sumV_eq ho, hm, sumD_snoc, sumD_same hb ha]
  omega
theorem has_fork {B : Nat} {wr wr' : World} {v v' : Value} {D : List Nat} {x p q : Nat} {tx ta tb : FT} (hm : sumV wr v = sumD wr (D ++ [x])) (ho : wr'.ownsRow B pfT 1 v' (D ++ [q, p]).length (litP (D ++ [q, p]))) (hb : Same wr wr') (ha : ∀ b ∈ D, ∃ t, IsFault wr t b)
    (hx : IsFault wr tx x) (hch : chain tx = .both ta tb) (hp : IsFault wr' ta p) (hq : IsFault wr' tb q) :
    sumV wr' v' < sumV wr v ∧ sumD wr' (D ++ [q, p]) ≤ sumD wr (D ++ [x]) := by
  have hz := size_chain tx
  rw [hch] at hz
  simp only [size] at hz
  rw [sumV_eq ho, hm, sumD_snoc, sumD_two, sumD_same hb ha, szp_eq hx, szp_eq hp, szp_eq hq]
  omega
theorem below_put {B m : Nat} {wr w1 : World} (hB : B ≤ m) (h2 : ∀ g, g ≠ m → w1.heap[g]? = wr.heap[g]?) (h3 : w1.heap.size = wr.heap.size) (h4 : w1.os = wr.os) (h5 : w1.tape = wr.tape) (h6 : w1.output = wr.output) : Below B wr w1 :=
  ⟨h4, h5, h6, by omega, fun k hk => h2 k (by omega)⟩
theorem own_blk {w : World} {B g : Nat} {v : Value} {n : Nat} {xs : List Value} {e T : TypeId} {cs : Array Value} (h : w.ownsRow B e 1 v n xs) (hx : Box w g cs T) (hT : T ≠ e) : v.ownBlock ≠ some g := by
  rcases h.2 with ⟨rfl, _⟩ | ⟨g', cap, cur, rfl, _, hh, _⟩
  · simp [Value.ownBlock]
  · simp only [Value.ownBlock, ne_eq, Option.some.injEq]
    rintro rfl
    unfold Box at hx
    rw [hh] at hx
    simp at hx
    exact hT hx.2.symm
theorem own_set {w : World} {B g : Nat} {v : Value} {n : Nat} {xs : List Value} {e : TypeId} {ps : List Nat} (h : w.ownsRow B e 1 v n xs) (hx : SetIs w g ps) : v.ownBlock ≠ some g := by
  rcases h.2 with ⟨rfl, _⟩ | ⟨g', cap, cur, rfl, _, hh, _⟩
  · simp [Value.ownBlock]
  · simp only [Value.ownBlock, ne_eq, Option.some.injEq]
    rintro rfl
    obtain ⟨es, c, he, _⟩ := hx
    rw [hh] at he; cases he
/-- two more onto a row of faults of the call's own -/
theorem app_two {B : Nat} {wr : World} {ops : Array Oper} {rest : List Oper} {o : Oper} {a : Act} {Q : Exit → Act → World → Prop} (hgd : o.guard = none) (s x : Operand)
    (ho : o.op = .call { callee := .builtin .append, args := #[s, x], argTypes := #[25, 25] })
    (v : Value) (D : List Nat) (q p : Nat) (hs : a.eval s = v) (hown : wr.ownsRow B pfT 1 v D.length (litP D)) (hx : a.eval x = .slice (some ⟨wr.heap.size, 0, none⟩) 2 2)
    (hB : B ≤ wr.heap.size) (hn : D.length ≤ 100000000)
    (h : ∀ v' w', w'.ownsRow B pfT 1 v' (D ++ [q, p]).length (litP (D ++ [q, p])) → Below B wr w' → Same wr w' → (∀ m ps, SetIs wr m ps → SetIs w' m ps) → wpList Tryd.prog ops Q rest (a.put o.dst v') w') :
    wpList Tryd.prog ops Q (o :: rest) a (wr.alloc (.cells #[ptr q 0, ptr p 0] pfT)) := by
  obtain ⟨i0, hi, hz0, hz1, hz2⟩ := info_parts info_pf
  have hba : Below wr.heap.size wr (wr.alloc (.cells #[ptr q 0, ptr p 0] pfT)) := (Below.refl _ _).alloc (Nat.le_refl _) _
  refine wpList_append_own _ hgd s x 25 ho B pfT i0 (.pointer none) 1 8 Tryd.underlying25 hi hz0 hz1 hz2 rfl (by decide) v D.length (litP D) hs (hown.alloc _) ⟨wr.heap.size, 0, none⟩ 2 2 [ptr q 0, ptr p 0] hx rfl ?_ ?_ ?_ ?_ ?_ ?_
  · intro j u hj
    match j, hj with
    | 0, hj =>
      simp only [List.getElem?_cons_zero] at hj
      rw [← hj]
      exact cell_of_row _ _ 0 _ _ (0, 0) (heap_alloc_new wr _)
    | 1, hj =>
      simp at hj
      rw [← hj]
      exact cell_of_row _ _ 1 _ _ (0, 0) (heap_alloc_new wr _)
    | j + 2, hj => simp at hj
  · intro u hu
    simp at hu
    rcases hu with rfl | rfl <;> rfl
  · unfold maxLen; omega
  · omega
  · simp; omega
  · intro v' w' h1 h2 _
    refine h v' w' ?_ ?_ ?_ ?_
    · rw [List.length_append]
      unfold litP at h1 ⊢
      rw [List.map_append]; exact h1
    · refine ((Below.refl _ _).alloc hB _).grown h2 (by simp; omega) fun k hk => ?_
      rcases hown.2 with ⟨rfl, _⟩ | ⟨g, cap, cur, rfl, hg, _⟩
      · simp [Value.ownBlock] at hk
      · simp only [Value.ownBlock, Option.some.injEq] at hk; omega
    · intro g cs hb
      have hb2 := hb.alloc (.cells #[ptr q 0, ptr p 0] pfT)
      have hT : (74 : TypeId) ≠ pfT := by decide
      exact (h2.block g hb2.lt (fun e => own_blk (hown.alloc (.cells #[ptr q 0, ptr p 0] pfT)) hb2 hT e.symm)).trans hb2
    · intro m ps hm
      have hm2 := hm.below hba
      have hm3 := hm2
      obtain ⟨es, c, he, hr⟩ := hm3
      exact ⟨es, c, (h2.block m hm2.lt (fun e => own_set (hown.alloc (.cells #[ptr q 0, ptr p 0] pfT)) hm2 e.symm)).trans he, hr⟩
set_option maxRecDepth 100000 in
set_option maxHeartbeats 8000000 in
theorem fau_has (t0 : FT) (b0 : Nat) (w : World) (hf : IsFault w t0 b0) (hG : Glob w) (hsz : size t0 ≤ 1000000) (W : Want) :
    Calls Tryd.prog 29 #[ptr b0 0, .iface (wT W) (.int .i64 (wK W))] w fun e w' => e = .returned (.bool (hasF W t0)) ∧ Below w.heap.size w w' := by
  have hmm := @run_makeMap Tryd.prog
  have hlt0 := hG.lt
  have HI := Lib.hid (fun t v W1 (h : IsPart W1 t v) => Is_f t v W1 h W)
  generalize hT : wT W = T at *
  generalize hK : wK W = K at *
  clear hT hK
  go_enter Tryd.func29, Tryd.ntmps29
  go_wp2
  have HT0 : Hid (Todo ((w.alloc (.map #[] 0)).alloc (.cells #[ptr b0 0] pfT)) W t0 b0 [] [b0]) := by
    have hb1 : Below w.heap.size w ((w.alloc (.map #[] 0)).alloc (.cells #[ptr b0 0] pfT)) := ((Below.refl _ _).alloc (Nat.le_refl _) _).alloc (by rw [alloc_size']; omega) _
    exact Todo.start (hf.below hb1)
  have HS0 : Hid (SetIs ((w.alloc (.map #[] 0)).alloc (.cells #[ptr b0 0] pfT)) w.heap.size []) := by
    refine ⟨#[], 0, ?_, by simp⟩
    rw [heap_alloc_old _ _ (by simp), heap_alloc_new]
  have HO0 : Hid (((w.alloc (.map #[] 0)).alloc (.cells #[ptr b0 0] pfT)).ownsRow (w.heap.size + 1) pfT 1 (.slice (some ⟨w.heap.size + 1, 0, none⟩) 1 1) ([b0] : List Nat).length (litP [b0])) := by
    have h := ownP_one (w.alloc (.map #[] 0)) b0 (w.heap.size + 1) (by rw [alloc_size']; omega)
    rw [alloc_size'] at h; exact h
  have hb1 : Below w.heap.size w ((w.alloc (.map #[] 0)).alloc (.cells #[ptr b0 0] pfT)) := ((Below.refl _ _).alloc (Nat.le_refl _) _).alloc (by rw [alloc_size']; omega) _
  have HZ0 : Hid (sumD ((w.alloc (.map #[] 0)).alloc (.cells #[ptr b0 0] pfT)) [b0] ≤ 2 * size t0 + 1) := by
    show _ ≤ _
    unfold sumD
    simp only [List.map_cons, List.map_nil, List.sum_cons, List.sum_nil, szp_eq (hf.below hb1)]
    omega
  have HF0 := Lib.hid hf
  clear hf
  go_loopw [6] (fun v wr => ∃ S D, Hid (Todo wr W t0 b0 S D) ∧ Hid (wr.ownsRow (w.heap.size + 1) pfT 1 v D.length (litP D)) ∧ Hid (SetIs wr w.heap.size S) ∧ Hid (Below w.heap.size w wr) ∧ Hid (sumD wr D ≤ 2 * size t0 + 1)) (fun v wr => sumV wr v)
  case atStart => exact ⟨[], [b0], HT0.out, HO0.out, HS0.out, hb1, HZ0.out⟩
  case round =>
    obtain ⟨S, D, HT, HO, HS, HB, HZ⟩ := hrel
    rcases List.eq_nil_or_concat D with rfl | ⟨D', x, rfl⟩
    · obtain ⟨A, c, rfl⟩ := ownP_shape HO.out
      have HR : Hid (hasF W t0 = false) := HT.out.done (HF0.out.below HB.out)
      go_wp2
      go_ret
      exact ⟨by rw [HR.out]; rfl, HB.out⟩
    · rw [List.concat_eq_append] at HT HO HZ
      have hmeas := Lib.hid (sumV_eq HO.out)
      obtain ⟨g, c, rfl, hcc, hcell, hrow⟩ := ownP_last HO.out
      have HRow := Lib.hid hrow
      clear hrow
      obtain ⟨tx, hfx, himp⟩ := HT.out.all x (.inr (by simp))
      have HFX := Lib.hid hfx
      have HIMP := Lib.hid himp
      have hbS : Hid (∀ b ∈ S, ∃ c t, Box wr b c t) := fun b hb => by
        obtain ⟨t, ⟨v, hx, _⟩, _⟩ := HT.out.all b (.inl hb)
        exact ⟨_, _, hx⟩
      obtain ⟨u, hux, hup⟩ := hfx
      have HUX := Lib.hid hux
      have HUP := Lib.hid hup
      clear hux hup himp
      have hlen : D'.length ≤ 2 * size t0 + 1 := by
        have h1 := sumD_len wr (D' ++ [x])
        have h2 := HZ.out
        simp only [List.length_append, List.length_singleton] at h1
        omega
      have hlen2 : (D'.length : Int) ≤ 3000000 := by omega
      clear hlen
      have hg1 : (D'.length : Int) < ((D'.length + 1 : Nat) : Int) := by omega
      have hg2 : ((D'.length : Nat) : Int) ≤ (c : Int) := by omega
      generalize hN : D'.length = N at *
      have HN := Lib.hid hN
      clear hN
      by_cases hin : S.contains x = true
      · go_wp2_with (at_lookup; refine wpList_look rfl (.tmp 32) (.tmp 33) rfl HS.out HUX.out hbS.out rfl rfl ?_; rw [hin])
        have hb2 : Below wr.heap.size wr (wr.alloc (.cells #[] 87)) := (Below.refl _ _).alloc (Nat.le_refl _) _
        have hall : ∀ b ∈ D', ∃ t, IsFault wr t b := fun b hb => by
          obtain ⟨t, h, _⟩ := HT.out.all b (.inr (by simp [hb]))
          exact ⟨t, h⟩
        have ho := ownP_below HRow.out hb2
        rw [← HN.out] at ho
        have hst := has_step hmeas.out ho (same_below hb2) hall
        rw [HN.out] at hst ho
        have hz := HZ.out
        exact ⟨⟨S, D', (HT.out.skip (by simpa using hin)).same (same_below hb2), (by show World.ownsRow _ _ _ _ _ _ _; rw [HN.out]; exact ho), HS.out.below hb2, HB.out.trans (hb2.mono HB.out.size), (by show _ ≤ _; omega)⟩, hst.1⟩
      · have hin2 : S.contains x = false := by simpa using hin
        have hnot : Hid (x ∉ S) := by show x ∉ S; simpa using hin2
        have hall : Hid (∀ b ∈ D', ∃ t, IsFault wr t b) := fun b hb => by
          obtain ⟨t, h, _⟩ := HT.out.all b (.inr (by simp [hb]))
          exact ⟨t, h⟩
        have KI := Lib.hid (fun w1 h => HI.out tx u w1 h)
        cases hfe : fitsEnd W (chain tx) with
        | true =>
          rw [hfe] at KI
          have HR : Hid (hasF W t0 = true) := HIMP.out (hasF_fits hfe)
          clear hfe
          go_wp2_with (first
            | (at_lookup; refine wpList_look rfl (.tmp 32) (.tmp 33) rfl HS.out HUX.out hbS.out rfl rfl ?_; rw [hin2])
            | (at_mapUpdate; refine wpList_put rfl (.tmp 38) (.tmp 39) (.tmp 40) rfl (HS.out.below ((Below.refl wr.heap.size wr).alloc (Nat.le_refl _) (.cells #[] 87))) (HUX.out.alloc (.cells #[] 87)) (fun b hb => by obtain ⟨c, t, h⟩ := hbS.out b hb; exact ⟨c, t, h.alloc _⟩) hin2 rfl rfl rfl ?_; intro w1 hs1 hk1 hz1 ho1 ht1 hp1; have hsm := (same_below ((Below.refl wr.heap.size wr).alloc (Nat.le_refl _) (.cells #[] 87))).trans (same_put (HS.out.below ((Below.refl wr.heap.size wr).alloc (Nat.le_refl _) (.cells #[] 87))) hk1); have hrw := ownP_map (ownP_below HRow.out ((Below.refl wr.heap.size wr).alloc (Nat.le_refl _) (.cells #[] 87))) (HS.out.below ((Below.refl wr.heap.size wr).alloc (Nat.le_refl _) (.cells #[] 87))) hk1; have hbl : Below w.heap.size w w1 := (HB.out.alloc HB.out.size (.cells #[] 87)).trans (below_put (Nat.le_refl _) hk1 hz1 ho1 ht1 hp1); have X1c := (hsm _ _ HUX.out).cell 0; simp at X1c; have HP1 := Lib.hid (HUP.out.same hsm); have HSM := Lib.hid hsm; have HRW := Lib.hid hrw; clear hsm hrw)
            | (go_at_call 33; refine (KI.out w1 HP1.out).mono ?_; rintro e w2 ⟨rfl, hb2⟩))
          go_ret
          exact ⟨by rw [HR.out]; rfl, hbl.trans (hb2.mono hbl.size)⟩
        | false =>
          rw [hfe] at KI
          have HFE := Lib.hid hfe
          clear hfe
          have KG := Lib.hid (fun w2 (h : Below w.heap.size w w2) => hG.below hlt0 h)
          rcases chain_ends tx with ⟨op, n0, c0, hch⟩ | ⟨ta, tb, hch⟩
          · have HCH := Lib.hid hch
            clear hch
            go_wp2_with (first
              | (at_lookup; refine wpList_look rfl (.tmp 32) (.tmp 33) rfl HS.out HUX.out hbS.out rfl rfl ?_; rw [hin2])
              | (at_mapUpdate; refine wpList_put rfl (.tmp 38) (.tmp 39) (.tmp 40) rfl (HS.out.below ((Below.refl wr.heap.size wr).alloc (Nat.le_refl _) (.cells #[] 87))) (HUX.out.alloc (.cells #[] 87)) (fun b hb => by obtain ⟨c, t, h⟩ := hbS.out b hb; exact ⟨c, t, h.alloc _⟩) hin2 rfl rfl rfl ?_; intro w1 hs1 hk1 hz1 ho1 ht1 hp1; have hsm := (same_below ((Below.refl wr.heap.size wr).alloc (Nat.le_refl _) (.cells #[] 87))).trans (same_put (HS.out.below ((Below.refl wr.heap.size wr).alloc (Nat.le_refl _) (.cells #[] 87))) hk1); have hrw := ownP_map (ownP_below HRow.out ((Below.refl wr.heap.size wr).alloc (Nat.le_refl _) (.cells #[] 87))) (HS.out.below ((Below.refl wr.heap.size wr).alloc (Nat.le_refl _) (.cells #[] 87))) hk1; have hbl : Below w.heap.size w w1 := (HB.out.alloc HB.out.size (.cells #[] 87)).trans (below_put (Nat.le_refl _) hk1 hz1 ho1 ht1 hp1); have X1c := (hsm _ _ HUX.out).cell 0; simp at X1c; have HP1 := Lib.hid (HUP.out.same hsm); have HSM := Lib.hid hsm; have HRW := Lib.hid hrw; clear hsm hrw)
              | (go_at_call 33; refine (KI.out w1 HP1.out).mono ?_; rintro e w2 ⟨rfl, hb2⟩)
              | (go_at_call 23; have hbl2 := hbl.trans (hb2.mono hbl.size); refine (fau_comb_miss tx x w2 ((HFX.out.same HSM.out).below hb2) (KG.out w2 hbl2) op n0 c0 HCH.out).mono ?_; rintro e w3 ⟨rfl, hb3⟩))
            have hb5 := hb2.trans (hb3.mono hb2.size)
            have hb6 := hb5.alloc hb5.size (.cells zB 59)
            have hS := HSM.out.trans (same_below hb6)
            have ho := ownP_below HRW.out hb6
            rw [← HN.out] at ho
            have hst := has_step hmeas.out ho hS hall.out
            rw [HN.out] at hst ho
            have hz := HZ.out
            exact ⟨⟨S ++ [x], D', (HT.out.end hnot.out HFX.out op n0 c0 HCH.out HFE.out).same hS, (by show World.ownsRow _ _ _ _ _ _ _; rw [HN.out]; exact ho), hs1.below hb6, hbl.trans (hb6.mono hbl.size), Nat.le_trans hst.2 hz⟩, hst.1⟩
          · have HCH := Lib.hid hch
            clear hch
            go_wp2_with (first
              | (at_lookup; refine wpList_look rfl (.tmp 32) (.tmp 33) rfl HS.out HUX.out hbS.out rfl rfl ?_; rw [hin2])
              | (at_mapUpdate; refine wpList_put rfl (.tmp 38) (.tmp 39) (.tmp 40) rfl (HS.out.below ((Below.refl wr.heap.size wr).alloc (Nat.le_refl _) (.cells #[] 87))) (HUX.out.alloc (.cells #[] 87)) (fun b hb => by obtain ⟨c, t, h⟩ := hbS.out b hb; exact ⟨c, t, h.alloc _⟩) hin2 rfl rfl rfl ?_; intro w1 hs1 hk1 hz1 ho1 ht1 hp1; have hsm := (same_below ((Below.refl wr.heap.size wr).alloc (Nat.le_refl _) (.cells #[] 87))).trans (same_put (HS.out.below ((Below.refl wr.heap.size wr).alloc (Nat.le_refl _) (.cells #[] 87))) hk1); have hrw := ownP_map (ownP_below HRow.out ((Below.refl wr.heap.size wr).alloc (Nat.le_refl _) (.cells #[] 87))) (HS.out.below ((Below.refl wr.heap.size wr).alloc (Nat.le_refl _) (.cells #[] 87))) hk1; have hbl : Below w.heap.size w w1 := (HB.out.alloc HB.out.size (.cells #[] 87)).trans (below_put (Nat.le_refl _) hk1 hz1 ho1 ht1 hp1); have X1c := (hsm _ _ HUX.out).cell 0; simp at X1c; have HP1 := Lib.hid (HUP.out.same hsm); have HSM := Lib.hid hsm; have HRW := Lib.hid hrw; clear hsm hrw)
              | (go_at_call 33; refine (KI.out w1 HP1.out).mono ?_; rintro e w2 ⟨rfl, hb2⟩)
              | (go_at_call 23; have hbl2 := hbl.trans (hb2.mono hbl.size); refine (fau_comb_hit tx x w2 ((HFX.out.same HSM.out).below hb2) (KG.out w2 hbl2) ta tb HCH.out).mono ?_; rintro e w3 ⟨p, q, rfl, hA, hB3, hb3⟩; have HA := Lib.hid hA; have HB3 := Lib.hid hB3; clear hA hB3)
              | (at_builtin; have hb5 := hb2.trans (hb3.mono hb2.size); have hrw5 := ownP_below (ownP_below HRW.out hb5) ((Below.refl w3.heap.size w3).alloc (Nat.le_refl _) (.cells #[ptr p 0, ptr q 0] 59)); have hlt5 := (hrw5.lt g rfl); refine app_two (wr := w3.alloc (.cells #[ptr p 0, ptr q 0] 59)) rfl (.tmp 53) (.tmp 58) rfl _ D' q p rfl (by rw [HN.out]; exact hrw5) (by rw [alloc_size']; rfl) (by omega) (by rw [HN.out]; omega) ?_; intro v' w4 hown4 hb4 hsm4 hset4))
            have hb5 := hb2.trans (hb3.mono hb2.size)
            have hb6 := hb5.alloc hb5.size (.cells #[ptr p 0, ptr q 0] 59)
            have hba := (Below.refl w3.heap.size w3).alloc (Nat.le_refl _) (.cells #[ptr p 0, ptr q 0] 59)
            have hS := HSM.out.trans ((same_below hb6).trans hsm4)
            have hp := (HA.out.below hba).same hsm4
            have hq := (HB3.out.below hba).same hsm4
            have hst := has_fork hmeas.out hown4 hS hall.out HFX.out HCH.out hp hq
            have hz := HZ.out
            have hbx := hbl.trans (hb6.mono hbl.size)
            exact ⟨⟨S ++ [x], D' ++ [q, p], (HT.out.same hS).fork hnot.out (HFX.out.same hS) HCH.out hp hq, hown4, hset4 _ _ (hs1.below hb6), hbx.trans (hb4.mono (by omega)), Nat.le_trans hst.2 hz⟩, hst.1⟩
theorem fau_Has (t0 : FT) (b0 : Nat) (w : World) (hf : IsFault w t0 b0) (hG : Glob w) (hsz : size t0 ≤ 1000000) (k : Int) :
    Calls Tryd.prog 17 #[ptr b0 0, .int .i64 k] w fun e w' => e = .returned (.bool (hasF (.code k) t0)) ∧ Below w.heap.size w w' := by
  have KH := Lib.hid (fau_has t0 b0 w hf hG hsz (.code k))
  generalize hasF (.code k) t0 = R at *
  go_enter Tryd.func17, Tryd.ntmps17
  go_wp2_with (go_at_call 29; refine KH.out.mono ?_; rintro e w1 ⟨rfl, hb1⟩)
  go_ret
  exact ⟨rfl, hb1⟩
theorem fau_Of (t0 : FT) (b0 : Nat) (w : World) (hf : IsFault w t0 b0) (hG : Glob w) (hsz : size t0 ≤ 1000000) (k : Int) :
    Calls Tryd.prog 18 #[ptr b0 0, .int .i64 k] w fun e w' => e = .returned (.bool (hasF (.cls k) t0)) ∧ Below w.heap.size w w' := by
  have KH := Lib.hid (fau_has t0 b0 w hf hG hsz (.cls k))
  generalize hasF (.cls k) t0 = R at *
  go_enter Tryd.func18, Tryd.ntmps18
  go_wp2_with (go_at_call 29; refine KH.out.mono ?_; rintro e w1 ⟨rfl, hb1⟩)
  go_ret
  exact ⟨rfl, hb1⟩
end Go.Proofs.YtndofhcnjmbfeaaDoor
