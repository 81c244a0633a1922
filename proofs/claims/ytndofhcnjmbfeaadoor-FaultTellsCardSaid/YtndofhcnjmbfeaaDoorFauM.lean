/- Sets of faults, by where they lie: looked up and put. -/
import Derived.Test.YtndofhcnjmbfeaaDoorFauL
import Derived.LaidEqlPtr
import Derived.Maps.RangeRun
namespace Go.Proofs.YtndofhcnjmbfeaaDoor
open Go.RowKit
set_option linter.unusedVariables false
set_option linter.unusedSimpArgs false

/-- block m is a map whose keys are pointers to the blocks ps -/
def SetIs (w : World) (m : Nat) (ps : List Nat) : Prop := ∃ es c, w.heap[m]? = some (.map es c) ∧ es.toList.map (fun e => (e.key, e.val)) = ps.map (fun b => (ptr b 0, Value.agg #[]))
theorem info_fault : (Tryd.prog.info? 74).map (·.size) = some 1 := by kernel_rfl
theorem eq_ptr {w : World} {a b : Nat} {ca cb : Array Value} {ta tb : TypeId} (ha : Box w a ca ta) (hb : Box w b cb tb) :
    (Op.equal 31 (ptr a 0) (ptr b 0)).run Tryd.prog w = .ok (decide (a = b)) w := by
  obtain ⟨j, hj, hjs⟩ := Option.map_eq_some_iff.1 info_fault
  by_cases h : a = b
  · subst h
    have h : ∀ d : Nat, (Op.equalIn (d + 1) 31 (ptr a 0) (ptr a 0)).run Tryd.prog w = .ok true w := fun d => by
      simp [Op.equalIn, run_underlying Tryd.underlying31, sizeOf, typeInfo, hj, run_sameAddr_same]
    simp [Op.equal, Op.maxDepth, h 9999]
  · have hne : (⟨a, 0, none⟩ : Addr) ≠ ⟨b, 0, none⟩ := by simp [h]
    have h2 : ∀ d : Nat, (Op.equalIn (d + 1) 31 (ptr a 0) (ptr b 0)).run Tryd.prog w = .ok false w := fun d => by
      simp [Op.equalIn, run_underlying Tryd.underlying31, sizeOf, typeInfo, hj, hjs, run_sameAddr_other w hne ha hb]
    simp [Op.equal, Op.maxDepth, h2 9999, h]
theorem run_asking {w : World} {x : Nat} {cx : Array Value} {tx : TypeId} (hx : Box w x cx tx) : ∀ (ps : List Nat) (es : List MapEntry) (i : Nat), es.map (fun e => (e.key, e.val)) = ps.map (fun b => (ptr b 0, Value.agg #[])) → (∀ b ∈ ps, ∃ c t, Box w b c t) →
    ∃ r, (Instr.findAsking 31 (ptr x 0) es i).run Tryd.prog w = .ok r w ∧ (ps.contains x = true → ∃ j, r = some (j, .agg #[])) ∧ (ps.contains x = false → r = none)
  | [], es, i, h, _ => by
    obtain rfl : es = [] := by simpa using h
    exact ⟨none, by simp [Instr.findAsking], by simp, by simp⟩
  | b :: ps, [], i, h, _ => by simp at h
  | b :: ps, e :: es, i, h, hb => by
    simp only [List.map_cons, List.cons.injEq, Prod.mk.injEq] at h
    obtain ⟨⟨hk, hv⟩, hr⟩ := h
    obtain ⟨c, t, hbx⟩ := hb b (by simp)
    have heq := eq_ptr hx hbx
    by_cases hxb : x = b
    · subst hxb
      refine ⟨some (i, .agg #[]), ?_, fun _ => ⟨i, rfl⟩, by simp⟩
      simp [Instr.findAsking, hk, heq, hv, Result.andThen]
    · obtain ⟨r, hrun, h1, h2⟩ := run_asking hx ps es (i + 1) hr (fun b' hb' => hb b' (by simp [hb']))
      refine ⟨r, ?_, fun hc => h1 ?_, fun hc => h2 ?_⟩
      · simp [Instr.findAsking, hk, heq, hxb, Result.andThen, hrun]
      · simp at hc ⊢
        rcases hc with hc | hc
        · exact absurd hc hxb
        · exact hc
      · simp at hc ⊢
        exact hc.2
abbrev mapT : TypeId := 86
theorem zero_unit (w : World) : (zeroValue 87).run Tryd.prog w = .ok (.agg #[]) w := by kernel_rfl
theorem run_findKey {w : World} {x : Nat} {cx : Array Value} {tx : TypeId} (hx : Box w x cx tx) (ps : List Nat) (es : List MapEntry) (h : es.map (fun e => (e.key, e.val)) = ps.map (fun b => (ptr b 0, Value.agg #[]))) (hb : ∀ b ∈ ps, ∃ c t, Box w b c t) :
    ∃ r, (Instr.findKey 31 (ptr x 0) es).run Tryd.prog w = .ok r w ∧ (ps.contains x = true → ∃ j, r = some (j, .agg #[])) ∧ (ps.contains x = false → r = none) := by
  obtain ⟨r, hr, h1, h2⟩ := run_asking hx ps es 0 h hb
  refine ⟨r, ?_, h1, h2⟩
  cases es with
  | nil =>
    have hr0 := hr
    simp [Instr.findAsking] at hr0
    subst hr0
    simp [Instr.findKey, run_underlying Tryd.underlying31, Instr.findNow]
  | cons e es =>
    simp [Instr.findKey, run_underlying Tryd.underlying31, Instr.findNow, Instr.sameNow, hr]
theorem get_map {w : World} {m : Nat} {es : Array MapEntry} {c : Nat} (h : w.heap[m]? = some (.map es c)) : (getObj m).run Tryd.prog w = .ok (.map es c) w := by simp [getObj, Sem.run, h]
theorem check_ptr (em : Bool) (x : Nat) (w : World) : (Instr.checkKey em 10000 31 (ptr x 0)).run Tryd.prog w = .ok () w := by
  have h : ∀ n, (Instr.checkKey em (n + 1) 31 (ptr x 0)).run Tryd.prog w = .ok () w := fun n => by
    simp [Instr.checkKey, run_underlying Tryd.underlying31]
  exact h 9999
theorem run_look {w : World} {m x : Nat} {cx : Array Value} {tx : TypeId} {ps : List Nat} (hm : SetIs w m ps) (hx : Box w x cx tx) (hb : ∀ b ∈ ps, ∃ c t, Box w b c t) :
    (Instr.lookup mapT (.map (some m)) (ptr x 0) true).run Tryd.prog w = .ok (.tuple #[.agg #[], .bool (ps.contains x)]) w := by
  obtain ⟨es, c, hh, he⟩ := hm
  obtain ⟨r, hr, h1, h2⟩ := run_findKey hx ps es.toList he hb
  have hg := get_map hh
  have hk := check_ptr es.isEmpty x w
  unfold Instr.lookup
  simp only [Sem.run_bind, run_underlying Tryd.underlying86, Result.andThen, hg, hk, hr, Sem.run_pure]
  cases hc : ps.contains x with
  | true =>
    obtain ⟨j, rfl⟩ := h1 hc
    simp
  | false =>
    obtain rfl := h2 hc
    simp [zero_unit, Result.andThen]
theorem set_map {w : World} {m : Nat} {es : Array MapEntry} {c : Nat} (h : w.heap[m]? = some (.map es c)) (o : Obj) : (setObj m o).run Tryd.prog w = .ok () { w with heap := w.heap.setIfInBounds m o } := by
  simp [setObj, Sem.run, h]
theorem run_put {w : World} {m x : Nat} {cx : Array Value} {tx : TypeId} {ps : List Nat} (hm : SetIs w m ps) (hx : Box w x cx tx) (hb : ∀ b ∈ ps, ∃ c t, Box w b c t) (hn : ps.contains x = false) :
    ∃ w', (Instr.mapUpdate mapT (.map (some m)) (ptr x 0) (.agg #[])).run Tryd.prog w = .ok () w' ∧ SetIs w' m (ps ++ [x]) ∧ (∀ g, g ≠ m → w'.heap[g]? = w.heap[g]?) ∧ w'.heap.size = w.heap.size ∧ w'.os = w.os ∧ w'.tape = w.tape ∧ w'.output = w.output := by
  obtain ⟨es, c, hh, he⟩ := hm
  obtain ⟨r, hr, h1, h2⟩ := run_findKey hx ps es.toList he hb
  obtain rfl := h2 hn
  have hg := get_map hh
  have hk := check_ptr false x w
  have hlt : m < w.heap.size := by
    rcases Nat.lt_or_ge m w.heap.size with h | h
    · exact h
    · rw [Array.getElem?_eq_none h] at hh; cases hh
  refine ⟨{ w with heap := w.heap.setIfInBounds m (.map (es.push ⟨ptr x 0, .agg #[], c⟩) (c + 1)) }, ?_, ⟨es.push ⟨ptr x 0, .agg #[], c⟩, c + 1, ?_, ?_⟩, fun g hgm => ?_, ?_, rfl, rfl, rfl⟩
  · unfold Instr.mapUpdate
    simp only [Sem.run_bind, run_underlying Tryd.underlying86, Result.andThen, hg, hk, hr, Sem.run_pure]
    exact set_map hh _
  · simp [hlt]
  · simp [he]
  · simp [Array.getElem?_setIfInBounds, Ne.symm hgm]
  · simp
section
variable {ops : Array Oper} {rest : List Oper} {o : Oper} {a : Act} {Q : Exit → Act → World → Prop}
theorem wpList_look (hg : o.guard = none) (mo xo : Operand) (hop : o.op = Op.lookup mapT mo xo true) {w : World} {m x : Nat} {cx : Array Value} {tx : TypeId} {ps : List Nat} (hm : SetIs w m ps) (hx : Box w x cx tx) (hb : ∀ b ∈ ps, ∃ c t, Box w b c t)
    (hme : a.eval mo = .map (some m)) (hxe : a.eval xo = ptr x 0) (hK : wpList Tryd.prog ops Q rest (a.put o.dst (.tuple #[.agg #[], .bool (ps.contains x)])) w) : wpList Tryd.prog ops Q (o :: rest) a w := by
  refine wpList_plain hg fun K' hK' => ?_
  have hrun := run_look hm hx hb
  generalize ps.contains x = bb at hrun hK
  unfold Oper.wp
  simp [execOp, hop, hme, hxe, hrun, Result.andThen]
  exact hK' _ _ hK
theorem wpList_put (hg : o.guard = none) (mo xo vo : Operand) (hop : o.op = Op.mapUpdate mapT mo xo vo) {w : World} {m x : Nat} {cx : Array Value} {tx : TypeId} {ps : List Nat} (hm : SetIs w m ps) (hx : Box w x cx tx) (hb : ∀ b ∈ ps, ∃ c t, Box w b c t) (hn : ps.contains x = false)
    (hme : a.eval mo = .map (some m)) (hxe : a.eval xo = ptr x 0) (hve : a.eval vo = .agg #[])
    (hK : ∀ w', SetIs w' m (ps ++ [x]) → (∀ g, g ≠ m → w'.heap[g]? = w.heap[g]?) → w'.heap.size = w.heap.size → w'.os = w.os → w'.tape = w.tape → w'.output = w.output → wpList Tryd.prog ops Q rest (a.put o.dst undef) w') : wpList Tryd.prog ops Q (o :: rest) a w := by
  refine wpList_plain hg fun K' hK' => ?_
  obtain ⟨w', hrun, h1, h2, h3, h4, h5, h6⟩ := run_put hm hx hb hn
  unfold Oper.wp
  simp [execOp, hop, hme, hxe, hve, hrun, Result.andThen]
  exact hK' _ _ (hK w' h1 h2 h3 h4 h5 h6)
end
theorem nodup_le : ∀ (N : Nat) (l : List Nat), l.Nodup → (∀ b ∈ l, b < N) → l.length ≤ N
  | 0, l, _, h => by
    cases l with
    | nil => simp
    | cons b l => exact absurd (h b (by simp)) (by omega)
  | N + 1, l, hn, h => by
    have h1 := nodup_le N (l.erase N) (hn.erase N) (fun b hb => by
      have h2 := h b (List.mem_of_mem_erase hb)
      have h3 : b ≠ N := fun e => by subst e; exact absurd hb (hn.not_mem_erase)
      omega)
    have h4 := List.length_erase (a := N) (l := l)
    split at h4 <;> omega
end Go.Proofs.YtndofhcnjmbfeaaDoor
