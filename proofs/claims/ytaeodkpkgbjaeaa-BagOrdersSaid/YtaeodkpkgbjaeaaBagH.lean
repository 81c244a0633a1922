/- Layer 18 (bag): rows in memory that are written: copy, append with room, clear, at any size of an element. -/
import Derived.Test.YtaeodkpkgbjaeaaBagI
import Derived.Test.YtaeodkpkgbjaeaaScoS
import Derived.Laws.CopyRow
import Derived.ArgAppend
import Derived.Lib.Overlaps
namespace Go.Proofs.Ytaeodkpkgbjaeaa
open Go.RowKit
set_option linter.unusedVariables false
set_option linter.unusedSimpArgs false

/-- vs laid over L, from o on -/
def layL (L : List Value) (o : Nat) (vs : List Value) : List Value := L.take o ++ vs ++ L.drop (o + vs.length)
theorem layL_len (L : List Value) (o : Nat) (vs : List Value) (h : o + vs.length ≤ L.length) : (layL L o vs).length = L.length := by
  unfold layL; simp; omega
theorem layL_nil (L : List Value) (o : Nat) : layL L o [] = L := by unfold layL; simp
section
variable {P : Program}
theorem run_copy_k (w : World) (dT sT ty e : TypeId) (i : TypeInfo) (k : Nat) (hu : P.underlying dT = some (.slice e)) (hi : P.info? e = some i) (hk : i.size = k) (g o dLen dCap : Nat) (sd : Addr) (sLen sCap : Nat) (L : List Value) (t : TypeId) (cs : List Value)
    (hg : w.heap[g]? = some (.cells L.toArray t (0, 0))) (hn : cs.length = Nat.min sLen dLen * k) (hsrc : ∀ j v, cs[j]? = some v → w.cell? (sd.add j) = some v) (hfit : o + cs.length ≤ L.length) (h1 : ∀ v ∈ cs, v.oneCell' = true) :
    (Builtin.copy_ #[dT, sT] ty #[.slice (some ⟨g, o, none⟩) dLen dCap, .slice (some sd) sLen sCap]).run P w = .ok (goInt (Nat.min sLen dLen)) (w.setRow g (layL L o cs).toArray) := by
  subst hk
  have hl := run_firstCells_some (P := P) w i.size (Nat.min sLen dLen) sd sLen sCap cs hn hsrc
  have hst := run_storeCells_at P g o t cs 0 L.toArray w hg (by simpa using hfit) h1
  simp only [Nat.add_zero, List.toList_toArray] at hst
  unfold layL
  simp [Builtin.copy_, run_underlying hu, Builtin.lenOf, sizeOf, typeInfo, hi, hl, hst]
theorem run_app_k (w : World) (t ty e : TypeId) (i : TypeInfo) (k : Nat) (hu : P.underlying t = some (.slice e)) (hi : P.info? e = some i) (hk : i.size = k) (g o n c : Nat) (sd : Addr) (m sCap : Nat) (L : List Value) (T : TypeId) (news : List Value)
    (hg : w.heap[g]? = some (.cells L.toArray T (0, 0))) (hn : news.length = m * k) (hsrc : ∀ j v, news[j]? = some v → w.cell? (sd.add j) = some v) (hroom : n + m ≤ c) (hfit : o + n * k + news.length ≤ L.length) (h1 : ∀ v ∈ news, v.oneCell' = true) :
    (Builtin.append_ #[t, t] ty #[.slice (some ⟨g, o, none⟩) n c, .slice (some sd) m sCap]).run P w = .ok (.slice (some ⟨g, o, none⟩) (n + m) c) (w.setRow g (layL L (o + n * k) news).toArray) := by
  subst hk
  have hl := run_firstCells_some (P := P) w i.size m sd m sCap news hn hsrc
  have hst := run_storeCells_at P g (o + n * i.size) T news 0 L.toArray w hg (by simpa using hfit) h1
  simp only [Nat.add_zero, List.toList_toArray] at hst
  unfold layL
  simp [Builtin.append_, run_underlying hu, sizeOf, typeInfo, hi, Builtin.lenOf, hroom, hl, Addr.add_lit, hst]
theorem run_clear_k (w : World) (t ty e : TypeId) (z : Value) (k : Nat) (hu : P.underlying t = some (.slice e)) (hv : ∀ w, (zeroValue e).run P w = .ok z w) (hk : z.cells.size = k) (hz : ∀ v ∈ z.cells, v.oneCell' = true) (g o n c : Nat) (L : List Value) (T : TypeId)
    (hg : w.heap[g]? = some (.cells L.toArray T (0, 0))) (hfit : o + n * k ≤ L.length) (h0 : 0 < n) :
    ∃ zs : List Value, zs.length = n * k ∧ (Builtin.clear_ #[t] ty #[.slice (some ⟨g, o, none⟩) n c]).run P w = .ok (.tuple #[]) (w.setRow g (layL L o zs).toArray) := by
  subst hk
  have hlen : (Builtin.zeroCells z.cells n).toList.length = n * z.cells.size := by simp [Builtin.zeroCells]
  have hone : ∀ v ∈ (Builtin.zeroCells z.cells n).toList, v.oneCell' = true := by
    intro v hv
    simp only [Builtin.zeroCells, Array.toList_map, List.mem_map, Array.toList_range, List.mem_range] at hv
    obtain ⟨j, hj, rfl⟩ := hv
    have hp : 0 < z.cells.size := by
      rcases Nat.eq_zero_or_pos z.cells.size with h | h
      · rw [h] at hj; omega
      · exact h
    have hm : j % z.cells.size < z.cells.size := Nat.mod_lt _ hp
    rw [getElem!_pos z.cells _ hm]
    exact hz _ (Array.getElem_mem hm)
  have hst := run_storeCells_at P g o T (Builtin.zeroCells z.cells n).toList 0 L.toArray w hg (by simpa [hlen] using hfit) hone
  simp only [Nat.add_zero, List.toList_toArray] at hst
  refine ⟨(Builtin.zeroCells z.cells n).toList, hlen, ?_⟩
  obtain ⟨m, rfl⟩ : ∃ m, n = m + 1 := ⟨n - 1, by omega⟩
  unfold layL
  simp [Builtin.clear_, run_underlying hu, hv, hst]
theorem wp_copy_run (w : World) {o : Oper} {a : Act} {K : Act → World → Prop} {Q : Exit → Act → World → Prop} (d s : Operand) (t t' : TypeId)
    (ho : o.op = .call { callee := .builtin .copy, args := #[d, s], argTypes := #[t, t'] }) (v u : Value) (hd : a.eval d = v) (hs : a.eval s = u) {v' : Value} {w' : World}
    (hr : (Builtin.copy_ #[t, t'] o.type #[v, u]).run P w = .ok v' w') (h : K (a.put o.dst v') w') : o.wp P a w K Q := by
  unfold Oper.wp execOp
  simp only [ho, resolve, invoke, builtin, Sem.run_bind, Sem.run_pure, Result.andThen_ok, List.map_toArray, List.map_cons, List.map_nil, hd, hs, hr]
  exact h
theorem wp_app_run (w : World) {o : Oper} {a : Act} {K : Act → World → Prop} {Q : Exit → Act → World → Prop} (d s : Operand) (t t' : TypeId)
    (ho : o.op = .call { callee := .builtin .append, args := #[d, s], argTypes := #[t, t'] }) (v u : Value) (hd : a.eval d = v) (hs : a.eval s = u) {v' : Value} {w' : World}
    (hr : (Builtin.append_ #[t, t'] o.type #[v, u]).run P w = .ok v' w') (h : K (a.put o.dst v') w') : o.wp P a w K Q := by
  unfold Oper.wp execOp
  simp only [ho, resolve, invoke, builtin, Sem.run_bind, Sem.run_pure, Result.andThen_ok, List.map_toArray, List.map_cons, List.map_nil, hd, hs, hr]
  exact h
theorem wp_clear_run (w : World) {o : Oper} {a : Act} {K : Act → World → Prop} {Q : Exit → Act → World → Prop} (d : Operand) (t : TypeId)
    (ho : o.op = .call { callee := .builtin .clear, args := #[d], argTypes := #[t] }) (v : Value) (hd : a.eval d = v) {v' : Value} {w' : World}
    (hr : (Builtin.clear_ #[t] o.type #[v]).run P w = .ok v' w') (h : K (a.put o.dst v') w') : o.wp P a w K Q := by
  unfold Oper.wp execOp
  simp only [ho, resolve, invoke, builtin, Sem.run_bind, Sem.run_pure, Result.andThen_ok, List.map_toArray, List.map_cons, List.map_nil, hd, hr]
  exact h
theorem step_of_wp {ops : Array Oper} {o : Oper} {a : Act} {w : World} {K : Act → World → Prop} {Q : Exit → Act → World → Prop} {E : Prop} (hg : o.guard = none) (h : Oper.wp P o a w K Q) :
    if Region.wanted o (yielded ops a.tmps) = true then Oper.wp P o a w K Q else E := by
  have hw : Region.wanted o (yielded ops a.tmps) = true := by simp [Region.wanted, hg]
  rw [if_pos hw]; exact h
end
theorem layL_at (L : List Value) (o : Nat) (vs : List Value) (h : o + vs.length ≤ L.length) (i : Nat) : (layL L o vs)[i]? = if i < o then L[i]? else if i < o + vs.length then vs[i - o]? else L[i]? := by
  unfold layL
  rw [List.append_assoc, List.getElem?_append, List.length_take, Nat.min_eq_left (by omega)]
  split
  · rw [List.getElem?_take, if_pos (by assumption)]
  · rw [List.getElem?_append]
    split
    · rw [if_pos (by omega)]
    · rw [if_neg (by omega), List.getElem?_drop]; congr 1; omega
/-- a front, a part that is laid anew, what follows -/
theorem layL_mid (A B C vs : List Value) (h : vs.length = B.length) : layL (A ++ B ++ C) A.length vs = A ++ vs ++ C := by
  unfold layL
  have e1 : (A ++ B ++ C).take A.length = A := by simp
  have e2 : (A ++ B ++ C).drop (A.length + vs.length) = C := by
    rw [show A.length + vs.length = (A ++ B).length by simp [h]]; simp
  rw [e1, e2]
theorem layL_mid' (L A B C vs : List Value) (o : Nat) (hL : L = A ++ B ++ C) (ho : o = A.length) (h : vs.length = B.length) : layL L o vs = A ++ vs ++ C := by
  subst hL ho; exact layL_mid A B C vs h
end Go.Proofs.Ytaeodkpkgbjaeaa
