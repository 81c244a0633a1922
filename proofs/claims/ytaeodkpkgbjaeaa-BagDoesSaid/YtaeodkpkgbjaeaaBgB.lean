/- BagH BagJ BagK BagN BagO BagP BagQ -/
import Derived.Test.YtaeodkpkgbjaeaaBgA
import Derived.Test.YtaeodkpkgbjaeaaScoS
import Derived.Laws.CopyRow
import Derived.ArgAppend
import Derived.Lib.Overlaps
import Derived.Deep.RegionLaw
import Derived.Laws.CopyOwn

/-! Layer 18 (bag): rows in memory that are written: copy, append with room, clear, at any size of an element. -/
namespace Go.Proofs.Ytaeodkpkgbjaeaa
open Go.RowKit
set_option linter.unusedVariables false
set_option linter.unusedSimpArgs false

/-- vs laid over L, from o on -/
def layL (L : List Value) (o : Nat) (vs : List Value) : List Value := L.take o ++ vs ++ L.drop (o + vs.length)
theorem layL_len (L : List Value) (o : Nat) (vs : List Value) (h : o + vs.length ≤ L.length) : (layL L o vs).length = L.length := by
  unfold layL; simp; omega
theorem layL_nil (L : List Value) (o : Nat) : layL L o [] = L := by unfold layL; simp
section
variable {P : Program}
theorem run_copy_k (w : World) (dT sT ty e : TypeId) (i : TypeInfo) (k : Nat) (hu : P.underlying dT = some (.slice e)) (hi : P.info? e = some i) (hk : i.size = k) (g o dLen dCap : Nat) (sd : Addr) (sLen sCap : Nat) (L : List Value) (t : TypeId) (cs : List Value)
    (hg : w.heap[g]? = some (.cells L.toArray t (0, 0))) (hn : cs.length = Nat.min sLen dLen * k) (hsrc : ∀ j v, cs[j]? = some v → w.cell? (sd.add j) = some v) (hfit : o + cs.length ≤ L.length) (h1 : ∀ v ∈ cs, v.oneCell' = true) :
    (Builtin.copy_ #[dT, sT] ty #[.slice (some ⟨g, o, none⟩) dLen dCap, .slice (some sd) sLen sCap]).run P w = .ok (goInt (Nat.min sLen dLen)) (w.setRow g (layL L o cs).toArray) := by
  subst hk
  have hl := run_firstCells_some (P := P) w i.size (Nat.min sLen dLen) sd sLen sCap cs hn hsrc
  have hst := run_storeCells_at P g o t cs 0 L.toArray w hg (by simpa using hfit) h1
  simp only [Nat.add_zero, List.toList_toArray] at hst
  unfold layL
  simp [Builtin.copy_, run_underlying hu, Builtin.lenOf, sizeOf, typeInfo, hi, hl, hst]
theorem run_app_k (w : World) (t ty e : TypeId) (i : TypeInfo) (k : Nat) (hu : P.underlying t = some (.slice e)) (hi : P.info? e = some i) (hk : i.size = k) (g o n c : Nat) (sd : Addr) (m sCap : Nat) (L : List Value) (T : TypeId) (news : List Value)
    (hg : w.heap[g]? = some (.cells L.toArray T (0, 0))) (hn : news.length = m * k) (hsrc : ∀ j v, news[j]? = some v → w.cell? (sd.add j) = some v) (hroom : n + m ≤ c) (hfit : o + n * k + news.length ≤ L.length) (h1 : ∀ v ∈ news, v.oneCell' = true) :
    (Builtin.append_ #[t, t] ty #[.slice (some ⟨g, o, none⟩) n c, .slice (some sd) m sCap]).run P w = .ok (.slice (some ⟨g, o, none⟩) (n + m) c) (w.setRow g (layL L (o + n * k) news).toArray) := by
  subst hk
  have hl := run_firstCells_some (P := P) w i.size m sd m sCap news hn hsrc
  have hst := run_storeCells_at P g (o + n * i.size) T news 0 L.toArray w hg (by simpa using hfit) h1
  simp only [Nat.add_zero, List.toList_toArray] at hst
  unfold layL
  simp [Builtin.append_, run_underlying hu, sizeOf, typeInfo, hi, Builtin.lenOf, hroom, hl, Addr.add_lit, hst]
theorem run_clear_k (w : World) (t ty e : TypeId) (z : Value) (k : Nat) (hu : P.underlying t = some (.slice e)) (hv : ∀ w, (zeroValue e).run P w = .ok z w) (hk : z.cells.size = k) (hz : ∀ v ∈ z.cells, v.oneCell' = true) (g o n c : Nat) (L : List Value) (T : TypeId)
    (hg : w.heap[g]? = some (.cells L.toArray T (0, 0))) (hfit : o + n * k ≤ L.length) (h0 : 0 < n) :
    ∃ zs : List Value, zs.length = n * k ∧ (Builtin.clear_ #[t] ty #[.slice (some ⟨g, o, none⟩) n c]).run P w = .ok (.tuple #[]) (w.setRow g (layL L o zs).toArray) := by
  subst hk
  have hlen : (Builtin.zeroCells z.cells n).toList.length = n * z.cells.size := by simp [Builtin.zeroCells]
  have hone : ∀ v ∈ (Builtin.zeroCells z.cells n).toList, v.oneCell' = true := by
    intro v hv
    simp only [Builtin.zeroCells, Array.toList_map, List.mem_map, Array.toList_range, List.mem_range] at hv
    obtain ⟨j, hj, rfl⟩ := hv
    have hp : 0 < z.cells.size := by
      rcases Nat.eq_zero_or_pos z.cells.size with h | h
      · rw [h] at hj; omega
      · exact h
    have hm : j % z.cells.size < z.cells.size := Nat.mod_lt _ hp
    rw [getElem!_pos z.cells _ hm]
    exact hz _ (Array.getElem_mem hm)
  have hst := run_storeCells_at P g o T (Builtin.zeroCells z.cells n).toList 0 L.toArray w hg (by simpa [hlen] using hfit) hone
  simp only [Nat.add_zero, List.toList_toArray] at hst
  refine ⟨(Builtin.zeroCells z.cells n).toList, hlen, ?_⟩
  obtain ⟨m, rfl⟩ : ∃ m, n = m + 1 := ⟨n - 1, by omega⟩
  unfold layL
  simp [Builtin.clear_, run_underlying hu, hv, hst]
theorem wp_copy_run (w : World) {o : Oper} {a : Act} {K : Act → World → Prop} {Q : Exit → Act → World → Prop} (d s : Operand) (t t' : TypeId)
    (ho : o.op = .call { callee := .builtin .copy, args := #[d, s], argTypes := #[t, t'] }) (v u : Value) (hd : a.eval d = v) (hs : a.eval s = u) {v' : Value} {w' : World}
    (hr : (Builtin.copy_ #[t, t'] o.type #[v, u]).run P w = .ok v' w') (h : K (a.put o.dst v') w') : o.wp P a w K Q := by
  unfold Oper.wp execOp
  simp only [ho, resolve, invoke, builtin, Sem.run_bind, Sem.run_pure, Result.andThen_ok, List.map_toArray, List.map_cons, List.map_nil, hd, hs, hr]
  exact h
theorem wp_app_run (w : World) {o : Oper} {a : Act} {K : Act → World → Prop} {Q : Exit → Act → World → Prop} (d s : Operand) (t t' : TypeId)
    (ho : o.op = .call { callee := .builtin .append, args := #[d, s], argTypes := #[t, t'] }) (v u : Value) (hd : a.eval d = v) (hs : a.eval s = u) {v' : Value} {w' : World}
    (hr : (Builtin.append_ #[t, t'] o.type #[v, u]).run P w = .ok v' w') (h : K (a.put o.dst v') w') : o.wp P a w K Q := by
  unfold Oper.wp execOp
  simp only [ho, resolve, invoke, builtin, Sem.run_bind, Sem.run_pure, Result.andThen_ok, List.map_toArray, List.map_cons, List.map_nil, hd, hs, hr]
  exact h
theorem wp_clear_run (w : World) {o : Oper} {a : Act} {K : Act → World → Prop} {Q : Exit → Act → World → Prop} (d : Operand) (t : TypeId)
    (ho : o.op = .call { callee := .builtin .clear, args := #[d], argTypes := #[t] }) (v : Value) (hd : a.eval d = v) {v' : Value} {w' : World}
    (hr : (Builtin.clear_ #[t] o.type #[v]).run P w = .ok v' w') (h : K (a.put o.dst v') w') : o.wp P a w K Q := by
  unfold Oper.wp execOp
  simp only [ho, resolve, invoke, builtin, Sem.run_bind, Sem.run_pure, Result.andThen_ok, List.map_toArray, List.map_cons, List.map_nil, hd, hr]
  exact h
theorem step_of_wp {ops : Array Oper} {o : Oper} {a : Act} {w : World} {K : Act → World → Prop} {Q : Exit → Act → World → Prop} {E : Prop} (hg : o.guard = none) (h : Oper.wp P o a w K Q) :
    if Region.wanted o (yielded ops a.tmps) = true then Oper.wp P o a w K Q else E := by
  have hw : Region.wanted o (yielded ops a.tmps) = true := by simp [Region.wanted, hg]
  rw [if_pos hw]; exact h
end
theorem layL_at (L : List Value) (o : Nat) (vs : List Value) (h : o + vs.length ≤ L.length) (i : Nat) : (layL L o vs)[i]? = if i < o then L[i]? else if i < o + vs.length then vs[i - o]? else L[i]? := by
  unfold layL
  rw [List.append_assoc, List.getElem?_append, List.length_take, Nat.min_eq_left (by omega)]
  split
  · rw [List.getElem?_take, if_pos (by assumption)]
  · rw [List.getElem?_append]
    split
    · rw [if_pos (by omega)]
    · rw [if_neg (by omega), List.getElem?_drop]; congr 1; omega
/-- a front, a part that is laid anew, what follows -/
theorem layL_mid (A B C vs : List Value) (h : vs.length = B.length) : layL (A ++ B ++ C) A.length vs = A ++ vs ++ C := by
  unfold layL
  have e1 : (A ++ B ++ C).take A.length = A := by simp
  have e2 : (A ++ B ++ C).drop (A.length + vs.length) = C := by
    rw [show A.length + vs.length = (A ++ B).length by simp [h]]; simp
  rw [e1, e2]
theorem layL_mid' (L A B C vs : List Value) (o : Nat) (hL : L = A ++ B ++ C) (ho : o = A.length) (h : vs.length = B.length) : layL L o vs = A ++ vs ++ C := by
  subst hL ho; exact layL_mid A B C vs h
end Go.Proofs.Ytaeodkpkgbjaeaa

/-! Layer 18 (bag): the blocks in memory of their own. -/
namespace Go.Proofs.Ytaeodkpkgbjaeaa
open Go.RowKit
set_option linter.unusedVariables false
set_option linter.unusedSimpArgs false

/-- a block with its whole room -/
def BlkAt (w : World) (b : Blk) : Prop := ∃ sp : List Value, (celS b.2 ++ sp).length = 128 ∧ Box w b.1 (celS b.2 ++ sp).toArray 24
/-- the row of blocks -/
def RowAt (w : World) (gB c : Nat) (bs : List Blk) : Prop := ∃ (sp : List Value) (T : TypeId), bs.length + sp.length = c ∧ c ≤ maxLen ∧ Box w gB (bs.map blkV ++ sp).toArray T
/-- all blocks of memory that they are in -/
def memB (gB : Nat) (bs : List Blk) : List Nat := gB :: bs.map (fun b => b.1)
structure BksAt (w : World) (gB c : Nat) (bs : List Blk) : Prop where
  row : RowAt w gB c bs
  blk : ∀ b ∈ bs, BlkAt w b
  nd : (memB gB bs).Nodup
/-- nothing but the blocks of G changes -/
structure WrS (G : List Nat) (w w' : World) : Prop where
  os : w'.os = w.os
  tape : w'.tape = w.tape
  output : w'.output = w.output
  size : w.heap.size ≤ w'.heap.size
  block : ∀ k, k < w.heap.size → k ∉ G → w'.heap[k]? = w.heap[k]?
theorem WrS.refl (G : List Nat) (w : World) : WrS G w w := ⟨rfl, rfl, rfl, Nat.le_refl _, fun _ _ _ => rfl⟩
/-- of the blocks that are written later, the elder ones are of G -/
theorem WrS.trans {G G' : List Nat} {a b c : World} (h : WrS G a b) (k : WrS G' b c) (hG : ∀ x ∈ G', x ∈ G ∨ a.heap.size ≤ x) : WrS G a c :=
  ⟨k.os.trans h.os, k.tape.trans h.tape, k.output.trans h.output, Nat.le_trans h.size k.size, fun i hi hg => (k.block i (Nat.lt_of_lt_of_le hi h.size) fun hx => by
    rcases hG i hx with g | g
    · exact hg g
    · omega).trans (h.block i hi hg)⟩
theorem WrS.of (G : List Nat) {w w' : World} (h : Below w.heap.size w w') : WrS G w w' := ⟨h.os, h.tape, h.output, h.size, fun k hk _ => h.block k hk⟩
theorem WrS.row (G : List Nat) (w : World) (g : Nat) (L : Array Value) (hg : g ∈ G) : WrS G w (w.setRow g L) :=
  ⟨rfl, rfl, rfl, by simp, fun k _ hk => setRow_other w g k L fun e => hk (by rw [e]; exact hg)⟩
theorem WrS.cell (G : List Nat) (w : World) (g i : Nat) (u : Value) (hg : g ∈ G) : WrS G w (w.setCell ⟨g, i, none⟩ u) :=
  ⟨rfl, rfl, rfl, by simp [World.setCell], fun k _ hk => Below.heap_setCell _ _ _ _ fun e => hk (by rw [e]; exact hg)⟩
theorem WrS.low {G : List Nat} {w w' : World} (h : WrS G w w') (B : Nat) (hB : B ≤ w.heap.size) (hG : ∀ x ∈ G, B ≤ x) : Below B w w' :=
  ⟨h.os, h.tape, h.output, h.size, fun k hk => h.block k (by omega) fun hx => by have := hG k hx; omega⟩
theorem WrS.box {G : List Nat} {w w' : World} {g : Nat} {cs : Array Value} {t : TypeId} (h : WrS G w w') (hb : Box w g cs t) (hg : g ∉ G) : Box w' g cs t := (h.block g hb.lt hg).trans hb
theorem BlkAt.lt {w : World} {b : Blk} (h : BlkAt w b) : b.1 < w.heap.size := by obtain ⟨_, _, hb⟩ := h; exact hb.lt
theorem RowAt.lt {w : World} {gB c : Nat} {bs : List Blk} (h : RowAt w gB c bs) : gB < w.heap.size := by obtain ⟨_, _, _, _, hb⟩ := h; exact hb.lt
theorem BksAt.ltM {w : World} {gB c : Nat} {bs : List Blk} (h : BksAt w gB c bs) : ∀ x ∈ memB gB bs, x < w.heap.size := by
  intro x hx
  rcases List.mem_cons.1 hx with rfl | hx
  · exact h.row.lt
  · obtain ⟨b, hb, rfl⟩ := List.mem_map.1 hx
    exact (h.blk b hb).lt
theorem BlkAt.keep {w w' : World} {b : Blk} (h : BlkAt w b) (hk : w'.heap[b.1]? = w.heap[b.1]?) : BlkAt w' b := by
  obtain ⟨sp, h1, h2⟩ := h
  exact ⟨sp, h1, hk.trans h2⟩
theorem RowAt.keep {w w' : World} {gB c : Nat} {bs : List Blk} (h : RowAt w gB c bs) (hk : w'.heap[gB]? = w.heap[gB]?) : RowAt w' gB c bs := by
  obtain ⟨sp, T, h1, h3, h2⟩ := h
  exact ⟨sp, T, h1, h3, hk.trans h2⟩
theorem BksAt.keep {w w' : World} {gB c : Nat} {bs : List Blk} (h : BksAt w gB c bs) (hk : ∀ x ∈ memB gB bs, w'.heap[x]? = w.heap[x]?) : BksAt w' gB c bs :=
  ⟨h.row.keep (hk gB List.mem_cons_self), fun b hb => (h.blk b hb).keep (hk b.1 (List.mem_cons_of_mem _ (List.mem_map.2 ⟨b, hb, rfl⟩))), h.nd⟩
theorem BksAt.below {w w' : World} {gB c : Nat} {bs : List Blk} (h : BksAt w gB c bs) (hb : Below w.heap.size w w') : BksAt w' gB c bs :=
  h.keep fun x hx => hb.block x (h.ltM x hx)
theorem BksAt.cap {w : World} {gB c : Nat} {bs : List Blk} (h : BksAt w gB c bs) : bs.length ≤ c := by obtain ⟨sp, T, h1, _, _⟩ := h.row; omega
theorem blk_cell {w : World} {b : Blk} (h : BlkAt w b) (i : Nat) (hi : i < b.2.length * 2) : w.cell? ⟨b.1, i, none⟩ = (celS b.2)[i]? := by
  obtain ⟨sp, h1, hb⟩ := h
  rw [hb.cell i]
  simp only [List.getElem?_toArray]
  rw [List.getElem?_append_left (by rw [celS_len]; omega)]
theorem BlkAt.lies {w : World} {b : Blk} (h : BlkAt w b) (B : Nat) (hB : b.1 < B) : LiesS w B (some ⟨b.1, 0, none⟩) b.2 := fun h0 =>
  ⟨_, rfl, hB, fun j hj => by
    obtain ⟨c0, c1⟩ := celS_at b.2 j hj
    rw [Addr.add_lit, Addr.add_lit, Nat.zero_add, Nat.zero_add, blk_cell h _ (by omega), blk_cell h _ (by omega)]
    exact ⟨c0, c1⟩⟩
theorem BksAt.lies {w : World} {gB c : Nat} {bs : List Blk} (h : BksAt w gB c bs) : LiesB w w.heap.size gB bs := by
  obtain ⟨sp, T, h1, _, hb⟩ := h.row
  refine ⟨hb.lt, fun i hi => ?_, fun i hi => ?_⟩
  · have e : bs.getD i bk0 = bs[i] := by simp [List.getElem?_eq_getElem hi]
    rw [hb.cell i, e]
    simp only [List.getElem?_toArray]
    rw [List.getElem?_append_left (by rw [List.length_map]; exact hi), List.getElem?_map, List.getElem?_eq_getElem hi]
    rfl
  · have e : bs.getD i bk0 = bs[i] := by simp [List.getElem?_eq_getElem hi]
    rw [e]
    have hm := h.blk _ (List.getElem_mem hi)
    exact hm.lies _ hm.lt
/-- one block's scores are others, in the same place -/
theorem BksAt.swap {w w' : World} {gB c : Nat} {A C : List Blk} {b b' : Blk} (h : BksAt w gB c (A ++ b :: C)) (he : b'.1 = b.1) (hr : RowAt w' gB c (A ++ b' :: C)) (hb : BlkAt w' b') (hk : ∀ x ∈ (A ++ C).map (fun b => b.1), w'.heap[x]? = w.heap[x]?) : BksAt w' gB c (A ++ b' :: C) := by
  refine ⟨hr, fun y hy => ?_, ?_⟩
  · rcases List.mem_append.1 hy with g | g
    · exact (h.blk y (List.mem_append_left _ g)).keep (hk y.1 (List.mem_map.2 ⟨y, List.mem_append_left _ g, rfl⟩))
    · rcases List.mem_cons.1 g with rfl | g
      · exact hb
      · exact (h.blk y (List.mem_append_right _ (List.mem_cons_of_mem _ g))).keep (hk y.1 (List.mem_map.2 ⟨y, List.mem_append_right _ g, rfl⟩))
  · have := h.nd
    unfold memB at *
    simpa [he] using this
theorem memB_swap {gB : Nat} {A C : List Blk} {b b' : Blk} (he : b'.1 = b.1) : memB gB (A ++ b' :: C) = memB gB (A ++ b :: C) := by unfold memB; simp [he]
/-- in a row without doubles: none of the others is the middle one -/
theorem memB_ne {gB : Nat} {A C : List Blk} {b : Blk} (h : (memB gB (A ++ b :: C)).Nodup) : gB ≠ b.1 ∧ ∀ x ∈ (A ++ C).map (fun b => b.1), x ≠ b.1 ∧ x ≠ gB := by
  unfold memB at h
  rw [List.nodup_cons, List.map_append, List.map_cons] at h
  obtain ⟨h1, h2⟩ := h
  rw [List.nodup_append] at h2
  obtain ⟨_, h4, h5⟩ := h2
  rw [List.nodup_cons] at h4
  refine ⟨fun e => h1 (by rw [e]; simp), fun x hx => ⟨?_, ?_⟩⟩
  · rw [List.map_append] at hx
    rcases List.mem_append.1 hx with g | g
    · exact h5 x g b.1 List.mem_cons_self
    · rintro rfl; exact h4.1 g
  · rintro rfl
    refine h1 ?_
    rw [List.map_append] at hx
    rcases List.mem_append.1 hx with g | g
    · exact List.mem_append_left _ g
    · exact List.mem_append_right _ (List.mem_cons_of_mem _ g)
end Go.Proofs.Ytaeodkpkgbjaeaa

/-! Layer 18 (bag): Rank's closure, Kth. -/
namespace Go.Proofs.Ytaeodkpkgbjaeaa
open Go.RowKit
set_option linter.unusedVariables false
set_option linter.unusedSimpArgs false

set_option maxRecDepth 100000 in
set_option maxHeartbeats 4000000 in
theorem bag_rank1 (a b c d : Int) (ha : I64 a) (hb : I64 b) (hc : I64 c) (hd : I64 d) (gs gm gl : Nat) (w : World) (hs : Box w gs #[.int .i64 c, .int .i64 d] 24)
    (hm : Box w gm #[.func (.func 145) #[] #[.pointer (some ⟨gl, 0, none⟩)]] 44) (hl : Box w gl #[.int .i64 c, .int .i64 d] 24) :
    Calls Try.prog 87 #[.agg #[.int .i64 a, .int .i64 b], .pointer (some ⟨gs, 0, none⟩), .pointer (some ⟨gm, 0, none⟩)] w fun e w' => e = .returned (.bool (upB (c, d) (a, b))) ∧ Below w.heap.size w w' := by
  have J0 := Lib.hid ((Keeps.start w).alloc #[.int .i64 a, .int .i64 b] 24)
  obtain ⟨x0, x1, _, _⟩ := J0.out.head.two
  have HS := Lib.hid (hs.below J0.out.2.1 hs.lt)
  have HM := Lib.hid (hm.below J0.out.2.1 hm.lt)
  have HL := Lib.hid (hl.below J0.out.2.1 hl.lt)
  obtain ⟨s0, s1, _, _⟩ := HS.out.two
  have m0 := (HM.out.cell 0).trans rfl
  have K := Lib.hid (fun W (h : Box W gl #[.int .i64 c, .int .i64 d] 24) => bag_more a b c d ha hb hc hd gl W h)
  clear hs hm hl
  unfold upB
  by_cases h : a = c ∧ b = d
  · obtain ⟨rfl, rfl⟩ := h
    rw [decide_eq_true (show ((a, b) : PQ) = (a, b) from rfl), Bool.true_or]
    clear K
    go_enter Try.func87, Try.ntmps87
    go_wp2
    go_ret
    exact ⟨by trivial, J0.out.2.1⟩
  · have hne : ¬ (((a, b) : PQ) = (c, d)) := fun e => h ⟨congrArg Prod.fst e, congrArg Prod.snd e⟩
    rw [decide_eq_false hne, Bool.false_or]
    show Calls _ _ _ _ fun e w' => e = .returned (.bool (byB a b c d)) ∧ _
    clear hne
    generalize byB a b c d = B at *
    have key : (¬ a = c) ∨ (a = c ∧ ¬ b = d) := by omega
    clear h
    rcases key with h1 | ⟨rfl, h1⟩
    all_goals
      go_enter Try.func87, Try.ntmps87
      go_wp2_with fail
      refine (K.out _ HL.out).mono ?_
      rintro e w1 ⟨rfl, b1⟩
      have J1 := Lib.hid (J0.out.below b1)
      clear b1
      go_wp2
      go_ret
      exact ⟨by trivial, J1.out.2.1⟩
theorem kth_in {bs : List Blk} {a i : Nat} (h : sumA bs a + i < (flat bs).length) (ha : a < bs.length) (hi : ¬ i < lnA bs a) : a + 1 < bs.length ∧ sumA bs (a + 1) + (i - lnA bs a) = sumA bs a + i := by
  have e := sumA_succ bs a
  refine ⟨?_, by omega⟩
  rcases Nat.lt_or_ge (a + 1) bs.length with g | g
  · exact g
  · have : bs.length = a + 1 := by omega
    rw [← sumA_all, this, e] at h; omega
set_option maxRecDepth 100000 in
set_option maxHeartbeats 4000000 in
theorem bag_kth (g gB c k : Nat) (cnt : Int) (bs : List Blk) (w : World) (hb : Box w g #[.slice (some ⟨gB, 0, none⟩) bs.length c, .int .i64 cnt] 126) (hL : LiesB w w.heap.size gB bs) (hO : OkB bs) (hc : bs.length ≤ c)
    (hcnt : cnt = ((flat bs).length : Int)) (hn : (flat bs).length ≤ 100000) (hk0 : k < (flat bs).length) :
    Calls Try.prog 24 #[.pointer (some ⟨g, 0, none⟩), .int .i64 ((k : Int) + 1)] w fun e w' => e = .returned (.tuple #[.agg #[.int .i64 ((flat bs).getD k pq0).1, .int .i64 ((flat bs).getD k pq0).2], .int .i64 0]) ∧ Below w.heap.size w w' := by
  have J0 := Lib.hid ((Keeps.start w).alloc #[.int .i64 0, .int .i64 0] 24)
  obtain ⟨x0, x1, _, _⟩ := (hb.below J0.out.2.1 hb.lt).two
  have HR := Lib.hid (J0.out.head)
  have HL := Lib.hid (hL.below J0.out.2.1)
  have HO := Lib.hid hO
  have HK := Lib.hid hk0
  have HN := Lib.hid hcnt
  have HI := Lib.hid (fun a i (h : sumA bs a + i < (flat bs).length) (ha : a < bs.length) hi => kth_in h ha hi)
  have HF := Lib.hid (fun d r (h1 : d < bs.length) (h2 : r < lnA bs d) => (flat_at bs d r h1 h2).1)
  have h1 : (k : Int) + 1 ≤ cnt := by omega
  have h2 : ¬ ((k : Int) + 1 < 1) := by omega
  have h3 : cnt ≤ 100000 := by omega
  have hfew := hO.few
  clear hb hL hO hcnt hk0 hn
  generalize hLN : bs.length = N at *
  have HLN := Lib.hid hLN
  clear hLN
  go_enter Try.func24, Try.ntmps24
  go_wp2
  go_loopw [6, 7] (fun av iv wr => ∃ a i : Nat, av = .int .i64 a ∧ iv = .int .i64 i ∧ a < N ∧ Hid (sumA bs a + i = k) ∧ i ≤ 100000 ∧ wr = w.alloc (.cells #[.int .i64 0, .int .i64 0] 24)) (fun av _ _ => N - (intOf av).toNat)
  case atStart => exact ⟨0, k, rfl, by go_num, by have := HO.out.some; rw [HLN.out] at this; exact this, by show 0 + k = k; omega, by have := HK.out; omega, rfl⟩
  case round =>
    obtain ⟨a, i, rfl, rfl, haN, HS, hi, rfl⟩ := hrel
    have c1 := HL.out.hd a (by rw [HLN.out]; exact haN)
    have hbk : (a : Int) < (N : Int) := by omega
    have hln : Hid (lnA bs a ≤ 64) := HO.out.room a (by rw [HLN.out]; exact haN)
    by_cases hlt : i < lnA bs a
    · obtain ⟨s0, s1⟩ := HL.out.score (by rw [HLN.out]; exact haN) hlt
      have HE := Lib.hid (HF.out a i haN hlt)
      rw [HS.out] at HE
      unfold scA at HE
      have HE1 := Lib.hid (congrArg Prod.fst HE.out)
      have HE2 := Lib.hid (congrArg Prod.snd HE.out)
      clear HE
      unfold blkV at c1
      have hi2 : (i : Int) < (lnA bs a : Int) := by omega
      rw [show (bs.getD a bk0).2.length = lnA bs a from rfl] at c1
      clear HS
      generalize (bs.getD a bk0).1 = gb at *
      generalize lnA bs a = m at *
      have hm : m ≤ 64 := hln.out
      generalize ((bs.getD a bk0).2.getD i pq0).1 = p at *
      generalize ((bs.getD a bk0).2.getD i pq0).2 = q at *
      obtain ⟨r0, r1, f0, f1⟩ := HR.out.two
      go_wp2
      obtain ⟨k0, k1, _, _⟩ := (Box.new w #[.int .i64 p, .int .i64 q] 24).two
      refine bodyPost_ret (v := .tuple #[.agg #[.int .i64 p, .int .i64 q], .int .i64 0]) ?_ rfl ⟨by rw [HE1.out, HE2.out], (Below.refl _ _).alloc (Nat.le_refl _) _⟩
      simp [results, Try.results24, go_sem, k0, k1]
    · obtain ⟨ha1, hs1⟩ := HI.out a i (by rw [HS.out]; exact HK.out) haN hlt
      rw [HS.out] at hs1
      have HS1 := Lib.hid hs1
      unfold blkV at c1
      have hi2 : ¬ (i : Int) < (lnA bs a : Int) := by omega
      rw [show (bs.getD a bk0).2.length = lnA bs a from rfl] at c1
      clear HS hs1
      generalize (bs.getD a bk0).1 = gb at *
      generalize lnA bs a = m at *
      have hm : m ≤ 64 := hln.out
      go_wp2
      refine ⟨⟨a + 1, i - m, by go_num, ?_, ha1, HS1, by omega, trivial⟩, ?_⟩
      · refine congrArg (Value.int .i64) ?_
        omega
      · simp only [intOf]
        omega
set_option maxRecDepth 100000 in
set_option maxHeartbeats 4000000 in
theorem bag_kth_no (g : Nat) (v : Value) (k cnt : Int) (w : World) (hb : Box w g #[v, .int .i64 cnt] 126) (h : k < 1 ∨ cnt < k) :
    Calls Try.prog 24 #[.pointer (some ⟨g, 0, none⟩), .int .i64 k] w fun e w' => e = .returned (.tuple #[.agg #[.int .i64 0, .int .i64 0], .int .i64 1]) ∧ Below w.heap.size w w' := by
  have J0 := Lib.hid ((Keeps.start w).alloc #[.int .i64 0, .int .i64 0] 24)
  obtain ⟨x0, x1, _, _⟩ := (hb.below J0.out.2.1 hb.lt).two
  have HR := Lib.hid J0.out.head
  obtain ⟨r0, r1, f0, f1⟩ := HR.out.two
  have key : k < 1 ∨ (¬ k < 1 ∧ cnt < k) := by omega
  clear h hb
  rcases key with h1 | ⟨h1, h2⟩
  all_goals
    go_enter Try.func24, Try.ntmps24
    go_wp2
    obtain ⟨k0, k1, _, _⟩ := (Box.new w #[.int .i64 0, .int .i64 0] 24).two
    refine bodyPost_ret (v := .tuple #[.agg #[.int .i64 0, .int .i64 0], .int .i64 1]) ?_ rfl ⟨rfl, (Below.refl _ _).alloc (Nat.le_refl _) _⟩
    simp [results, Try.results24, go_sem, k0, k1]
end Go.Proofs.Ytaeodkpkgbjaeaa

/-! Layer 18 (bag): Rank. -/
namespace Go.Proofs.Ytaeodkpkgbjaeaa
open Go.RowKit
set_option linter.unusedVariables false
set_option linter.unusedSimpArgs false

theorem LiesS.lift {w : World} {B B' : Nat} {A : Option Addr} {l : List PQ} (h : LiesS w B A l) (hB : B ≤ B') : LiesS w B' A l := fun h0 => by
  obtain ⟨ad, e, hb, hc⟩ := h h0
  exact ⟨ad, e, Nat.lt_of_lt_of_le hb hB, hc⟩
theorem LiesB.up {w : World} {B B' gB : Nat} {bs : List Blk} (h : LiesB w B gB bs) (hB : B ≤ B') : LiesB w B' gB bs :=
  ⟨Nat.lt_of_lt_of_le h.lt hB, h.hd, fun i hi => (h.sc i hi).lift hB⟩
/-- upTo, told by what is not told of -/
theorem bag_upto_n (gB c k B : Nat) (caps : Array Value) (Q : PQ → Bool) (bs : List Blk) (w : World) (eg : ∀ args w, (callFunc k args).run Try.prog w = .ok (.enter k args) w) (hB : B ≤ w.heap.size)
    (hL : LiesB w B gB bs) (hO : OkB bs) (hc : bs.length ≤ c) (hT : Tells k caps Q B w) (hM : MonoQ Q (flat bs)) :
    Calls Try.prog 86 #[.slice (some ⟨gB, 0, none⟩) bs.length c, .func (.func k) #[] caps] w fun e w' => e = .returned (.int .i64 (((flat bs).countP fun x => !Q x : Nat) : Int)) ∧ Below w.heap.size w w' := by
  refine (bag_upto gB c k B caps Q bs w eg hB hL hO hc hT (hM.m1 hO) hM.m2).mono ?_
  rintro e w' ⟨d, r, rfl, hd, hr, F1, T1, F2, T2, hb⟩
  rw [(CutQ.of hM hO hd hr F1 T1 F2 T2).count]
  exact ⟨rfl, hb⟩
set_option maxRecDepth 100000 in
set_option maxHeartbeats 4000000 in
theorem bag_rank (g gB c : Nat) (cnt p q : Int) (bs : List Blk) (w : World) (hp : I64 p) (hq : I64 q) (hb : Box w g #[.slice (some ⟨gB, 0, none⟩) bs.length c, .int .i64 cnt] 126) (hL : LiesB w w.heap.size gB bs) (hO : OkB bs) (hc : bs.length ≤ c)
    (hU : UpS (flat bs)) (hn : (flat bs).length ≤ 100000) (hok : okP (p, q)) :
    Calls Try.prog 22 #[.pointer (some ⟨g, 0, none⟩), .agg #[.int .i64 p, .int .i64 q]] w fun e w' => e = .returned (.tuple #[.int .i64 (lessN (flat bs) (p, q) : Nat), .int .i64 (sameN (flat bs) (p, q) : Nat), .int .i64 0]) ∧ Below w.heap.size w w' := by
  have J0 := Lib.hid ((Keeps.start w).alloc #[.int .i64 p, .int .i64 q] 24)
  obtain ⟨s0, s1, _, _⟩ := J0.out.head.two
  have K1 := Lib.hid (fun W => bag_check (some ⟨g, 0, none⟩) p q hp hq W)
  have hsc : bcE p q = 0 := by unfold bcE scoB; rw [if_pos (by exact decide_eq_true hok)]
  rw [if_neg (by simp), hsc] at K1
  have HB := Lib.hid hb
  have HL := Lib.hid hL
  have H0 := Lib.hid (fun x (hx : x = (p, q)) => hx)
  go_enter Try.func22, Try.ntmps22
  go_wp2_with fail
  refine (K1.out _).mono ?_
  rintro e w1 ⟨rfl, b1⟩
  have J1 := Lib.hid (J0.out.below b1)
  obtain ⟨s0, s1, _, _⟩ := J1.out.head.two
  clear b1
  go_wp2_with fail
  refine (bag_beyond p q w1).mono ?_
  rintro e w2 ⟨rfl, rfl⟩
  have J2 := Lib.hid ((J1.out.alloc #[.int .i64 p, .int .i64 q] 24).alloc #[.nilFunc] 44)
  have m0 := (J2.out.head.cell 0).trans rfl
  have m1 := J2.out.head.free 0
  simp only [alloc_size'] at m0 m1
  have hst : (store ⟨w1.heap.size + 1, 0, none⟩ (.func (.func 145) #[] #[.pointer (some ⟨w1.heap.size, 0, none⟩)])).run Try.prog ((w1.alloc (.cells #[.int .i64 p, .int .i64 q] 24)).alloc (.cells #[.nilFunc] 44)) = .ok () (((w1.alloc (.cells #[.int .i64 p, .int .i64 q] 24)).alloc (.cells #[.nilFunc] 44)).setCell ⟨w1.heap.size + 1, 0, none⟩ (.func (.func 145) #[] #[.pointer (some ⟨w1.heap.size, 0, none⟩)])) := by
    rw [run_store _ _ _ _ _ rfl, m0]
    simp [m1]
  have J3 := Lib.hid ((J1.out.alloc #[.int .i64 p, .int .i64 q] 24).alloc #[.func (.func 145) #[] #[.pointer (some ⟨w1.heap.size, 0, none⟩)]] 44)
  have x0 := ((HB.out.below J3.out.2.1 HB.out.lt).cell 0).trans rfl
  have hsz : Hid (w.heap.size < w1.heap.size) := J1.out.head.lt
  have T1 : Hid (Tells 87 #[.pointer (some ⟨w.heap.size, 0, none⟩), .pointer (some ⟨w1.heap.size + 1, 0, none⟩)] (upB (p, q)) (w1.heap.size + 2) ((w1.alloc (.cells #[.int .i64 p, .int .i64 q] 24)).alloc (.cells #[.func (.func 145) #[] #[.pointer (some ⟨w1.heap.size, 0, none⟩)]] 44))) := fun a b ha hb wr hbw => by
    have hJ := J3.out.below (by simp only [alloc_size']; exact hbw)
    exact bag_rank1 a b p q ha hb hp hq w.heap.size (w1.heap.size + 1) w1.heap.size wr hJ.tail.tail.head (by have := hJ.head; simpa using this) hJ.tail.head
  have T2 : Hid (∀ W : World, Below (w1.heap.size + 2) ((w1.alloc (.cells #[.int .i64 p, .int .i64 q] 24)).alloc (.cells #[.func (.func 145) #[] #[.pointer (some ⟨w1.heap.size, 0, none⟩)]] 44)) W → Tells 145 #[.pointer (some ⟨w1.heap.size, 0, none⟩)] (fun x => byB x.1 x.2 p q) (w1.heap.size + 2) W) := fun W hbw => by
    have hJ := J3.out.below (by simp only [alloc_size']; exact hbw)
    exact bag_tells p q hp hq w1.heap.size _ W hJ.tail.head (by omega)
  have HS := Lib.hid (fun W (hbw : Below (w1.heap.size + 2) ((w1.alloc (.cells #[.int .i64 p, .int .i64 q] 24)).alloc (.cells #[.func (.func 145) #[] #[.pointer (some ⟨w1.heap.size, 0, none⟩)]] 44)) W) => J3.out.below (by simp only [alloc_size']; exact hbw))
  generalize hW2 : (w1.alloc (.cells #[.int .i64 p, .int .i64 q] 24)).alloc (.cells #[.func (.func 145) #[] #[.pointer (some ⟨w1.heap.size, 0, none⟩)]] 44) = W2 at T1 T2 HS
  have hs2 := Lib.hid (show W2.heap.size = w1.heap.size + 2 by rw [← hW2]; simp)
  have HW2 := Lib.hid hW2
  rw [← hs2.out] at T1 T2 HS
  have KU : Hid (Calls Try.prog 86 #[.slice (some ⟨gB, 0, none⟩) bs.length c, .func (.func 87) #[] #[.pointer (some ⟨w.heap.size, 0, none⟩), .pointer (some ⟨w1.heap.size + 1, 0, none⟩)]] W2 fun e w' => e = .returned (.int .i64 (lessN (flat bs) (p, q) : Nat)) ∧ Below W2.heap.size W2 w') := by
    have hJ := HS.out W2 (Below.refl _ _)
    have hl := (HL.out.below hJ.2.1).up hJ.2.1.size
    exact (bag_upto_n gB c 87 W2.heap.size _ (upB (p, q)) bs W2 (enters_of Try.func87 (by kernel_rfl) rfl) (Nat.le_refl _) hl hO hc T1.out (hU.mono1 hok)).mono (by rintro e w' ⟨rfl, hb⟩; exact ⟨by rw [hU.less hok], hb⟩)
  have KV : Hid (∀ W : World, Below W2.heap.size W2 W → Calls Try.prog 86 #[.slice (some ⟨gB, 0, none⟩) bs.length c, .func (.func 145) #[] #[.pointer (some ⟨w1.heap.size, 0, none⟩)]] W fun e w' => e = .returned (.int .i64 ((lessN (flat bs) (p, q) + sameN (flat bs) (p, q) : Nat) : Int)) ∧ (w'.cell? ⟨g, 0, none⟩ = some (.slice (some ⟨gB, 0, none⟩) bs.length c) ∧ w'.cell? ⟨w1.heap.size + 1, 0, none⟩ = some (.func (.func 145) #[] #[.pointer (some ⟨w1.heap.size, 0, none⟩)])) ∧ Hid (Below w.heap.size w w')) := fun W hbW => by
    have hJ := HS.out W hbW
    have hl := (HL.out.below hJ.2.1).up hJ.2.1.size
    have ht := T2.out W hbW
    have ht' : Tells 145 #[.pointer (some ⟨w1.heap.size, 0, none⟩)] (fun x => byB x.1 x.2 p q) W.heap.size W := fun a b ha hb wr hbw => ht a b ha hb wr (hbw.mono hbW.size)
    refine (bag_upto_n gB c 145 W.heap.size _ (fun x => byB x.1 x.2 p q) bs W (enters_of Try.func145 (by kernel_rfl) rfl) (Nat.le_refl _) hl hO hc ht' (hU.mono2 hok)).mono ?_
    rintro e w' ⟨rfl, hb⟩
    have hJ' := HS.out w' (hbW.trans (hb.mono hbW.size))
    refine ⟨by rw [hU.both hok], ⟨((HB.out.below hJ'.2.1 HB.out.lt).cell 0).trans rfl, ?_⟩, hJ'.2.1⟩
    have := (hJ'.head.cell 0).trans rfl
    simpa using this
  have HX : Hid (∀ W : World, Below W2.heap.size W2 W → W.cell? ⟨g, 0, none⟩ = some (.slice (some ⟨gB, 0, none⟩) bs.length c) ∧ W.cell? ⟨w1.heap.size + 1, 0, none⟩ = some (.func (.func 145) #[] #[.pointer (some ⟨w1.heap.size, 0, none⟩)])) := fun W hbW => by
    have hJ' := HS.out W hbW
    refine ⟨((HB.out.below hJ'.2.1 HB.out.lt).cell 0).trans rfl, ?_⟩
    have := (hJ'.head.cell 0).trans rfl
    simpa using this
  have HLE : Hid (lessN (flat bs) (p, q) + sameN (flat bs) (p, q) ≤ 100000) := by
    show _ ≤ _
    rw [← hU.both hok]; exact Nat.le_trans List.countP_le_length hn
  clear T1 T2 HS J3 J2 J1 J0 HL hO hc hU hL hb H0
  generalize hN : bs.length = N at *
  generalize he1 : lessN (flat bs) (p, q) = n1 at *
  generalize he2 : sameN (flat bs) (p, q) = n2 at *
  have E1 := Lib.hid he1
  have E2 := Lib.hid he2
  clear he1 he2
  have hn12 : n1 + n2 ≤ 100000 := HLE.out
  clear hW2
  go_wp2_with fail
  rw [HW2.out]
  refine KU.out.mono ?_
  rintro e w2 ⟨rfl, b2⟩
  obtain ⟨y0, y1⟩ := HX.out w2 b2
  have HB2 := Lib.hid b2
  clear b2 x0 m0 m1 hst s0 s1 HX
  go_wp2
  go_region_held3 (fun w3 => w3.cell? ⟨g, 0, none⟩ = some (.slice (some ⟨gB, 0, none⟩) N c) ∧ w3.cell? ⟨w1.heap.size + 1, 0, none⟩ = some (.func (.func 145) #[] #[.pointer (some ⟨w1.heap.size, 0, none⟩)])) (go_keep)
    (first | (go_at_call 86; refine Calls.mono (KV.out _ ?_) ?_; (first | exact HB2.out | exact HB2.out.drew | exact below_drewN HB2.out _); rintro e w3 ⟨rfl, ⟨y0, y1⟩, HR⟩))
  go_wp2
  refine bodyPost_ret (v := .tuple #[.int .i64 (n1 : Nat), .int .i64 (n2 : Nat), .int .i64 0]) ?_ rfl ⟨by rw [E1.out, E2.out], HR.out⟩
  have hw : IntKind.i64.wrap ((n1 : Int) + (n2 : Int) - (n1 : Int)) = (n2 : Int) := by rw [IntKind.wrap_i64]; omega
  simp [hw, results, Try.results22, go_sem]
end Go.Proofs.Ytaeodkpkgbjaeaa

/-! Layer 18 (bag): slices.Delete of one score. -/
namespace Go.Proofs.Ytaeodkpkgbjaeaa
open Go.RowKit
set_option linter.unusedVariables false
set_option linter.unusedSimpArgs false

theorem celS_take (l : List PQ) (k : Nat) : (celS l).take (k * 2) = celS (l.take k) := by
  induction l generalizing k with
  | nil => simp [celS]
  | cons x l ih =>
    cases k with
    | zero => simp [celS]
    | succ k =>
      have e : celS (x :: l) = .int .i64 x.1 :: .int .i64 x.2 :: celS l := rfl
      rw [e, show (k + 1) * 2 = k * 2 + 1 + 1 by omega, List.take_succ_cons, List.take_succ_cons, ih, List.take_succ_cons]
      rfl
theorem celS_drop (l : List PQ) (k : Nat) : (celS l).drop (k * 2) = celS (l.drop k) := by
  induction l generalizing k with
  | nil => simp [celS]
  | cons x l ih =>
    cases k with
    | zero => simp [celS]
    | succ k =>
      have e : celS (x :: l) = .int .i64 x.1 :: .int .i64 x.2 :: celS l := rfl
      rw [e, show (k + 1) * 2 = k * 2 + 1 + 1 by omega, List.drop_succ_cons, List.drop_succ_cons, ih, List.drop_succ_cons]
/-- a part of a block's cells, by the address where it begins -/
theorem blk_from {w : World} {b : Blk} (h : BlkAt w b) (k : Nat) (j : Nat) (v : Value) (hv : (celS (b.2.drop k))[j]? = some v) : w.cell? ((⟨b.1, 0 + k * 2, none⟩ : Addr).add j) = some v := by
  have hlt : j < (celS (b.2.drop k)).length := by
    rcases Nat.lt_or_ge j (celS (b.2.drop k)).length with g | g
    · exact g
    · rw [List.getElem?_eq_none g] at hv; cases hv
  rw [celS_len, List.length_drop] at hlt
  rw [Addr.add_lit, Nat.zero_add, blk_cell h _ (by omega), ← hv, ← celS_drop, List.getElem?_drop]
theorem del_cells (l : List PQ) (sp zs : List Value) (i j n n1 : Nat) (hn : l.length = n) (hj : j = i + 1) (hn1 : n1 + 1 = n) (hi : i < n) (hz : zs.length = 2) :
    layL (layL (celS l ++ sp) (i * 2) (celS (l.drop j))) (n1 * 2) zs = celS (l.eraseIdx i) ++ (zs ++ sp) := by
  subst hj
  have e0 : l.eraseIdx i = l.take i ++ l.drop (i + 1) := List.eraseIdx_eq_take_drop_succ ..
  have hl1 : (celS (l.take i)).length = i * 2 := by rw [celS_len, List.length_take]; omega
  have e1 : celS l ++ sp = celS (l.take i) ++ celS ((l.drop i).take (n - (i + 1))) ++ (celS ((l.drop i).drop (n - (i + 1))) ++ sp) := by
    rw [← List.append_assoc, List.append_assoc (celS (l.take i)), ← celS_app, List.take_append_drop, ← celS_app, List.take_append_drop]
  rw [layL_mid' _ _ _ _ _ _ e1 hl1.symm (by rw [celS_len, celS_len, List.length_take, List.length_drop, List.length_drop]; omega)]
  have hl2 : (celS (l.take i) ++ celS (l.drop (i + 1))).length = n1 * 2 := by
    rw [List.length_append, hl1, celS_len, List.length_drop]; omega
  rw [← List.append_assoc, layL_mid' _ (celS (l.take i) ++ celS (l.drop (i + 1))) (celS ((l.drop i).drop (n - (i + 1)))) sp zs _ rfl hl2.symm (by rw [hz, celS_len, List.length_drop, List.length_drop]; omega), e0, celS_app]
  simp
set_option maxRecDepth 100000 in
set_option maxHeartbeats 4000000 in
theorem bag_delS (b : Blk) (i j n : Nat) (w : World) (hb : BlkAt w b) (hn : b.2.length = n) (hi : i < n) (hj : j = i + 1) (h64 : n ≤ 64) :
    Calls Try.prog 152 #[.slice (some ⟨b.1, 0, none⟩) n 64, .int .i64 i, .int .i64 j] w fun e w' => e = .returned (.slice (some ⟨b.1, 0, none⟩) (n - 1) 64) ∧ BlkAt w' (b.1, b.2.eraseIdx i) ∧ WrS [b.1] w w' := by
  obtain ⟨i0, hi0, hz0, hz1, hz2⟩ := info_parts3 info_sc
  obtain ⟨sp, hsp, hbx⟩ := hb
  have hb : BlkAt w b := ⟨sp, hsp, hbx⟩
  rw [List.length_append, celS_len, hn] at hsp
  obtain ⟨n1, hn1⟩ : ∃ n1, n1 + 1 = n := ⟨n - 1, by omega⟩
  obtain ⟨A, hA, hsrc⟩ : ∃ A : Addr, (if 64 = j then (some ⟨b.1, 0, none⟩ : Option Addr) else some ⟨b.1, j * 2, none⟩) = some A ∧ Hid (∀ t u, (celS (b.2.drop j))[t]? = some u → w.drew.cell? (A.add t) = some u) := by
    by_cases h : 64 = j
    · refine ⟨_, if_pos h, fun t u hu => ?_⟩
      rw [List.drop_eq_nil_of_le (by omega)] at hu
      simp [celS] at hu
    · exact ⟨_, if_neg h, fun t u hu => by have := blk_from hb j t u hu; rwa [Nat.zero_add] at this⟩
  have hL : (celS b.2 ++ sp).length = 128 := by rw [List.length_append, celS_len, hn]; omega
  have hlen : (celS (b.2.drop j)).length = (n - j) * 2 := by rw [celS_len, List.length_drop, hn]
  have hrun := run_app_k (P := Try.prog) w.drew 28 28 24 i0 2 Try.underlying28 hi0 hz1 b.1 0 i 64 A (n - j) (64 - j) (celS b.2 ++ sp) 24 (celS (b.2.drop j)) hbx hlen hsrc.out (by omega) (by rw [hL, hlen]; omega) celS_one
  rw [show i + (n - j) = n1 by omega, Nat.zero_add] at hrun
  have HR := Lib.hid hrun
  have hL1 := layL_len (celS b.2 ++ sp) (i * 2) (celS (b.2.drop j)) (by rw [hL, hlen]; omega)
  have hbx1 : Box (w.drew.setRow b.1 (layL (celS b.2 ++ sp) (i * 2) (celS (b.2.drop j))).toArray) b.1 (layL (celS b.2 ++ sp) (i * 2) (celS (b.2.drop j))).toArray 24 := setRow_heap _ _ _ _ _ _ hbx
  obtain ⟨zs, hzs, hcl⟩ := run_clear_k (P := Try.prog) (w.drew.setRow b.1 (layL (celS b.2 ++ sp) (i * 2) (celS (b.2.drop j))).toArray) 28 0 24 (.agg #[.int .i64 0, .int .i64 0]) 2 Try.underlying28 (fun w => by simp [zeroValue, typeInfo, hi0, hz0]) rfl (by intro v hv; simp [Value.cells] at hv; rw [hv]; rfl) b.1 (n1 * 2) (n - n1) (64 - n1) _ 24 hbx1 (by rw [hL1, hL]; omega) (by omega)
  have HC := Lib.hid hcl
  have hfin := setRow_heap _ b.1 _ (layL (layL (celS b.2 ++ sp) (i * 2) (celS (b.2.drop j))) (n1 * 2) zs).toArray _ _ hbx1
  rw [del_cells b.2 sp zs i j n n1 hn hj hn1 hi (by rw [hzs]; omega)] at hfin HC
  have HF := Lib.hid hfin
  clear hcl hfin hbx1
  clear hrun hsrc
  have hne : ¬ (64 = n1) := by omega
  have hij : ¬ ((i : Int) = (j : Int)) := by omega
  have h1 : i ≤ n := by omega
  have h2 : j ≤ n := by omega
  have h3 : n1 ≤ n := by omega
  have h4 : i ≤ j := by omega
  have h5 : (i : Int) ≤ 64 := by omega
  have h6 : (j : Int) ≤ 64 := by omega
  have HJ := Lib.hid hj
  have HN1 := Lib.hid hn1
  have HN := Lib.hid hn
  clear hj hn1 hn
  go_enter Try.func152, Try.ntmps152
  go_wp2_with fail
  go_region_law (refine step_of_wp rfl (wp_app_run _ (.tmp 22) (.tmp 25) 28 28 rfl _ _ (by simp [Act.eval, Act.put]) (by simp [Act.eval, Act.put]) HR.out ?_))
  go_wp2_with fail
  rw [HC.out]
  go_wp2
  go_ret
  refine ⟨by rw [show n - 1 = n1 by have := HN1.out; omega]; rfl, ⟨zs ++ sp, ?_, HF.out⟩, ?_⟩
  · rw [List.length_append, List.length_append, celS_len, hzs, List.length_eraseIdx_of_lt (by rw [HN.out]; exact hi), HN.out]
    have := HN1.out
    omega
  · exact ((WrS.of [b.1] (Below.refl _ _).drew).trans (WrS.row [b.1] _ b.1 _ (by simp)) fun x hx => Or.inl hx).trans (WrS.row [b.1] _ b.1 _ (by simp)) fun x hx => Or.inl hx
end Go.Proofs.Ytaeodkpkgbjaeaa

/-! Layer 18 (bag): block. -/
namespace Go.Proofs.Ytaeodkpkgbjaeaa
open Go.RowKit
set_option linter.unusedVariables false
set_option linter.unusedSimpArgs false

theorem run_makeM (w : World) (n m : Nat) (h : n ≤ m) (h0 : 0 < m) (hm : m ≤ 1000) : ∃ cs : Array Value, cs.size = m * 2 ∧ (Instr.makeSlice 28 (.int .i64 n) (.int .i64 m)).run Try.prog w = .ok (.slice (some ⟨w.heap.size, 0, none⟩) n m) (w.alloc (.cells cs 24)) := by
  obtain ⟨i0, hi0, hz0, hz1, hz2⟩ := info_parts3 info_sc
  refine ⟨(Array.range (m * 2)).map (fun x => [Value.int IntKind.i64 0, Value.int IntKind.i64 0][x % 2]?.getD default), by simp, ?_⟩
  have hw : IntKind.i64.wrap (n : Int) = n := by rw [IntKind.wrap_i64]; omega
  have hwm : IntKind.i64.wrap (m : Int) = m := by rw [IntKind.wrap_i64]; omega
  have h1 : ¬ ((n : Int) < 0) := by omega
  have h2 : ¬ ((m : Int) < (n : Int)) := by omega
  have h2' : ¬ (m < n) := by omega
  have h3 : ¬ ((m : Int) < 0) := by omega
  have h4 : ¬ (281474976710656 < 16 * (m : Int)) := by omega
  have h5 : ¬ (m = 0) := by omega
  simp [Instr.makeSlice, run_underlying Try.underlying28, sizeOf, typeInfo, zeroValue, hi0, hz0, hz1, hz2, asInt, asIntOf, hw, hwm, h1, h2, h2', h3, h4, h5, newRow, go_sem]
  exact fun h => absurd h (by omega)
theorem run_make64 (w : World) (n : Nat) (h : n ≤ 64) : ∃ cs : List Value, cs.length = 128 ∧ (Instr.makeSlice 28 (.int .i64 n) (.int .i64 64)).run Try.prog w = .ok (.slice (some ⟨w.heap.size, 0, none⟩) n 64) (w.alloc (.cells cs.toArray 24)) := by
  obtain ⟨cs, h1, h2⟩ := run_makeM w n 64 h (by omega) (by omega)
  exact ⟨cs.toList, by simp [h1], by simpa using h2⟩
set_option maxRecDepth 100000 in
set_option maxHeartbeats 4000000 in
theorem bag_block (sd : Addr) (l : List PQ) (n c : Nat) (w : World) (hn : l.length = n) (h64 : n ≤ 64) (hsrc : ∀ j v, (celS l)[j]? = some v → w.cell? (sd.add j) = some v) :
    Calls Try.prog 80 #[.slice (some sd) n c] w fun e w' => e = .returned (.slice (some ⟨w.heap.size, 0, none⟩) n 64) ∧ BlkAt w' (w.heap.size, l) ∧ Below w.heap.size w w' := by
  obtain ⟨i0, hi0, hz0, hz1, hz2⟩ := info_parts3 info_sc
  obtain ⟨cs, hcs, hmk⟩ := run_make64 w n h64
  have HM := Lib.hid hmk
  have hbx : Box (w.alloc (.cells cs.toArray 24)) w.heap.size cs.toArray 24 := Box.new _ _ _
  have hlt : sd.block < w.heap.size ∨ n = 0 := by
    rcases Nat.eq_zero_or_pos n with h | h
    · exact Or.inr h
    · left
      have h0 : (celS l)[0]? = some ((celS l)[0]'(by rw [celS_len]; omega)) := List.getElem?_eq_getElem _
      have := hsrc 0 _ h0
      rw [show sd.add 0 = sd by unfold Addr.add; simp] at this
      rcases Nat.lt_or_ge sd.block w.heap.size with g | g
      · exact g
      · simp [World.cell?, Array.getElem?_eq_none g] at this
  have hsrc2 : ∀ j v, (celS l)[j]? = some v → (w.alloc (.cells cs.toArray 24)).cell? (sd.add j) = some v := fun j v hv => by
    have hpos : 0 < n := by
      rcases Nat.eq_zero_or_pos n with h | h
      · have : l = [] := List.eq_nil_of_length_eq_zero (by omega)
        subst this; simp [celS] at hv
      · exact h
    have hb := hlt.resolve_right (by omega)
    exact ((Below.refl _ w).alloc (Nat.le_refl _) _).cell (p := sd.add j) (by rw [add_block]; exact hb) |>.trans (hsrc j v hv)
  have hrun := run_copy_k (P := Try.prog) (w.alloc (.cells cs.toArray 24)) 28 28 3 24 i0 2 Try.underlying28 hi0 hz1 w.heap.size 0 n 64 sd n c cs 24 (celS l) hbx (by rw [celS_len, hn]; show n * 2 = min n n * 2; rw [Nat.min_self]) hsrc2 (by rw [celS_len, hcs]; omega) celS_one
  have HC := Lib.hid hrun
  have hfin := setRow_heap _ w.heap.size _ (layL cs 0 (celS l)).toArray _ _ hbx
  have HF := Lib.hid hfin
  clear hrun hmk hbx hfin hsrc hsrc2
  have h1 : (n : Int) ≤ 64 := by omega
  go_enter Try.func80, Try.ntmps80
  go_wp2_with fail
  rw [HM.out]
  go_wp2_with fail
  rw [HC.out]
  go_wp2
  go_ret
  refine ⟨rfl, ⟨cs.drop (n * 2), ?_, ?_⟩, below_setRow ((Below.refl _ _).alloc (Nat.le_refl _) _) (Nat.le_refl _) _⟩
  · rw [List.length_append, celS_len, List.length_drop, hcs, hn]; omega
  · have e : layL cs 0 (celS l) = celS l ++ cs.drop (n * 2) := by unfold layL; simp [celS_len, hn]
    have := HF.out
    rw [e] at this ⊢
    exact this
end Go.Proofs.Ytaeodkpkgbjaeaa

/-! Layer 18 (bag): slices.Delete of one block. -/
namespace Go.Proofs.Ytaeodkpkgbjaeaa
open Go.RowKit
set_option linter.unusedVariables false
set_option linter.unusedSimpArgs false

theorem info_bl : (Try.prog.info? 28).map (fun i => (i.zero, i.size, i.bytes)) = some (some (.slice none 0 0), 1, 24) := by kernel_rfl
theorem blkV_one {l : List Blk} : ∀ u ∈ l.map blkV, u.oneCell' = true := by
  intro u hu
  obtain ⟨x, _, rfl⟩ := List.mem_map.1 hu
  rfl
/-- a part of the row's cells, by the address where it begins -/
theorem row_from {w : World} {gB : Nat} {T : TypeId} {bs : List Blk} {sp : List Value} (h : Box w gB (bs.map blkV ++ sp).toArray T) (k : Nat) (j : Nat) (v : Value) (hv : ((bs.drop k).map blkV)[j]? = some v) : w.cell? ((⟨gB, k, none⟩ : Addr).add j) = some v := by
  have hlt : j < ((bs.drop k).map blkV).length := by
    rcases Nat.lt_or_ge j ((bs.drop k).map blkV).length with g | g
    · exact g
    · rw [List.getElem?_eq_none g] at hv; cases hv
  rw [List.length_map, List.length_drop] at hlt
  rw [Addr.add_lit, h.cell]
  simp only [List.getElem?_toArray]
  rw [List.getElem?_append_left (by rw [List.length_map]; omega), ← hv, List.map_drop, List.getElem?_drop]
theorem del_rows (l : List Blk) (sp zs : List Value) (i j n n1 : Nat) (hn : l.length = n) (hj : j = i + 1) (hn1 : n1 + 1 = n) (hi : i < n) (hz : zs.length = 1) :
    layL (layL (l.map blkV ++ sp) i ((l.drop j).map blkV)) n1 zs = (l.eraseIdx i).map blkV ++ (zs ++ sp) := by
  subst hj
  have e0 : l.eraseIdx i = l.take i ++ l.drop (i + 1) := List.eraseIdx_eq_take_drop_succ ..
  have hl1 : ((l.take i).map blkV).length = i := by rw [List.length_map, List.length_take]; omega
  have e1 : l.map blkV ++ sp = (l.take i).map blkV ++ ((l.drop i).take (n - (i + 1))).map blkV ++ (((l.drop i).drop (n - (i + 1))).map blkV ++ sp) := by
    rw [← List.append_assoc, List.append_assoc ((l.take i).map blkV), ← List.map_append, List.take_append_drop, ← List.map_append, List.take_append_drop]
  rw [layL_mid' _ _ _ _ _ _ e1 hl1.symm (by rw [List.length_map, List.length_map, List.length_take, List.length_drop, List.length_drop]; omega)]
  have hl2 : ((l.take i).map blkV ++ (l.drop (i + 1)).map blkV).length = n1 := by
    rw [List.length_append, hl1, List.length_map, List.length_drop]; omega
  rw [← List.append_assoc, layL_mid' _ ((l.take i).map blkV ++ (l.drop (i + 1)).map blkV) (((l.drop i).drop (n - (i + 1))).map blkV) sp zs _ rfl hl2.symm (by rw [hz, List.length_map, List.length_drop, List.length_drop]; omega), e0, List.map_append]
  simp
set_option maxRecDepth 100000 in
set_option maxHeartbeats 4000000 in
theorem bag_delB (bs : List Blk) (gB c i j n : Nat) (w : World) (hr : RowAt w gB c bs) (hn : bs.length = n) (hi : i < n) (hj : j = i + 1) :
    Calls Try.prog 195 #[.slice (some ⟨gB, 0, none⟩) n c, .int .i64 i, .int .i64 j] w fun e w' => e = .returned (.slice (some ⟨gB, 0, none⟩) (n - 1) c) ∧ RowAt w' gB c (bs.eraseIdx i) ∧ WrS [gB] w w' := by
  obtain ⟨i0, hi0, hz0, hz1, hz2⟩ := info_parts3 info_bl
  obtain ⟨sp, T, hsp, hc9, hbx⟩ := hr
  rw [hn] at hsp
  obtain ⟨D, hD⟩ : ∃ D, D = (bs.drop j).map blkV := ⟨_, rfl⟩
  obtain ⟨n1, hn1⟩ : ∃ n1, n1 + 1 = n := ⟨n - 1, by omega⟩
  obtain ⟨A, hA, hsrc⟩ : ∃ A : Addr, (if c = j then (some ⟨gB, 0, none⟩ : Option Addr) else some ⟨gB, j, none⟩) = some A ∧ Hid (∀ t u, D[t]? = some u → w.drew.cell? (A.add t) = some u) := by
    by_cases h : c = j
    · refine ⟨_, if_pos h, fun t u hu => ?_⟩
      rw [hD, List.drop_eq_nil_of_le (by omega)] at hu
      simp at hu
    · exact ⟨_, if_neg h, fun t u hu => row_from hbx j t u (by rw [← hD]; exact hu)⟩
  have hL : (bs.map blkV ++ sp).length = c := by rw [List.length_append, List.length_map, hn]; omega
  have hlen : D.length = (n - j) * 1 := by rw [hD, List.length_map, List.length_drop, hn, Nat.mul_one]
  have hrun := run_app_k (P := Try.prog) w.drew 124 124 28 i0 1 Try.underlying124 hi0 hz1 gB 0 i c A (n - j) (c - j) (bs.map blkV ++ sp) T D hbx hlen hsrc.out (by omega) (by rw [hL, hlen]; omega) (by rw [hD]; exact blkV_one)
  rw [show i + (n - j) = n1 by omega, Nat.zero_add, Nat.mul_one] at hrun
  have HR := Lib.hid hrun
  have hL1 := layL_len (bs.map blkV ++ sp) i D (by rw [hL, hlen]; omega)
  have hbx1 : Box (w.drew.setRow gB (layL (bs.map blkV ++ sp) i D).toArray) gB (layL (bs.map blkV ++ sp) i D).toArray T := setRow_heap _ _ _ _ _ _ hbx
  obtain ⟨zs, hzs, hcl⟩ := run_clear_k (P := Try.prog) (w.drew.setRow gB (layL (bs.map blkV ++ sp) i D).toArray) 124 0 28 (.slice none 0 0) 1 Try.underlying124 (fun w => by simp [zeroValue, typeInfo, hi0, hz0]) rfl (by intro v hv; simp [Value.cells] at hv; rw [hv]; rfl) gB n1 (n - n1) (c - n1) _ T hbx1 (by rw [hL1, hL]; omega) (by omega)
  have HC := Lib.hid hcl
  have hfin := setRow_heap _ gB _ (layL (layL (bs.map blkV ++ sp) i D) n1 zs).toArray _ _ hbx1
  have hdr := del_rows bs sp zs i j n n1 hn hj hn1 hi (by rw [hzs]; omega)
  rw [← hD] at hdr
  rw [hdr] at hfin HC
  clear hD hdr
  have HF := Lib.hid hfin
  clear hcl hfin hbx1
  clear hrun hsrc
  have hnc : n ≤ c := by omega
  have hne : ¬ (c = n1) := by omega
  have hij : ¬ ((i : Int) = (j : Int)) := by omega
  have h1 : i ≤ n := by omega
  have h2 : j ≤ n := by omega
  have h3 : n1 ≤ n := by omega
  have h4 : i ≤ j := by omega
  have h5 : i ≤ c := by omega
  have h6 : j ≤ c := by omega
  have HJ := Lib.hid hj
  have HN1 := Lib.hid hn1
  have HN := Lib.hid hn
  have HSP := Lib.hid hsp
  clear hj hn1 hn hsp
  go_enter Try.func195, Try.ntmps195
  go_wp2_with fail
  go_region_law (refine step_of_wp rfl (wp_app_run _ (.tmp 22) (.tmp 25) 124 124 rfl _ _ (by simp [Act.eval, Act.put]) (by simp [Act.eval, Act.put]) HR.out ?_))
  go_wp2_with fail
  rw [HC.out]
  go_wp2
  go_ret
  refine ⟨by rw [show n - 1 = n1 by have := HN1.out; omega]; rfl, ⟨zs ++ sp, T, ?_, hc9, HF.out⟩, ?_⟩
  · rw [List.length_append, hzs, List.length_eraseIdx_of_lt (by rw [HN.out]; exact hi), HN.out]
    have := HN1.out
    have := HSP.out
    omega
  · exact ((WrS.of [gB] (Below.refl _ _).drew).trans (WrS.row [gB] _ gB _ (by simp)) fun x hx => Or.inl hx).trans (WrS.row [gB] _ gB _ (by simp)) fun x hx => Or.inl hx
end Go.Proofs.Ytaeodkpkgbjaeaa
