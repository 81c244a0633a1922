/- RegI WalA WalB -/
import Derived.Test.YtkkeejbgaaodeaaBase
import Derived.OrdersIn
import Derived.RangeFuncNested
import Derived.RangeFuncBound
import Derived.RangeFuncCalls
import Derived.RangeFuncLeaves
import Derived.RangeFuncBox
import Derived.Shelf.Abstract
import Derived.WalkKit
import Derived.OwnWalkIn
import Derived.TacticsInMore
import Derived.LoopNIn
import Derived.LoopIn
import Derived.Maps.AppendAt
import Derived.Test.YtkkeejbgaaodeaaTreeJ
import Derived.Laws.EntriesVeiled
/-! A drawn region inside a fence, walked with an invariant over what is done. -/
namespace Go.Proofs.Ytkkeejbgaaodeaa
open Go.RowKit
set_option linter.unusedVariables false
set_option linter.unusedSimpArgs false

section
variable {F : Fence} {n0 : Nat} {P : Program} {ops : Array Oper} {Q : Exit → Act → World → Prop}
/-- the i-th operation, whatever was carried out before it: what is to be shown of it -/
def RegStepI (F : Fence) (n0 : Nat) (P : Program) (ops : Array Oper) (Q : Exit → Act → World → Prop) (J : (Nat → Bool) → List Value → World → Prop) (a0 : Act) (i : Nat) (o : Oper) : Prop :=
  ∀ (f : Nat → Bool) (vs : List Value) (w : World), vs.length = ops.size → f i = false → (∀ j ∈ hangsOn ops i, f j = true) → J f vs w →
    ∀ K : Act → World → Prop, (∀ v w', J (fun k => if k = i then true else f k) (vs.set i v) w' → K (putAll ops.toList (vs.set i v) a0) w') →
      if Region.wanted o (yielded ops (putAll ops.toList vs a0).tmps) = true then Oper.wpIn F n0 P o (putAll ops.toList vs a0) w K Q else (∀ f, o.about P w (putAll ops.toList vs a0).eval = some f → F.fn f) ∧ K (putAll ops.toList (vs.set i undef) a0) w

theorem wpAnyIn_inv {a0 : Act} {J : (Nat → Bool) → List Value → World → Prop} (hap : dstApart ops.toList = true) (hbk : backward ops = true)
    (hst : ∀ i o, ops[i]? = some o → RegStepI F n0 P ops Q J a0 i o)
    (hQ : ∀ vs w, vs.length = ops.size → J (fun _ => true) vs w → Q .normal (putAll ops.toList vs a0) w)
    (hJ : ∀ f g vs w, (∀ k, k < ops.size → f k = g k) → J f vs w → J g vs w) :
    ∀ (fuel : Nat) (L : Array Bool) (vs : List Value) (w : World), L.size = ops.size → L.toList.countP (fun b => b == false) ≤ fuel → vs.length = ops.size → J (fun k => L.getD k false) vs w →
      wpAnyIn F n0 P .any ops Q fuel L (putAll ops.toList vs a0) w := by
  intro fuel
  -- nothing is ready only where all is done
  have hfull : ∀ L : Array Bool, L.size = ops.size → Region.ready .any ops L = [] → ∀ k, k < ops.size → L.getD k false = true := by
    intro L hL hr k
    induction k using Nat.strongRecOn with
    | _ k ih =>
      intro hk
      cases hb : L.getD k false with
      | true => rfl
      | false =>
        exfalso
        have hmem : k ∈ Region.ready .any ops L := by
          unfold Region.ready
          simp only [List.mem_filter, List.mem_range]
          refine ⟨hk, ?_⟩
          have h1 : L.getD k true = false := by
            rw [Array.getD_eq_getD_getElem?, Array.getElem?_eq_getElem (by omega)] at hb ⊢
            exact hb
          rw [h1, Array.getElem?_eq_getElem hk]
          simp only [Bool.not_false, Bool.true_and, Option.map_some, Option.getD_some]
          rw [Array.all_eq_true']
          intro e he
          cases hbi : Region.binds .any e with
          | false => rfl
          | true =>
            have hin : e.on ∈ hangsOn ops k := by
              unfold hangsOn
              rw [Array.getElem?_eq_getElem hk]
              exact List.mem_map.2 ⟨e, List.mem_filter.2 ⟨by simpa using he, hbi⟩, rfl⟩
            have hlt : e.on < k := by
              unfold backward at hbk
              rw [List.all_eq_true] at hbk
              have := hbk k (List.mem_range.2 hk)
              rw [List.all_eq_true] at this
              exact of_decide_eq_true (this _ hin)
            simp [ih e.on hlt (by omega)]
        rw [hr] at hmem
        cases hmem
  have hend : ∀ (L : Array Bool) (vs : List Value) (w : World), L.size = ops.size → vs.length = ops.size → J (fun k => L.getD k false) vs w → Region.ready .any ops L = [] → Q .normal (putAll ops.toList vs a0) w := by
    intro L vs w hL hv hj hr
    exact hQ vs w hv (hJ _ _ vs w (fun k hk => hfull L hL hr k hk) hj)
  induction fuel with
  | zero =>
    intro L vs w hL hc hv hj
    have hr : Region.ready .any ops L = [] := by
      rw [List.eq_nil_iff_forall_not_mem]
      intro i hi
      unfold Region.ready at hi
      simp only [List.mem_filter, List.mem_range, Bool.and_eq_true, Bool.not_eq_true'] at hi
      have h0 : L.toList.countP (fun b => b == false) = 0 := by omega
      rw [List.countP_eq_zero] at h0
      have h1 : L.getD i true = false := hi.2.1
      rw [Array.getD_eq_getD_getElem?, Array.getElem?_eq_getElem (by omega)] at h1
      have := h0 L[i] (by simp)
      simp at h1
      simp [h1] at this
    exact ⟨hr, hend L vs w hL hv hj hr⟩
  | succ fuel ih =>
    intro L vs w hL hc hv hj
    refine ⟨hend L vs w hL hv hj, fun i hi => ?_⟩
    unfold Region.ready at hi
    simp only [List.mem_filter, List.mem_range, Bool.and_eq_true, Bool.not_eq_true'] at hi
    obtain ⟨hlt, hnot, hpre⟩ := hi
    have ho : ops[i]? = some ops[i] := Array.getElem?_eq_getElem hlt
    rw [ho] at hpre
    simp only [Option.map_some, Option.getD_some] at hpre
    rw [Array.all_eq_true'] at hpre
    have hf : L.getD i false = false := by
      rw [Array.getD_eq_getD_getElem?, Array.getElem?_eq_getElem (by omega)] at hnot ⊢
      exact hnot
    have h := hst i ops[i] ho (fun k => L.getD k false) vs w hv hf (by
      intro j hj'
      unfold hangsOn at hj'
      rw [ho] at hj'
      obtain ⟨e, he, rfl⟩ := List.mem_map.1 hj'
      obtain ⟨he1, he2⟩ := List.mem_filter.1 he
      have := hpre e (by simpa using he1)
      rw [he2] at this
      simpa using this) hj
    have hL2 : (L.setIfInBounds i true).size = ops.size := by simp [hL]
    have hc2 : (L.setIfInBounds i true).toList.countP (fun b => b == false) ≤ fuel := by
      rw [Array.toList_setIfInBounds]
      have h1 : L.toList[i]? = some false := by
        rw [Array.getD_eq_getD_getElem?, Array.getElem?_eq_getElem (by omega)] at hf
        rw [Array.getElem?_toList, Array.getElem?_eq_getElem (by omega)]
        simpa using hf
      have : (L.toList.set i true).countP (fun b => b == false) + 1 = L.toList.countP (fun b => b == false) := by
        have hil : i < L.toList.length := by simp; omega
        rw [List.countP_set hil]
        have hli : L.toList[i] = false := by rw [List.getElem?_eq_getElem hil] at h1; simpa using h1
        have hpos : 0 < L.toList.countP (fun b => b == false) := List.countP_pos_iff.2 ⟨false, by rw [← hli]; exact List.getElem_mem hil, by simp⟩
        rw [hli]
        show L.toList.countP (fun b => b == false) - 1 + 0 + 1 = _
        omega
      omega
    have key : ∀ (v : Value) (w' : World), J (fun k => if k = i then true else L.getD k false) (vs.set i v) w' → wpAnyIn F n0 P .any ops Q fuel (L.setIfInBounds i true) (putAll ops.toList (vs.set i v) a0) w' := by
      intro v w' hj'
      refine ih _ _ w' hL2 hc2 (by simp [hv]) (hJ _ _ _ _ (fun k hk => ?_) hj')
      simp only [Array.getD_eq_getD_getElem?]
      rw [Array.getElem?_setIfInBounds]
      by_cases hki : i = k
      · subst hki; simp [hL, hlt]
      · rw [if_neg hki, if_neg (Ne.symm hki)]
    have h2 := h _ key
    unfold wpOpIn
    rw [ho]
    dsimp only
    rw [putAll_set ops.toList vs a0 i ops[i] undef hap (by rw [Array.getElem?_toList]; exact ho) (by omega)]
    exact h2

theorem wpIn_region_inv {id : Nat} {a0 : Act} {w : World} (J : (Nat → Bool) → List Value → World → Prop) (hm : P.follows .mixedOrders = true)
    (hap : dstApart ops.toList = true) (hbk : backward ops = true)
    (hJ : ∀ f g vs w, (∀ k, k < ops.size → f k = g k) → J f vs w → J g vs w)
    (h0 : ∀ vs, vs.length = ops.size → J (fun _ => false) vs w.drew)
    (hst : ∀ i o, ops[i]? = some o → RegStepI F n0 P ops Q J a0 i o)
    (hQ : ∀ vs w, vs.length = ops.size → J (fun _ => true) vs w → Q .normal (putAll ops.toList vs a0) w) :
    (Code.region id ops true).wpIn F n0 P Q a0 w := by
  refine wpIn_region_any hm ?_
  obtain ⟨vs, hv, he⟩ := putAll_start ops.toList a0
  have := wpAnyIn_inv (F := F) (n0 := n0) (P := P) hap hbk hst hQ hJ ops.size (Array.replicate ops.size false) vs w.drew (by simp) (by
    refine Nat.le_trans List.countP_le_length ?_
    simp) (by simpa using hv) (hJ _ _ _ _ (fun k hk => by rw [Array.getD_eq_getD_getElem?]; simp [hk]) (h0 vs (by simpa using hv)))
  rw [he] at this
  exact this

/-- the same, operation by operation: what each hangs on is written out -/
def StepAtI (F : Fence) (n0 : Nat) (P : Program) (ops : Array Oper) (Q : Exit → Act → World → Prop) (J : (Nat → Bool) → List Value → World → Prop) (a0 : Act) (i : Nat) (o : Oper) (p : List Nat) : Prop :=
  ∀ (f : Nat → Bool) (vs : List Value) (w : World), vs.length = ops.size → f i = false → (∀ j ∈ p, f j = true) → J f vs w →
    ∀ K : Act → World → Prop, (∀ v w', J (fun k => if k = i then true else f k) (vs.set i v) w' → K (putAll ops.toList (vs.set i v) a0) w') →
      if Region.wanted o (yielded ops (putAll ops.toList vs a0).tmps) = true then Oper.wpIn F n0 P o (putAll ops.toList vs a0) w K Q else (∀ f, o.about P w (putAll ops.toList vs a0).eval = some f → F.fn f) ∧ K (putAll ops.toList (vs.set i undef) a0) w
def StepsI (F : Fence) (n0 : Nat) (P : Program) (ops : Array Oper) (Q : Exit → Act → World → Prop) (J : (Nat → Bool) → List Value → World → Prop) (a0 : Act) : Nat → List Oper → List (List Nat) → Prop
  | i, o :: os, p :: ps => StepAtI F n0 P ops Q J a0 i o p ∧ StepsI F n0 P ops Q J a0 (i + 1) os ps
  | _, [], [] => True
  | _, _, _ => False
theorem steps_atI {J : (Nat → Bool) → List Value → World → Prop} {a0 : Act} : ∀ (os : List Oper) (ps : List (List Nat)) (n : Nat), StepsI F n0 P ops Q J a0 n os ps → ∀ (k : Nat) (o : Oper), os[k]? = some o → ∃ p, ps[k]? = some p ∧ StepAtI F n0 P ops Q J a0 (n + k) o p := by
  intro os
  induction os with
  | nil => intro ps n _ k o h; simp at h
  | cons x os ih =>
    intro ps n h k o hk
    cases ps with
    | nil => exact h.elim
    | cons p ps =>
      cases k with
      | zero =>
        obtain rfl : x = o := by simpa using hk
        exact ⟨p, rfl, h.1⟩
      | succ k =>
        obtain ⟨q, hq, hs⟩ := ih ps (n + 1) h.2 k o (by simpa using hk)
        exact ⟨q, by simpa using hq, by rw [show n + (k + 1) = n + 1 + k by omega]; exact hs⟩
theorem wpIn_region_steps {id : Nat} {a0 : Act} {w : World} (J : (Nat → Bool) → List Value → World → Prop) (pre : List (List Nat)) (hm : P.follows .mixedOrders = true)
    (hap : dstApart ops.toList = true) (hbk : backward ops = true) (hpre : (List.range ops.size).map (hangsOn ops) = pre)
    (hJ : ∀ f g vs w, (∀ k, k < ops.size → f k = g k) → J f vs w → J g vs w)
    (h0 : ∀ vs, vs.length = ops.size → J (fun _ => false) vs w.drew)
    (hst : StepsI F n0 P ops Q J a0 0 ops.toList pre)
    (hQ : ∀ vs w, vs.length = ops.size → J (fun _ => true) vs w → Q .normal (putAll ops.toList vs a0) w) :
    (Code.region id ops true).wpIn F n0 P Q a0 w := by
  refine wpIn_region_inv J hm hap hbk hJ h0 (fun i o ho => ?_) hQ
  obtain ⟨p, hp, hs⟩ := steps_atI ops.toList pre 0 hst i o (by rw [Array.getElem?_toList]; exact ho)
  rw [Nat.zero_add] at hs
  intro f vs w hl hf hj
  refine hs f vs w hl hf (fun j hjp => hj j ?_)
  have hi : i < ops.size := by
    rcases Nat.lt_or_ge i ops.size with h | h
    · exact h
    · rw [Array.getElem?_eq_none h] at ho; cases ho
  rw [← hpre, List.getElem?_map, List.getElem?_range hi] at hp
  obtain rfl : hangsOn ops i = p := by simpa using hp
  exact hjp
end
end Go.Proofs.Ytkkeejbgaaodeaa
/-! Package walk: the nodes of a tree in their order, by an iterator that calls itself. -/
namespace Go.Proofs.Ytkkeejbgaaodeaa
open Go.RowKit Go.Shelf Go.Maps
set_option linter.unusedVariables false
set_option linter.unusedSimpArgs false
attribute [local go_sem] Oper.semAt_some

/-- the nodes of a subtree, and their depths -/
def seqT (N : List TN) : Nat → Nat → Nat → List (Nat × Nat)
  | 0, _, _ => []
  | f + 1, i, dep => (i, dep) :: (if (N.getD i tn0).lf = 0 then [] else seqT N f (N.getD i tn0).lf.toNat (dep + 1) ++ seqT N f (N.getD i tn0).rt.toNat (dep + 1))
theorem seqT_leaf {N : List TN} {f i dep : Nat} (h : (N.getD i tn0).lf = 0) : seqT N (f + 1) i dep = [(i, dep)] := by
  rw [seqT, if_pos h]
theorem seqT_inner {N : List TN} {f i dep : Nat} (h : ¬ (N.getD i tn0).lf = 0) : seqT N (f + 1) i dep = (i, dep) :: (seqT N f (N.getD i tn0).lf.toNat (dep + 1) ++ seqT N f (N.getD i tn0).rt.toNat (dep + 1)) := by
  rw [seqT, if_neg h]
theorem seqT_len {N : List TN} {dm : Int} {i e d : Nat} (h : Sub N dm i e d) : ∀ f dep, d < f → (seqT N f i dep).length = e - i := by
  induction h with
  | @leaf i hi hl =>
    intro f dep hf
    obtain ⟨g, rfl⟩ : ∃ g, f = g + 1 := ⟨f - 1, by omega⟩
    rw [seqT_leaf hl.1]
    simp
  | @inner i m e d1 d2 hi hl hr hc h1 h2 hs ih1 ih2 =>
    intro f dep hf
    have l1 := h1.lt
    have l2 := h2.lt
    obtain ⟨g, rfl⟩ : ∃ g, f = g + 1 := ⟨f - 1, by omega⟩
    rw [seqT_inner (by omega), hl, hr, show ((i : Int) + 1).toNat = i + 1 from by omega, Int.toNat_natCast, List.length_cons, List.length_append, ih1 g (dep + 1) (by omega), ih2 g (dep + 1) (by omega)]
    omega
/-- all nodes of a tree, and their depths -/
def allT (N : List TN) (dm : Int) : List (Nat × Nat) := if isT N dm = true then seqT N (N.length + 1) 0 0 else []
/-- what a round keeps for the iterator -/
def KpW (n₀ b1 : Nat) (W W' : World) : Prop := Below n₀ W W' ∧ W'.heap[b1]? = W.heap[b1]? ∧ ∀ (k : Nat) (c : Array Value) (T : TypeId) (fz : Nat × Nat), (T = 73 ∨ T = 39) → W.heap[k]? = some (Obj.cells c T fz) → W'.heap[k]? = some (Obj.cells c T fz)
theorem kpw_t {n₀ b1 : Nat} {X Y Z : World} (h : KpW n₀ b1 X Y) (k : KpW n₀ b1 Y Z) : KpW n₀ b1 X Z := ⟨h.1.trans k.1, k.2.1.trans h.2.1, fun j c T fz hT hj => k.2.2 j c T fz hT (h.2.2 j c T fz hT hj)⟩
theorem kpw_b {n₀ b1 B : Nat} (hn : n₀ ≤ B) (hb : b1 < B) (W : World) (l : Nat) (o o' : Obj) (hl : B ≤ l) (h : W.heap[l]? = some o) (hc : o.isCells = false) (_ : o.isWalk = false) : KpW n₀ b1 W (W.putObj l o') := by
  have hlt : l < W.heap.size := (Array.getElem?_eq_some_iff.1 h).1
  refine ⟨(Below.refl n₀ W).grown (grownBy_putObj' W l o') (by omega) (fun k e => by cases e; omega), World.putObj_heap_other (by omega), fun k c T fz hT hk => ?_⟩
  refine (World.putObj_heap_other ?_).trans hk
  rintro rfl
  rw [h] at hk
  cases hk
  simp [Obj.isCells] at hc
theorem kpw_below {n₀ b1 : Nat} {W W' : World} (h : Below W.heap.size W W') (hn : n₀ ≤ W.heap.size) (hb : b1 < W.heap.size) : KpW n₀ b1 W W' :=
  ⟨h.mono hn, h.block b1 hb, fun k c T fz hT hk => (h.block k (Array.getElem?_eq_some_iff.1 hk).1).trans hk⟩
/-- what the iterator has -/
structure VI (n₀ b1 b2 b3 l : Nat) (dim : Int) (A : Option Addr) (n c : Nat) (w0 W : World) : Prop where
  below : Below n₀ w0 W
  sz : n₀ ≤ W.heap.size
  tree : Box W b1 #[.int .i64 dim, .slice A n c] 24
  yld : Boxed W b2 73 (.func (.yield l) #[] #[])
  vis : Boxed W b3 73 (.func (.func 118) #[] #[.pointer (some ⟨b2, 0, none⟩), .pointer (some ⟨b1, 0, none⟩), .pointer (some ⟨b3, 0, none⟩)])
theorem VI.keep {n₀ b1 b2 b3 l : Nat} {dim : Int} {A : Option Addr} {n c : Nat} {w0 W W' : World} (h : VI n₀ b1 b2 b3 l dim A n c w0 W) (hk : KpW n₀ b1 W W') : VI n₀ b1 b2 b3 l dim A n c w0 W' :=
  ⟨h.below.trans hk.1, Nat.le_trans h.sz hk.1.size, hk.2.1.trans h.tree, hk.2.2 _ _ _ _ (.inl rfl) h.yld, hk.2.2 _ _ _ _ (.inl rfl) h.vis⟩
theorem VI.step {n₀ b1 b2 b3 l : Nat} {dim : Int} {A : Option Addr} {n c : Nat} {w0 W W' : World} (h : VI n₀ b1 b2 b3 l dim A n c w0 W) (hb : Below W.heap.size W W') : VI n₀ b1 b2 b3 l dim A n c w0 W' :=
  h.keep (kpw_below hb h.sz h.tree.lt)
theorem round_any {n m : Nat} {P : Program} {l : Nat} {f : FuncId} {tmps : Array Value} {assign body : Code} {w : World} {R : Ending → World → Prop} (h : RoundIn Fence.wide n P l f tmps assign body w R) : RoundIn Fence.wide m P l f tmps assign body w R :=
  ⟨h.1, fun c cs _ => h.2 c cs (room_wide _)⟩
theorem grown_none {W W' : World} (h : Below W.heap.size W W') : W.grownBy W' none := ⟨h.os, h.tape, h.output, h.size, fun k hk _ => h.block k hk⟩
theorem abides_below {β : Type} {B : Nat} {J : β → World → Prop} (hJ : AbidesFrom B J) {s : β} {W W' : World} (h : J s W) (hb : Below W.heap.size W W') : J s W' := hJ s W W' none h (grown_none hb) (fun r e => by cases e)
set_option maxRecDepth 100000 in
set_option maxHeartbeats 4000000 in
theorem visit_in (N : List TN) (dm dim : Int) (A : Option Addr) (c n₀ b1 b2 b3 l m n₁ : Nat) (w0 : World) (hA : LiesT w0 n₀ A N) (hN : N.length ≤ 1000) (J Jx : List (Nat × Nat) → World → Prop) (hJ : AbidesFrom n₁ J)
    (hY : ∀ pre (x : Nat × Nat) W, J pre W → pre.length < N.length → x.1 < N.length ∧ x.2 ≤ 2000 → YieldAt Fence.wide m Try.prog l #[.int .i64 (x.1 : Nat), .int .i64 (x.2 : Nat)] W fun e W' =>
      (e = .returned (.bool true) ∧ J (pre ++ [x]) W' ∧ KpW n₀ b1 W W') ∨ (e = .returned (.bool false) ∧ Jx (pre ++ [x]) W')) :
    ∀ (f i e d dep : Nat) (pre : List (Nat × Nat)) (W : World), Sub N dm i e d → d < f → f + dep ≤ 2000 → pre.length = i → VI n₀ b1 b2 b3 l dim A N.length c w0 W → J pre W →
    Calls Try.prog 118 #[.int .i64 i, .int .i64 dep, .pointer (some ⟨b2, 0, none⟩), .pointer (some ⟨b1, 0, none⟩), .pointer (some ⟨b3, 0, none⟩)] W fun r W' =>
      (r = .returned (.bool true) ∧ J (pre ++ seqT N f i dep) W' ∧ KpW n₀ b1 W W') ∨ (r = .returned (.bool false) ∧ ∃ q, q <+: seqT N f i dep ∧ Jx (pre ++ q) W')
  | 0, i, e, d, dep, pre, W, hS, hd, hf, hp, hV, h0 => absurd hd (by omega)
  | f + 1, i, e, d, dep, pre, W, hS, hd, hf, hp, hV, h0 => by
    have hi : i < N.length := by have := hS.lt; omega
    have IH : Hid (∀ (i e d : Nat) (dp : Int) (pre : List (Nat × Nat)) (W : World), dp = ((dep + 1 : Nat) : Int) → Sub N dm i e d → d < f → pre.length = i → VI n₀ b1 b2 b3 l dim A N.length c w0 W → J pre W →
      Calls Try.prog 118 #[.int .i64 i, .int .i64 dp, .pointer (some ⟨b2, 0, none⟩), .pointer (some ⟨b1, 0, none⟩), .pointer (some ⟨b3, 0, none⟩)] W fun r W' =>
        (r = .returned (.bool true) ∧ J (pre ++ seqT N f i (dep + 1)) W' ∧ KpW n₀ b1 W W') ∨ (r = .returned (.bool false) ∧ ∃ q, q <+: seqT N f i (dep + 1) ∧ Jx (pre ++ q) W')) := fun i e d dp pre W hdp h1 h2 h3 h4 h5 => by
      subst hdp
      exact visit_in N dm dim A c n₀ b1 b2 b3 l m n₁ w0 hA hN J Jx hJ hY f i e d (dep + 1) pre W h1 h2 (by omega) h3 h4 h5
    obtain ⟨fn, tmps, assign, body, hy, hR⟩ := hY pre (i, dep) W h0 (by omega) ⟨hi, by show dep ≤ 2000; omega⟩
    have HV := Lib.hid hV
    have hc2 := hV.yld.cell
    obtain ⟨ad, eA, _, _, _⟩ := (hA.below hV.below).at hi
    have HAt := Lib.hid (fun W (h : Below n₀ w0 W) => (hA.below h).at hi)
    subst eA
    have HJ := Lib.hid (fun (s : List (Nat × Nat)) (W W' : World) (h : J s W) (hb : Below W.heap.size W W') => abides_below hJ h hb)
    have hdep : (dep : Int) ≤ 2000 := by omega
    have hiI : (i : Int) < (N.length : Int) := by omega
    have HSQ : Hid ((N.getD i tn0).lf = 0 → seqT N (f + 1) i dep = [(i, dep)]) := fun h => seqT_leaf h
    have HSI : Hid (∀ t1 t2 : Nat, (N.getD i tn0).lf = t1 → ¬ (t1 : Int) = 0 → (N.getD i tn0).rt = t2 → seqT N (f + 1) i dep = (i, dep) :: (seqT N f t1 (dep + 1) ++ seqT N f t2 (dep + 1))) := fun t1 t2 e1 e0 e2 => by
      rw [seqT_inner (by rw [e1]; exact e0), e1, e2, Int.toNat_natCast, Int.toNat_natCast]
    have HL := Lib.hid (fun j e d (h : Sub N dm j e d) (hd : d < f) => seqT_len h f (dep + 1) hd)
    have HCase : Hid ((N.getD i tn0).lf = 0 ∨ ∃ t1 t2 d1 d2 : Nat, (N.getD i tn0).lf = t1 ∧ ¬ (t1 : Int) = 0 ∧ (N.getD i tn0).rt = t2 ∧ Sub N dm t1 t2 d1 ∧ Sub N dm t2 e d2 ∧ d1 < f ∧ d2 < f ∧ t1 = i + 1) := by
      cases hS with
      | leaf hi hl => exact .inl hl.1
      | @inner _ m' _ d1 d2 hi hl hr hc h1 h2 hs => exact .inr ⟨i + 1, m', d1, d2, by rw [hl]; rfl, by omega, hr, h1, h2, by omega, by omega, rfl⟩
    clear hV h0 hA hY hJ hS
    generalize hL : N.length = L at *
    clear hL
    refine (callsIn_wide (n := 5)).1 ?_
    refine callsIn_of_wp Try.func118 rfl trivial ?_ rfl
    simp only [Try.ntmps118, List.size_toArray, List.length_cons, List.length_nil, Nat.reduceAdd, Nat.reduceSub, Array.replicate_succ, Array.replicate_zero, List.push_toArray, List.append_toArray, List.nil_append, List.cons_append]
    gi_wp2
    refine (round_any hR).mono ?_
    rintro r W3 (⟨rfl, hJ3, hk3⟩ | ⟨rfl, hJx3⟩)
    · have HV3 := Lib.hid (HV.out.keep hk3)
      have HK3 := Lib.hid hk3
      have HJ3 := Lib.hid hJ3
      clear hJ3 hk3 hy hR hc2
      obtain ⟨ad', e', _, ⟨c0, c1, c2, c3, c4⟩, _⟩ := HAt.out W3 HV3.out.below
      cases e'
      obtain ⟨x0, x1⟩ := box_cut HV3.out.tree
      have hsq : (i, dep) :: ([] : List (Nat × Nat)) = [(i, dep)] := rfl
      clear HAt hsq
      generalize N.getD i tn0 = nd at *
      obtain ⟨na, nc, nco, nlv, nlf, nrt, nsz⟩ := nd
      simp only at c0 c1 c2 c3 c4 HSQ HSI HCase
      have HV4 := Lib.hid (HV3.out.step ((Below.refl _ _).alloc (Nat.le_refl _) (.cells #[.slice na nco.length nc, .int .i64 nlv, .int .i64 nlf, .int .i64 nrt, .int .i64 nsz] 39)))
      have HK4 := Lib.hid (kpw_t HK3.out (kpw_below ((Below.refl _ _).alloc (Nat.le_refl _) (.cells #[.slice na nco.length nc, .int .i64 nlv, .int .i64 nlf, .int .i64 nrt, .int .i64 nsz] 39)) HV3.out.sz HV3.out.tree.lt))
      have HJ4 := Lib.hid (HJ.out _ _ _ HJ3.out ((Below.refl _ _).alloc (Nat.le_refl _) (.cells #[.slice na nco.length nc, .int .i64 nlv, .int .i64 nlf, .int .i64 nrt, .int .i64 nsz] 39)))
      have HB4 := Lib.hid (Box.new W3 #[.slice na nco.length nc, .int .i64 nlv, .int .i64 nlf, .int .i64 nrt, .int .i64 nsz] 39)
      obtain ⟨z0, z1, z2, z3, z4⟩ := box5' HB4.out
      have hcv := HV4.out.vis.cell
      rcases HCase.out with h0 | ⟨t1, t2, d1, d2, e1, e0, e2, s1, s2, q1, q2, q3⟩
      · subst h0
        have HS := Lib.hid (HSQ.out rfl)
        clear HCase HSI HSQ
        gi_wp2
        refine ⟨(fun f hf => by cases hf), ?_⟩
        gi_wp2
        all_goals first
          | (exfalso; rename_i h1 h2; cases h1; done)
          | (go_ret; exact .inl ⟨rfl, by rw [HS.out]; exact HJ4.out, HK4.out⟩)
      · subst e1
        subst e2
        have HS := Lib.hid (HSI.out t1 t2 rfl e0 rfl)
        have hne : ((t1 : Int) == 0) = false := by rw [beq_eq_false_iff_ne]; exact e0
        have hl1 := HL.out _ _ _ s1 q1
        have hlt := s1.lt
        have KV1 := Lib.hid (IH.out t1 t2 d1 ((dep : Int) + 1) (pre ++ [(i, dep)]) _ rfl s1 q1 (by simp; omega) HV4.out HJ4.out)
        have KV2 := Lib.hid (fun W' (hv : VI n₀ b1 b2 b3 l dim (some ad) L c w0 W') (hj : J (pre ++ [(i, dep)] ++ seqT N f t1 (dep + 1)) W') => IH.out t2 e d2 ((dep : Int) + 1) (pre ++ [(i, dep)] ++ seqT N f t1 (dep + 1)) W' rfl s2 q2 (by simp [hl1]; omega) hv hj)
        clear HCase HSI HSQ IH HL hl1 hlt s1 s2 q1 q2 q3
        generalize seqT N f t1 (dep + 1) = Q1 at *
        generalize seqT N f t2 (dep + 1) = Q2 at *
        gi_wp2_with fail
        refine ⟨trivial, ?_⟩
        refine (callsIn_wide.2 KV1.out).mono ?_
        rintro r5 W5 (⟨rfl, j5, k5⟩ | ⟨rfl, q, hq, jx⟩)
        · have HV5 := Lib.hid (HV4.out.keep k5)
          have HK5 := Lib.hid (kpw_t HK4.out k5)
          have HB5 := Lib.hid (show Box W5 W3.heap.size _ _ from k5.2.2 _ _ _ _ (.inr rfl) HB4.out)
          have HJ5 := Lib.hid j5
          clear j5 k5 z0 z1 z2 z3 z4
          obtain ⟨z0, z1, z2, z3, z4⟩ := box5' HB5.out
          have hcv5 := HV5.out.vis.cell
          have KV3 := Lib.hid (KV2.out W5 HV5.out HJ5.out)
          gi_wp2_with fail
          refine ⟨trivial, ?_⟩
          refine (callsIn_wide.2 KV3.out).mono ?_
          rintro r6 W6 (⟨rfl, j6, k6⟩ | ⟨rfl, q, hq, jx⟩)
          · gi_wp2
            repeat (refine ⟨(fun f hf => by cases hf), ?_⟩; gi_wp2)
            go_ret
            refine .inl ⟨rfl, ?_, kpw_t HK5.out k6⟩
            rw [HS.out]
            simpa using j6
          · gi_wp2
            repeat (refine ⟨(fun f hf => by cases hf), ?_⟩; gi_wp2)
            go_ret
            refine .inr ⟨rfl, (i, dep) :: (Q1 ++ q), ?_, ?_⟩
            · rw [HS.out]
              obtain ⟨rest, hrest⟩ := hq
              exact ⟨rest, by rw [← hrest]; simp⟩
            · simpa using jx
        · gi_wp2_with (refine ⟨(fun f hf => by cases hf), ?_⟩)
          go_ret
          refine .inr ⟨rfl, (i, dep) :: q, ?_, ?_⟩
          · rw [HS.out]
            obtain ⟨rest, hrest⟩ := hq
            exact ⟨rest ++ Q2, by rw [← hrest]; simp⟩
          · simpa using jx
    · clear hy hR hc2
      gi_wp2
      go_ret
      refine .inr ⟨rfl, [(i, dep)], ?_, hJx3⟩
      rcases HCase.out with h0 | ⟨t1, t2, d1, d2, e1, e0, e2, _⟩
      · rw [HSQ.out h0]
        exact List.prefix_refl _
      · rw [HSI.out t1 t2 e1 e0 e2]
        exact ⟨_, rfl⟩
end Go.Proofs.Ytkkeejbgaaodeaa
/-! Package walk: Nodes. -/
namespace Go.Proofs.Ytkkeejbgaaodeaa
open Go.RowKit Go.Shelf Go.Maps
set_option linter.unusedVariables false
set_option linter.unusedSimpArgs false
attribute [local go_sem] Oper.semAt_some

/-- a node's index and its depth -/
abbrev NdI (n : Nat) : Type := { x : Nat × Nat // x.1 < n ∧ x.2 ≤ 2000 }
abbrev encT {n : Nat} (x : NdI n) : Array Value := #[.int .i64 (x.1.1 : Nat), .int .i64 (x.1.2 : Nat)]
def vals {n : Nat} (l : List (NdI n)) : List (Nat × Nat) := l.map Subtype.val
theorem vals_snoc {n : Nat} (l : List (NdI n)) (x : NdI n) : vals (l ++ [x]) = vals l ++ [x.1] := by simp [vals]
theorem allT_yes {N : List TN} {dm : Int} (h : isT N dm = true) : allT N dm = seqT N (N.length + 1) 0 0 := by unfold allT; rw [if_pos h]
theorem allT_no {N : List TN} {dm : Int} (h : isT N dm = false) : allT N dm = [] := by unfold allT; rw [h]; rfl
set_option maxRecDepth 100000 in
set_option maxHeartbeats 2000000 in
theorem nodes_stops (n : Nat) (hn1 : 1 ≤ n) (N : List TN) (dim : Int) (A : Option Addr) (c n₀ b1 : Nat) (w : World) (hA : LiesT w n₀ A N) (hn : n₀ ≤ w.heap.size) (hb1 : Box w b1 #[.int .i64 dim, .slice A N.length c] 24) (ho : okT N) (hN : N.length ≤ 1000) :
    SeqStopsK Fence.wide n Try.prog 117 #[.pointer (some ⟨b1, 0, none⟩)] (encT (n := N.length)) (KpW n₀ b1) (fun ys => vals ys = allT N dim) (fun pre => vals pre <+: allT N dim) N.length w := fun l J' Jx' W hW hJ' hJx hY' h0' => by
  obtain ⟨J, hJd⟩ : ∃ J : List (Nat × Nat) → World → Prop, J = fun pre W => ∃ q : List (NdI N.length), vals q = pre ∧ J' q W := ⟨_, rfl⟩
  obtain ⟨Jx, hJxd⟩ : ∃ Jx : List (Nat × Nat) → World → Prop, Jx = fun pre W => ∃ q : List (NdI N.length), vals q = pre ∧ Jx' q W := ⟨_, rfl⟩
  have hJ : AbidesFrom W.heap.size J := by
    rw [hJd]
    rintro s W1 W2 row ⟨q, hq, hj⟩ hg hr
    exact ⟨q, hq, hJ' q W1 W2 row hj hg hr⟩
  have h0 : J [] W := by rw [hJd]; exact ⟨[], rfl, h0'⟩
  have hY : ∀ pre (x : Nat × Nat) W1, J pre W1 → pre.length < N.length → x.1 < N.length ∧ x.2 ≤ 2000 → YieldAt Fence.wide (n - 1) Try.prog l #[.int .i64 (x.1 : Nat), .int .i64 (x.2 : Nat)] W1 fun e W' =>
      (e = .returned (.bool true) ∧ J (pre ++ [x]) W' ∧ KpW n₀ b1 W1 W') ∨ (e = .returned (.bool false) ∧ Jx (pre ++ [x]) W') := by
    intro pre x W1 hj hl hx
    rw [hJd] at hj
    obtain ⟨q, hq, hj⟩ := hj
    obtain ⟨fn, tmps, assign, body, hy, hR⟩ := hY' q ⟨x, hx⟩ W1 hj (by have := congrArg List.length hq; unfold vals at this; rw [List.length_map] at this; omega)
    refine ⟨fn, tmps, assign, body, hy, hR.mono ?_⟩
    rintro e W' (⟨he, h1, h2⟩ | ⟨he, h1⟩)
    · refine .inl ⟨he, ?_, h2⟩
      rw [hJd]
      exact ⟨q ++ [⟨x, hx⟩], by rw [vals_snoc, hq], h1⟩
    · refine .inr ⟨he, ?_⟩
      rw [hJxd]
      exact ⟨q ++ [⟨x, hx⟩], by rw [vals_snoc, hq], h1⟩
  have HJD := Lib.hid (fun pre W (h : J pre W) => show ∃ q : List (NdI N.length), vals q = pre ∧ J' q W by rw [hJd] at h; exact h)
  have HJXD := Lib.hid (fun pre W (h : Jx pre W) => show ∃ q : List (NdI N.length), vals q = pre ∧ Jx' q W by rw [hJxd] at h; exact h)
  clear hY' hJ' h0' hJx hJd hJxd
  have HB1 : Hid (Box W b1 #[.int .i64 dim, .slice A N.length c] 24) := hb1.below hW hb1.lt
  have HBW : Hid (Below n₀ w W) := hW.mono hn
  have hsz : n₀ ≤ W.heap.size := Nat.le_trans hn hW.size
  have KI := Lib.hid (fun W' (h : Below n₀ w W') => tree_isT N dim A c W'.heap.size W' (by omega) ho ((hA.below h).mono (Nat.le_trans hn h.size)) (Nat.le_refl _))
  have KV := Lib.hid (fun W' b2 b3 (hv : VI n₀ b1 b2 b3 l dim A N.length c w W') (hs : isT N dim = true) (h : J [] W') => by
    obtain ⟨_, _, _, d0, s0, _⟩ := isT_iff.1 hs
    have hd0 := s0.deep
    exact visit_in N dim dim A c n₀ b1 b2 b3 l (n - 1) W.heap.size w hA hN J Jx hJ hY (N.length + 1) 0 N.length d0 0 [] W' s0 (by omega) (by omega) rfl hv h)
  have HJB := Lib.hid (fun (s : List (Nat × Nat)) (W W' : World) (h : J s W) (hb : Below W.heap.size W W') => abides_below hJ h hb)
  have H0 := Lib.hid h0
  obtain ⟨y0, y1⟩ := box_cut HB1.out
  obtain ⟨W2, hW2⟩ : ∃ W2, W2 = (W.alloc (.cells #[.func (.yield l) #[] #[]] 73)).alloc (.cells #[(.func (.func 118) #[] #[.pointer (some ⟨W.heap.size, 0, none⟩), .pointer (some ⟨b1, 0, none⟩), .pointer (some ⟨W.heap.size + 1, 0, none⟩)])] 73) := ⟨_, rfl⟩
  have HB2 : Hid (Below W.heap.size W W2) := by
    show Below _ _ _
    rw [hW2]
    exact ((Below.refl _ _).alloc (Nat.le_refl _) _).alloc (by rw [alloc_size']; omega) _
  have HV2 : Hid (VI n₀ b1 W.heap.size (W.heap.size + 1) l dim A N.length c w W2) := by
    refine ⟨HBW.out.trans (HB2.out.mono hsz), Nat.le_trans hsz HB2.out.size, HB1.out.below HB2.out HB1.out.lt, ?_, ?_⟩
    · rw [hW2]
      exact (Box.new W _ _).alloc _
    · rw [hW2]
      have := Box.new (W.alloc (.cells #[.func (.yield l) #[] #[]] 73)) #[(.func (.func 118) #[] #[.pointer (some ⟨W.heap.size, 0, none⟩), .pointer (some ⟨b1, 0, none⟩), .pointer (some ⟨W.heap.size + 1, 0, none⟩)])] 73
      rw [alloc_size'] at this
      exact this
  obtain ⟨y2, y3⟩ := box_cut HV2.out.tree
  rw [hW2] at y2 y3
  refine callsIn_of_wp Try.func117 rfl trivial ?_ rfl
  simp only [Try.ntmps117, List.size_toArray, List.length_cons, List.length_nil, Nat.reduceAdd, Nat.reduceSub, Array.replicate_succ, Array.replicate_zero, List.push_toArray, List.append_toArray, List.nil_append, List.cons_append]
  gi_wp2_with fail
  rw [← hW2]
  clear hW2 y0 y1 y2 y3
  refine ⟨trivial, ?_⟩
  refine (callsIn_wide.2 (KI.out _ HV2.out.below)).mono ?_
  rintro e W3 ⟨rfl, b3⟩
  have HV3 := Lib.hid (HV2.out.step b3)
  have HJ3 := Lib.hid (HJB.out _ _ _ H0.out (HB2.out.trans (b3.mono HB2.out.size)))
  clear b3
  cases hT : isT N dim with
  | false =>
    have HAT := Lib.hid (allT_no hT)
    gi_wp2
    go_end0
    obtain ⟨q, hq, hj⟩ := HJD.out _ _ HJ3.out
    exact ⟨⟨_, rfl⟩, .inl ⟨q, by rw [hq]; exact HAT.out.symm, hj⟩⟩
  | true =>
    have HAT := Lib.hid (allT_yes hT)
    have hcv := HV3.out.vis.cell
    have KV2 := Lib.hid (KV.out W3 _ _ HV3.out hT HJ3.out)
    gi_wp2_with fail
    refine ⟨trivial, ?_⟩
    refine (callsIn_wide.2 KV2.out).mono ?_
    rintro e W4 (⟨rfl, j4, k4⟩ | ⟨rfl, q, hq, jx⟩)
    · gi_wp2
      go_end0
      obtain ⟨q, hq, hj⟩ := HJD.out _ _ j4
      exact ⟨⟨_, rfl⟩, .inl ⟨q, by rw [hq, HAT.out]; rfl, hj⟩⟩
    · gi_wp2
      go_end0
      obtain ⟨q', hq', hj⟩ := HJXD.out _ _ jx
      exact ⟨⟨_, rfl⟩, .inr ⟨q', by rw [hq', HAT.out]; exact hq, hj⟩⟩
theorem nodes_at (dim : Int) (A : Option Addr) (n c : Nat) (w : World) : Calls Try.prog 88 #[.agg #[.int .i64 dim, .slice A n c]] w fun e w' => e = .returned (.func (.func 117) #[] #[.pointer (some ⟨w.heap.size, 0, none⟩)]) ∧ w' = w.alloc (.cells #[.int .i64 dim, .slice A n c] 24) := by
  go_enter Try.func88, Try.ntmps88
  go_wp2
  go_ret
  exact ⟨by simp, rfl⟩
end Go.Proofs.Ytkkeejbgaaodeaa
