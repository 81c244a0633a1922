/- RegI WalA WalB -/
import Derived.Test.YtdcemcpcjdkpjaaBase
import Derived.OrdersIn
import Derived.RangeFuncNested
import Derived.RangeFuncBound
import Derived.RangeFuncCalls
import Derived.RangeFuncLeaves
import Derived.RangeFuncBox
import Derived.Shelf.Abstract
import Derived.WalkKit
import Derived.OwnWalkIn
import Derived.TacticsInMore
import Derived.LoopNIn
import Derived.LoopIn
import Derived.Maps.AppendAt
import Derived.Test.YtdcemcpcjdkpjaaTreeJ
import Derived.Laws.EntriesVeiled
/-! A drawn region inside a fence, walked with an invariant over what is done. -/
namespace Go.Proofs.Ytdcemcpcjdkpjaa
open Go.RowKit
set_option linter.unusedVariables false
set_option linter.unusedSimpArgs false

section
variable {F : Fence} {n0 : Nat} {P : Program} {ops : Array Oper} {Q : Exit → Act → World → Prop}
/-- the i-th operation, whatever was carried out before it: what is to be shown of it -/
def RegStepI (F : Fence) (n0 : Nat) (P : Program) (ops : Array Oper) (Q : Exit → Act → World → Prop) (J : (Nat → Bool) → List Value → World → Prop) (a0 : Act) (i : Nat) (o : Oper) : Prop :=
  ∀ (f : Nat → Bool) (vs : List Value) (w : World), vs.length = ops.size → f i = false → (∀ j ∈ hangsOn ops i, f j = true) → J f vs w →
    ∀ K : Act → World → Prop, (∀ v w', J (fun k => if k = i then true else f k) (vs.set i v) w' → K (putAll ops.toList (vs.set i v) a0) w') →
      if Region.wanted o (yielded ops (putAll ops.toList vs a0).tmps) = true then Oper.wpIn F n0 P o (putAll ops.toList vs a0) w K Q else (∀ f, o.about P w (putAll ops.toList vs a0).eval = some f → F.fn f) ∧ K (putAll ops.toList (vs.set i undef) a0) w

theorem wpAnyIn_inv {a0 : Act} {J : (Nat → Bool) → List Value → World → Prop} (hap : dstApart ops.toList = true) (hbk : backward ops = true)
    (hst : ∀ i o, ops[i]? = some o → RegStepI F n0 P ops Q J a0 i o)
    (hQ : ∀ vs w, vs.length = ops.size → J (fun _ => true) vs w → Q .normal (putAll ops.toList vs a0) w)
    (hJ : ∀ f g vs w, (∀ k, k < ops.size → f k = g k) → J f vs w → J g vs w) :
    ∀ (fuel : Nat) (L : Array Bool) (vs : List Value) (w : World), L.size = ops.size → L.toList.countP (fun b => b == false) ≤ fuel → vs.length = ops.size → J (fun k => L.getD k false) vs w →
      wpAnyIn F n0 P .any ops Q fuel L (putAll ops.toList vs a0) w := by
  intro fuel
  -- nothing is ready only where all is done
  have hfull : ∀ L : Array Bool, L.size = ops.size → Region.ready .any ops L = [] → ∀ k, k < ops.size → L.getD k false = true := by
    intro L hL hr k
    induction k using Nat.strongRecOn with
    | _ k ih =>
      intro hk
      cases hb : L.getD k false with
      | true => rfl
      | false =>
        exfalso
        have hmem : k ∈ Region.ready .any ops L := by
          unfold Region.ready
          simp only [List.mem_filter, List.mem_range]
          refine ⟨hk, ?_⟩
          have h1 : L.getD k true = false := by
            rw [Array.getD_eq_getD_getElem?, Array.getElem?_eq_getElem (by omega)] at hb ⊢
            exact hb
          rw [h1, Array.getElem?_eq_getElem hk]
          simp only [Bool.not_false, Bool.true_and, Option.map_some, Option.getD_some]
          rw [Array.all_eq_true']
          intro e he
          cases hbi : Region.binds .any e with
          | false => rfl
          | true =>
            have hin : e.on ∈ hangsOn ops k := by
              unfold hangsOn
              rw [Array.getElem?_eq_getElem hk]
              exact List.mem_map.2 ⟨e, List.mem_filter.2 ⟨by simpa using he, hbi⟩, rfl⟩
            have hlt : e.on < k := by
              unfold backward at hbk
              rw [List.all_eq_true] at hbk
              have := hbk k (List.mem_range.2 hk)
              rw [List.all_eq_true] at this
              exact of_decide_eq_true (this _ hin)
            simp [ih e.on hlt (by omega)]
        rw [hr] at hmem
        cases hmem
  have hend : ∀ (L : Array Bool) (vs : List Value) (w : World), L.size = ops.size → vs.length = ops.size → J (fun k => L.getD k false) vs w → Region.ready .any ops L = [] → Q .normal (putAll ops.toList vs a0) w := by
    intro L vs w hL hv hj hr
    exact hQ vs w hv (hJ _ _ vs w (fun k hk => hfull L hL hr k hk) hj)
  induction fuel with
  | zero =>
    intro L vs w hL hc hv hj
    have hr : Region.ready .any ops L = [] := by
      rw [List.eq_nil_iff_forall_not_mem]
      intro i hi
      unfold Region.ready at hi
      simp only [List.mem_filter, List.mem_range, Bool.and_eq_true, Bool.not_eq_true'] at hi
      have h0 : L.toList.countP (fun b => b == false) = 0 := by omega
      rw [List.countP_eq_zero] at h0
      have h1 : L.getD i true = false := hi.2.1
      rw [Array.getD_eq_getD_getElem?, Array.getElem?_eq_getElem (by omega)] at h1
      have := h0 L[i] (by simp)
      simp at h1
      simp [h1] at this
    exact ⟨hr, hend L vs w hL hv hj hr⟩
  | succ fuel ih =>
    intro L vs w hL hc hv hj
    refine ⟨hend L vs w hL hv hj, fun i hi => ?_⟩
    unfold Region.ready at hi
    simp only [List.mem_filter, List.mem_range, Bool.and_eq_true, Bool.not_eq_true'] at hi
    obtain ⟨hlt, hnot, hpre⟩ := hi
    have ho : ops[i]? = some ops[i] := Array.getElem?_eq_getElem hlt
    rw [ho] at hpre
    simp only [Option.map_some, Option.getD_some] at hpre
    rw [Array.all_eq_true'] at hpre
    have hf : L.getD i false = false := by
      rw [Array.getD_eq_getD_getElem?, Array.getElem?_eq_getElem (by omega)] at hnot ⊢
      exact hnot
    have h := hst i ops[i] ho (fun k => L.getD k false) vs w hv hf (by
      intro j hj'
      unfold hangsOn at hj'
      rw [ho] at hj'
      obtain ⟨e, he, rfl⟩ := List.mem_map.1 hj'
      obtain ⟨he1, he2⟩ := List.mem_filter.1 he
      have := hpre e (by simpa using he1)
      rw [he2] at this
      simpa using this) hj
    have hL2 : (L.setIfInBounds i true).size = ops.size := by simp [hL]
    have hc2 : (L.setIfInBounds i true).toList.countP (fun b => b == false) ≤ fuel := by
      rw [Array.toList_setIfInBounds]
      have h1 : L.toList[i]? = some false := by
        rw [Array.getD_eq_getD_getElem?, Array.getElem?_eq_getElem (by omega)] at hf
        rw [Array.getElem?_toList, Array.getElem?_eq_getElem (by omega)]
        simpa using hf
      have : (L.toList.set i true).countP (fun b => b == false) + 1 = L.toList.countP (fun b => b == false) := by
        have hil : i < L.toList.length := by simp; omega
        rw [List.countP_set hil]
        have hli : L.toList[i] = false := by rw [List.getElem?_eq_getElem hil] at h1; simpa using h1
        have hpos : 0 < L.toList.countP (fun b => b == false) := List.countP_pos_iff.2 ⟨false, by rw [← hli]; exact List.getElem_mem hil, by simp⟩
        rw [hli]
        show L.toList.countP (fun b => b == false) - 1 + 0 + 1 = _
        omega
      omega
    have key : ∀ (v : Value) (w' : World), J (fun k => if k = i then true else L.getD k false) (vs.set i v) w' → wpAnyIn F n0 P .any ops Q fuel (L.setIfInBounds i true) (putAll ops.toList (vs.set i v) a0) w' := by
      intro v w' hj'
      refine ih _ _ w' hL2 hc2 (by simp [hv]) (hJ _ _ _ _ (fun k hk => ?_) hj')
      simp only [Array.getD_eq_getD_getElem?]
      rw [Array.getElem?_setIfInBounds]
      by_cases hki : i = k
      · subst hki; simp [hL, hlt]
      · rw [if_neg hki, if_neg (Ne.symm hki)]
    have h2 := h _ key
    unfold wpOpIn
    rw [ho]
    dsimp only
    rw [putAll_set ops.toList vs a0 i ops[i] undef hap (by rw [Array.getElem?_toList]; exact ho) (by omega)]
    exact h2

theorem wpIn_region_inv {id : Nat} {a0 : Act} {w : World} (J : (Nat → Bool) → List Value → World → Prop) (hm : P.follows .mixedOrders = true)
    (hap : dstApart ops.toList = true) (hbk : backward ops = true)
    (hJ : ∀ f g vs w, (∀ k, k < ops.size → f k = g k) → J f vs w → J g vs w)
    (h0 : ∀ vs, vs.length = ops.size → J (fun _ => false) vs w.drew)
    (hst : ∀ i o, ops[i]? = some o → RegStepI F n0 P ops Q J a0 i o)
    (hQ : ∀ vs w, vs.length = ops.size → J (fun _ => true) vs w → Q .normal (putAll ops.toList vs a0) w) :
    (Code.region id ops true).wpIn F n0 P Q a0 w := by
  refine wpIn_region_any hm ?_
  obtain ⟨vs, hv, he⟩ := putAll_start ops.toList a0
  have := wpAnyIn_inv (F := F) (n0 := n0) (P := P) hap hbk hst hQ hJ ops.size (Array.replicate ops.size false) vs w.drew (by simp) (by
    refine Nat.le_trans List.countP_le_length ?_
    simp) (by simpa using hv) (hJ _ _ _ _ (fun k hk => by rw [Array.getD_eq_getD_getElem?]; simp [hk]) (h0 vs (by simpa using hv)))
  rw [he] at this
  exact this

/-- the same, operation by operation: what each hangs on is written out -/
def StepAtI (F : Fence) (n0 : Nat) (P : Program) (ops : Array Oper) (Q : Exit → Act → World → Prop) (J : (Nat → Bool) → List Value → World → Prop) (a0 : Act) (i : Nat) (o : Oper) (p : List Nat) : Prop :=
  ∀ (f : Nat → Bool) (vs : List Value) (w : World), vs.length = ops.size → f i = false → (∀ j ∈ p, f j = true) → J f vs w →
    ∀ K : Act → World → Prop, (∀ v w', J (fun k => if k = i then true else f k) (vs.set i v) w' → K (putAll ops.toList (vs.set i v) a0) w') →
      if Region.wanted o (yielded ops (putAll ops.toList vs a0).tmps) = true then Oper.wpIn F n0 P o (putAll ops.toList vs a0) w K Q else (∀ f, o.about P w (putAll ops.toList vs a0).eval = some f → F.fn f) ∧ K (putAll ops.toList (vs.set i undef) a0) w
def StepsI (F : Fence) (n0 : Nat) (P : Program) (ops : Array Oper) (Q : Exit → Act → World → Prop) (J : (Nat → Bool) → List Value → World → Prop) (a0 : Act) : Nat → List Oper → List (List Nat) → Prop
  | i, o :: os, p :: ps => StepAtI F n0 P ops Q J a0 i o p ∧ StepsI F n0 P ops Q J a0 (i + 1) os ps
  | _, [], [] => True
  | _, _, _ => False
theorem steps_atI {J : (Nat → Bool) → List Value → World → Prop} {a0 : Act} : ∀ (os : List Oper) (ps : List (List Nat)) (n : Nat), StepsI F n0 P ops Q J a0 n os ps → ∀ (k : Nat) (o : Oper), os[k]? = some o → ∃ p, ps[k]? = some p ∧ StepAtI F n0 P ops Q J a0 (n + k) o p := by
  intro os
  induction os with
  | nil => intro ps n _ k o h; simp at h
  | cons x os ih =>
    intro ps n h k o hk
    cases ps with
    | nil => exact h.elim
    | cons p ps =>
      cases k with
      | zero =>
        obtain rfl : x = o := by simpa using hk
        exact ⟨p, rfl, h.1⟩
      | succ k =>
        obtain ⟨q, hq, hs⟩ := ih ps (n + 1) h.2 k o (by simpa using hk)
        exact ⟨q, by simpa using hq, by rw [show n + (k + 1) = n + 1 + k by omega]; exact hs⟩
theorem wpIn_region_steps {id : Nat} {a0 : Act} {w : World} (J : (Nat → Bool) → List Value → World → Prop) (pre : List (List Nat)) (hm : P.follows .mixedOrders = true)
    (hap : dstApart ops.toList = true) (hbk : backward ops = true) (hpre : (List.range ops.size).map (hangsOn ops) = pre)
    (hJ : ∀ f g vs w, (∀ k, k < ops.size → f k = g k) → J f vs w → J g vs w)
    (h0 : ∀ vs, vs.length = ops.size → J (fun _ => false) vs w.drew)
    (hst : StepsI F n0 P ops Q J a0 0 ops.toList pre)
    (hQ : ∀ vs w, vs.length = ops.size → J (fun _ => true) vs w → Q .normal (putAll ops.toList vs a0) w) :
    (Code.region id ops true).wpIn F n0 P Q a0 w := by
  refine wpIn_region_inv J hm hap hbk hJ h0 (fun i o ho => ?_) hQ
  obtain ⟨p, hp, hs⟩ := steps_atI ops.toList pre 0 hst i o (by rw [Array.getElem?_toList]; exact ho)
  rw [Nat.zero_add] at hs
  intro f vs w hl hf hj
  refine hs f vs w hl hf (fun j hjp => hj j ?_)
  have hi : i < ops.size := by
    rcases Nat.lt_or_ge i ops.size with h | h
    · exact h
    · rw [Array.getElem?_eq_none h] at ho; cases ho
  rw [← hpre, List.getElem?_map, List.getElem?_range hi] at hp
  obtain rfl : hangsOn ops i = p := by simpa using hp
  exact hjp
end
end Go.Proofs.Ytdcemcpcjdkpjaa
/-! Package walk: the nodes of a tree in their order, by an iterator that calls itself. -/
namespace Go.Proofs.Ytdcemcpcjdkpjaa
open Go.RowKit Go.Shelf Go.Maps
set_option linter.unusedVariables false
set_option linter.unusedSimpArgs false
attribute [local go_sem] Oper.semAt_some

/-- the nodes of a subtree, and their depths -/
def seqT (N : List TN) : Nat → Nat → Nat → List (Nat × Nat)
  | 0, _, _ => []
  | f + 1, i, dep => (i, dep) :: (if (N.getD i tn0).lf = 0 then [] else seqT N f (N.getD i tn0).lf.toNat (dep + 1) ++ seqT N f (N.getD i tn0).rt.toNat (dep + 1))
theorem seqT_leaf {N : List TN} {f i dep : Nat} (h : (N.getD i tn0).lf = 0) : seqT N (f + 1) i dep = [(i, dep)] := by
  rw [seqT, if_pos h]
theorem seqT_inner {N : List TN} {f i dep : Nat} (h : ¬ (N.getD i tn0).lf = 0) : seqT N (f + 1) i dep = (i, dep) :: (seqT N f (N.getD i tn0).lf.toNat (dep + 1) ++ seqT N f (N.getD i tn0).rt.toNat (dep + 1)) := by
  rw [seqT, if_neg h]
theorem seqT_len {N : List TN} {dm : Int} {i e d : Nat} (h : Sub N dm i e d) : ∀ f dep, d < f → (seqT N f i dep).length = e - i := by
  induction h with
  | @leaf i hi hl =>
    intro f dep hf
    obtain ⟨g, rfl⟩ : ∃ g, f = g + 1 := ⟨f - 1, by omega⟩
    rw [seqT_leaf hl.1]
    simp
  | @inner i m e d1 d2 hi hl hr hc h1 h2 hs ih1 ih2 =>
    intro f dep hf
    have l1 := h1.lt
    have l2 := h2.lt
    obtain ⟨g, rfl⟩ : ∃ g, f = g + 1 := ⟨f - 1, by omega⟩
    rw [seqT_inner (by omega), hl, hr, show ((i : Int) + 1).toNat = i + 1 from by omega, Int.toNat_natCast, List.length_cons, List.length_append, ih1 g (dep + 1) (by omega), ih2 g (dep + 1) (by omega)]
    omega
/-- all nodes of a tree, and their depths -/
def allT (N : List TN) (dm : Int) : List (Nat × Nat) := if isT N dm = true then seqT N (N.length + 1) 0 0 else []
theorem round_any {n m : Nat} {P : Program} {l : Nat} {f : FuncId} {tmps : Array Value} {assign body : Code} {w : World} {R : Ending → World → Prop} (h : RoundIn Fence.wide n P l f tmps assign body w R) : RoundIn Fence.wide m P l f tmps assign body w R :=
  ⟨h.1, fun c cs _ => h.2 c cs (room_wide _)⟩
theorem grown_none {W W' : World} (h : Below W.heap.size W W') : W.grownBy W' none := ⟨h.os, h.tape, h.output, h.size, fun k hk _ => h.block k hk⟩
theorem abides_below {β : Type} {B : Nat} {J : β → World → Prop} (hJ : AbidesFrom B J) {s : β} {W W' : World} (h : J s W) (hb : Below W.heap.size W W') : J s W' := hJ s W W' none h (grown_none hb) (fun r e => by cases e)
end Go.Proofs.Ytdcemcpcjdkpjaa
/-! Package walk: Nodes. -/
namespace Go.Proofs.Ytdcemcpcjdkpjaa
open Go.RowKit Go.Shelf Go.Maps
set_option linter.unusedVariables false
set_option linter.unusedSimpArgs false
attribute [local go_sem] Oper.semAt_some

/-- a node's index and its depth -/
abbrev NdI (n : Nat) : Type := { x : Nat × Nat // x.1 < n ∧ x.2 ≤ 2000 }
abbrev encT {n : Nat} (x : NdI n) : Array Value := #[.int .i64 (x.1.1 : Nat), .int .i64 (x.1.2 : Nat)]
def vals {n : Nat} (l : List (NdI n)) : List (Nat × Nat) := l.map Subtype.val
theorem vals_snoc {n : Nat} (l : List (NdI n)) (x : NdI n) : vals (l ++ [x]) = vals l ++ [x.1] := by simp [vals]
theorem allT_yes {N : List TN} {dm : Int} (h : isT N dm = true) : allT N dm = seqT N (N.length + 1) 0 0 := by unfold allT; rw [if_pos h]
theorem allT_no {N : List TN} {dm : Int} (h : isT N dm = false) : allT N dm = [] := by unfold allT; rw [h]; rfl
end Go.Proofs.Ytdcemcpcjdkpjaa
