/- A region that draws its order, walked with an invariant: each operation once, whatever was carried out before it. -/
import Derived.Test.YtbnpbflndnjmcaaDoorMem
import Derived.RegionTactic
import Derived.Deep.RegionWith
import Derived.Deep.Heap
namespace Go.Proofs.YtbnpbflndnjmcaaDoor
open Go.RowKit

abbrev ptr (g i : Nat) : Value := .pointer (some ⟨g, i, none⟩)
theorem Box.off {w : World} {g : Nat} {cs : Array Value} {t : TypeId} (h : Box w g cs t) {p : Addr} (hp : p.block ≠ g) (u : Value) : Box (w.setCell p u) g cs t :=
  (Go.Deep.blk_setCell_other w p u g (Ne.symm hp)).trans h
theorem Box.set {w : World} {g : Nat} {cs : Array Value} {t : TypeId} (h : Box w g cs t) (i : Nat) (u : Value) : Box (w.setCell ⟨g, i, none⟩ u) g (cs.setIfInBounds i u) t := by
  unfold Box at h ⊢
  simp [World.setCell, Array.getElem?_modify, h]
theorem Box.set2 {w : World} {g : Nat} {a b : Value} {t : TypeId} (h : Box w g #[a, b] t) (u v : Value) : Box ((w.setCell ⟨g, 0, none⟩ u).setCell ⟨g, 1, none⟩ v) g #[u, v] t := (h.set 0 u).set 1 v
theorem Box.off2 {w : World} {g k : Nat} {cs : Array Value} {t : TypeId} (h : Box w g cs t) (hk : k ≠ g) (u v : Value) : Box ((w.setCell ⟨k, 0, none⟩ u).setCell ⟨k, 1, none⟩ v) g cs t := (h.off hk u).off hk v
theorem keep_off1 {w : World} {g1 g3 : Nat} {a b x y : Value} (h1 : g1 ≠ g3) (h : w.cell? ⟨g1, 0, none⟩ = some a ∧ w.cell? ⟨g1, 1, none⟩ = some b) :
    ((w.setCell ⟨g3, 0, none⟩ x).setCell ⟨g3, 1, none⟩ y).cell? ⟨g1, 0, none⟩ = some a ∧ ((w.setCell ⟨g3, 0, none⟩ x).setCell ⟨g3, 1, none⟩ y).cell? ⟨g1, 1, none⟩ = some b := by
  have k : ∀ i : Nat, ((w.setCell ⟨g3, 0, none⟩ x).setCell ⟨g3, 1, none⟩ y).cell? ⟨g1, i, none⟩ = w.cell? ⟨g1, i, none⟩ := by
    intro i
    rw [World.cell?_setCell_other _ ⟨g3, 1, none⟩ ⟨g1, i, none⟩ y (by simp <;> omega), World.cell?_setCell_other _ ⟨g3, 0, none⟩ ⟨g1, i, none⟩ x (by simp <;> omega)]
  rw [k, k]
  exact h
theorem lenS {vs : List Value} {n : Nat} (h : vs.length = n + 1) : ∃ y r, vs = y :: r ∧ r.length = n := by
  cases vs with
  | nil => simp at h
  | cons y r => exact ⟨y, r, rfl, by simpa using h⟩
theorem len10 {vs : List Value} (h : vs.length = 10) : ∃ y0 y1 y2 y3 y4 y5 y6 y7 y8 y9, vs = [y0, y1, y2, y3, y4, y5, y6, y7, y8, y9] := by
  obtain ⟨y0, r0, e0, h0⟩ := lenS h
  obtain ⟨y1, r1, e1, h1⟩ := lenS h0
  obtain ⟨y2, r2, e2, h2⟩ := lenS h1
  obtain ⟨y3, r3, e3, h3⟩ := lenS h2
  obtain ⟨y4, r4, e4, h4⟩ := lenS h3
  obtain ⟨y5, r5, e5, h5⟩ := lenS h4
  obtain ⟨y6, r6, e6, h6⟩ := lenS h5
  obtain ⟨y7, r7, e7, h7⟩ := lenS h6
  obtain ⟨y8, r8, e8, h8⟩ := lenS h7
  obtain ⟨y9, r9, e9, h9⟩ := lenS h8
  exact ⟨y0, y1, y2, y3, y4, y5, y6, y7, y8, y9, by rw [e0, e1, e2, e3, e4, e5, e6, e7, e8, e9, List.eq_nil_of_length_eq_zero h9]⟩
def putAll : List Oper → List Value → Act → Act
  | o :: os, v :: vs, a => putAll os vs (a.put o.dst v)
  | _, _, a => a
/-- no two operations write one slot -/
def dstApart : List Oper → Bool
  | [] => true
  | o :: os => (match o.dst with | none => true | some d => os.all fun p => p.dst != some d) && dstApart os
theorem put_comm (a : Act) (d e : Option Tmp) (u v : Value) (h : ∀ x, d = some x → e ≠ some x) : (a.put d u).put e v = (a.put e v).put d u := by
  cases d with
  | none => rfl
  | some d =>
    cases e with
    | none => rfl
    | some e =>
      have hne : d ≠ e := fun hc => h d rfl (by rw [hc])
      simp only [Act.put]
      rw [Array.setIfInBounds_comm _ _ hne]
theorem put_again (a : Act) (d : Option Tmp) (u v : Value) : (a.put d u).put d v = a.put d v := by
  cases d with
  | none => rfl
  | some d => simp [Act.put]
theorem putAll_put : ∀ (os : List Oper) (vs : List Value) (a : Act) (d : Option Tmp) (u : Value), (∀ x, d = some x → ∀ o ∈ os, o.dst ≠ some x) → (putAll os vs a).put d u = putAll os vs (a.put d u) := by
  intro os
  induction os with
  | nil => intro vs a d u _; rfl
  | cons o os ih =>
    intro vs a d u h
    cases vs with
    | nil => rfl
    | cons v vs =>
      show (putAll os vs (a.put o.dst v)).put d u = putAll os vs ((a.put d u).put o.dst v)
      rw [ih _ _ _ _ fun x hx p hp => h x hx p (List.mem_cons_of_mem _ hp), put_comm _ o.dst d v u]
      intro x hx hd
      exact h x hd o List.mem_cons_self hx
theorem putAll_set : ∀ (os : List Oper) (vs : List Value) (a : Act) (i : Nat) (o : Oper) (v : Value), dstApart os = true → os[i]? = some o → i < vs.length → (putAll os vs a).put o.dst v = putAll os (vs.set i v) a := by
  intro os
  induction os with
  | nil => intro vs a i o v _ h; simp at h
  | cons p os ih =>
    intro vs a i o v ha h hi
    cases vs with
    | nil => simp at hi
    | cons u vs =>
      simp only [dstApart, Bool.and_eq_true] at ha
      cases i with
      | zero =>
        obtain rfl : p = o := by simpa using h
        show (putAll os vs (a.put p.dst u)).put p.dst v = putAll os vs (a.put p.dst v)
        rw [putAll_put os vs _ _ _ ?_, put_again]
        intro x hx q hq
        have := ha.1
        rw [hx] at this
        simp only [List.all_eq_true, bne_iff_ne] at this
        exact this q hq
      | succ i =>
        show (putAll os vs (a.put p.dst u)).put o.dst v = putAll os (vs.set i v) (a.put p.dst u)
        exact ih vs _ i o v ha.2 (by simpa using h) (by simpa using hi)
theorem putAll_start : ∀ (os : List Oper) (a : Act), ∃ vs, vs.length = os.length ∧ putAll os vs a = a := by
  intro os
  induction os with
  | nil => intro a; exact ⟨[], rfl, rfl⟩
  | cons o os ih =>
    intro a
    obtain ⟨vs, hl, hv⟩ := ih a
    cases hd : o.dst with
    | none => exact ⟨undef :: vs, by simp [hl], by simp only [putAll, hd, Act.put]; exact hv⟩
    | some d =>
      refine ⟨a.tmps.getD d undef :: vs, by simp [hl], ?_⟩
      have : a.put (some d) (a.tmps.getD d undef) = a := by
        simp only [Act.put]
        have : a.tmps.setIfInBounds d (a.tmps.getD d undef) = a.tmps := by
          apply Array.ext_getElem?
          intro i
          rw [Array.getElem?_setIfInBounds]
          split
          · rename_i h; subst h
            split
            · rename_i h2; rw [Array.getElem?_eq_getElem h2]; rfl
            · rename_i h2; rw [Array.getElem?_eq_none (by omega)]
          · rfl
        rw [this]
      simp only [putAll, hd]
      rw [this]; exact hv

/-- what operation i hangs on -/
def hangsOn (ops : Array Oper) (i : Nat) : List Nat := match ops[i]? with | some o => (o.after.toList.filter fun e => Region.binds .any e).map (·.on) | none => []
def backward (ops : Array Oper) : Bool := (List.range ops.size).all fun i => (hangsOn ops i).all fun j => decide (j < i)

section
variable {P : Program} {ops : Array Oper} {Q : Exit → Act → World → Prop}
/-- the i-th operation, whatever was carried out before it: what is to be shown of it -/
def RegStep (P : Program) (ops : Array Oper) (Q : Exit → Act → World → Prop) (J : (Nat → Bool) → List Value → World → Prop) (a0 : Act) (i : Nat) (o : Oper) : Prop :=
  ∀ (f : Nat → Bool) (vs : List Value) (w : World), vs.length = ops.size → f i = false → (∀ j ∈ hangsOn ops i, f j = true) → J f vs w →
    ∀ K : Act → World → Prop, (∀ v w', J (fun k => if k = i then true else f k) (vs.set i v) w' → K (putAll ops.toList (vs.set i v) a0) w') →
      if Region.wanted o (yielded ops (putAll ops.toList vs a0).tmps) = true then Oper.wp P o (putAll ops.toList vs a0) w K Q else K (putAll ops.toList (vs.set i undef) a0) w

theorem wpAny_inv {a0 : Act} {J : (Nat → Bool) → List Value → World → Prop} (hap : dstApart ops.toList = true) (hbk : backward ops = true)
    (hst : ∀ i o, ops[i]? = some o → RegStep P ops Q J a0 i o)
    (hQ : ∀ vs w, vs.length = ops.size → J (fun _ => true) vs w → Q .normal (putAll ops.toList vs a0) w)
    (hJ : ∀ f g vs w, (∀ k, k < ops.size → f k = g k) → J f vs w → J g vs w) :
    ∀ (fuel : Nat) (L : Array Bool) (vs : List Value) (w : World), L.size = ops.size → L.toList.countP (fun b => b == false) ≤ fuel → vs.length = ops.size → J (fun k => L.getD k false) vs w →
      wpAny P .any ops Q fuel L (putAll ops.toList vs a0) w := by
  intro fuel
  -- nothing is ready only where all is done
  have hfull : ∀ L : Array Bool, L.size = ops.size → Region.ready .any ops L = [] → ∀ k, k < ops.size → L.getD k false = true := by
    intro L hL hr k
    induction k using Nat.strongRecOn with
    | _ k ih =>
      intro hk
      cases hb : L.getD k false with
      | true => rfl
      | false =>
        exfalso
        have hmem : k ∈ Region.ready .any ops L := by
          unfold Region.ready
          simp only [List.mem_filter, List.mem_range]
          refine ⟨hk, ?_⟩
          have h1 : L.getD k true = false := by
            rw [Array.getD_eq_getD_getElem?, Array.getElem?_eq_getElem (by omega)] at hb ⊢
            exact hb
          rw [h1, Array.getElem?_eq_getElem hk]
          simp only [Bool.not_false, Bool.true_and, Option.map_some, Option.getD_some]
          rw [Array.all_eq_true']
          intro e he
          cases hbi : Region.binds .any e with
          | false => rfl
          | true =>
            have hin : e.on ∈ hangsOn ops k := by
              unfold hangsOn
              rw [Array.getElem?_eq_getElem hk]
              exact List.mem_map.2 ⟨e, List.mem_filter.2 ⟨by simpa using he, hbi⟩, rfl⟩
            have hlt : e.on < k := by
              unfold backward at hbk
              rw [List.all_eq_true] at hbk
              have := hbk k (List.mem_range.2 hk)
              rw [List.all_eq_true] at this
              exact of_decide_eq_true (this _ hin)
            simp [ih e.on hlt (by omega)]
        rw [hr] at hmem
        cases hmem
  have hend : ∀ (L : Array Bool) (vs : List Value) (w : World), L.size = ops.size → vs.length = ops.size → J (fun k => L.getD k false) vs w → Region.ready .any ops L = [] → Q .normal (putAll ops.toList vs a0) w := by
    intro L vs w hL hv hj hr
    exact hQ vs w hv (hJ _ _ vs w (fun k hk => hfull L hL hr k hk) hj)
  induction fuel with
  | zero =>
    intro L vs w hL hc hv hj
    have hr : Region.ready .any ops L = [] := by
      rw [List.eq_nil_iff_forall_not_mem]
      intro i hi
      unfold Region.ready at hi
      simp only [List.mem_filter, List.mem_range, Bool.and_eq_true, Bool.not_eq_true'] at hi
      have h0 : L.toList.countP (fun b => b == false) = 0 := by omega
      rw [List.countP_eq_zero] at h0
      have h1 : L.getD i true = false := hi.2.1
      rw [Array.getD_eq_getD_getElem?, Array.getElem?_eq_getElem (by omega)] at h1
      have := h0 L[i] (by simp)
      simp at h1
      simp [h1] at this
    exact ⟨hr, hend L vs w hL hv hj hr⟩
  | succ fuel ih =>
    intro L vs w hL hc hv hj
    refine ⟨hend L vs w hL hv hj, fun i hi => ?_⟩
    unfold Region.ready at hi
    simp only [List.mem_filter, List.mem_range, Bool.and_eq_true, Bool.not_eq_true'] at hi
    obtain ⟨hlt, hnot, hpre⟩ := hi
    have ho : ops[i]? = some ops[i] := Array.getElem?_eq_getElem hlt
    rw [ho] at hpre
    simp only [Option.map_some, Option.getD_some] at hpre
    rw [Array.all_eq_true'] at hpre
    have hf : L.getD i false = false := by
      rw [Array.getD_eq_getD_getElem?, Array.getElem?_eq_getElem (by omega)] at hnot ⊢
      exact hnot
    have h := hst i ops[i] ho (fun k => L.getD k false) vs w hv hf (by
      intro j hj'
      unfold hangsOn at hj'
      rw [ho] at hj'
      obtain ⟨e, he, rfl⟩ := List.mem_map.1 hj'
      obtain ⟨he1, he2⟩ := List.mem_filter.1 he
      have := hpre e (by simpa using he1)
      rw [he2] at this
      simpa using this) hj
    have hL2 : (L.setIfInBounds i true).size = ops.size := by simp [hL]
    have hc2 : (L.setIfInBounds i true).toList.countP (fun b => b == false) ≤ fuel := by
      rw [Array.toList_setIfInBounds]
      have h1 : L.toList[i]? = some false := by
        rw [Array.getD_eq_getD_getElem?, Array.getElem?_eq_getElem (by omega)] at hf
        rw [Array.getElem?_toList, Array.getElem?_eq_getElem (by omega)]
        simpa using hf
      have : (L.toList.set i true).countP (fun b => b == false) + 1 = L.toList.countP (fun b => b == false) := by
        have hil : i < L.toList.length := by simp; omega
        rw [List.countP_set hil]
        have hli : L.toList[i] = false := by rw [List.getElem?_eq_getElem hil] at h1; simpa using h1
        have hpos : 0 < L.toList.countP (fun b => b == false) := List.countP_pos_iff.2 ⟨false, by rw [← hli]; exact List.getElem_mem hil, by simp⟩
        rw [hli]
        show L.toList.countP (fun b => b == false) - 1 + 0 + 1 = _
        omega
      omega
    have key : ∀ (v : Value) (w' : World), J (fun k => if k = i then true else L.getD k false) (vs.set i v) w' → wpAny P .any ops Q fuel (L.setIfInBounds i true) (putAll ops.toList (vs.set i v) a0) w' := by
      intro v w' hj'
      refine ih _ _ w' hL2 hc2 (by simp [hv]) (hJ _ _ _ _ (fun k hk => ?_) hj')
      simp only [Array.getD_eq_getD_getElem?]
      rw [Array.getElem?_setIfInBounds]
      by_cases hki : i = k
      · subst hki; simp [hL, hlt]
      · rw [if_neg hki, if_neg (Ne.symm hki)]
    refine wpOp_step ho fun K' hK' => ?_
    have h2 := h K' (fun v w' hj' => hK' _ _ (key v w' hj'))
    rw [putAll_set ops.toList vs a0 i ops[i] undef hap (by rw [Array.getElem?_toList]; exact ho) (by omega)]
    exact h2

theorem wp_region_inv {id : Nat} {a0 : Act} {w : World} (J : (Nat → Bool) → List Value → World → Prop) (hm : P.follows .mixedOrders = true)
    (hap : dstApart ops.toList = true) (hbk : backward ops = true)
    (hJ : ∀ f g vs w, (∀ k, k < ops.size → f k = g k) → J f vs w → J g vs w)
    (h0 : ∀ vs, vs.length = ops.size → J (fun _ => false) vs w.drew)
    (hst : ∀ i o, ops[i]? = some o → RegStep P ops Q J a0 i o)
    (hQ : ∀ vs w, vs.length = ops.size → J (fun _ => true) vs w → Q .normal (putAll ops.toList vs a0) w) :
    (Code.region id ops true).wp P Q a0 w := by
  refine wp_region_any hm ?_
  obtain ⟨vs, hv, he⟩ := putAll_start ops.toList a0
  have := wpAny_inv (P := P) hap hbk hst hQ hJ ops.size (Array.replicate ops.size false) vs w.drew (by simp) (by
    refine Nat.le_trans List.countP_le_length ?_
    simp) (by simpa using hv) (hJ _ _ _ _ (fun k hk => by rw [Array.getD_eq_getD_getElem?]; simp [hk]) (h0 vs (by simpa using hv)))
  rw [he] at this
  exact this

/-- the same, operation by operation: what each hangs on is written out -/
def StepAt (P : Program) (ops : Array Oper) (Q : Exit → Act → World → Prop) (J : (Nat → Bool) → List Value → World → Prop) (a0 : Act) (i : Nat) (o : Oper) (p : List Nat) : Prop :=
  ∀ (f : Nat → Bool) (vs : List Value) (w : World), vs.length = ops.size → f i = false → (∀ j ∈ p, f j = true) → J f vs w →
    ∀ K : Act → World → Prop, (∀ v w', J (fun k => if k = i then true else f k) (vs.set i v) w' → K (putAll ops.toList (vs.set i v) a0) w') →
      if Region.wanted o (yielded ops (putAll ops.toList vs a0).tmps) = true then Oper.wp P o (putAll ops.toList vs a0) w K Q else K (putAll ops.toList (vs.set i undef) a0) w
def Steps (P : Program) (ops : Array Oper) (Q : Exit → Act → World → Prop) (J : (Nat → Bool) → List Value → World → Prop) (a0 : Act) : Nat → List Oper → List (List Nat) → Prop
  | i, o :: os, p :: ps => StepAt P ops Q J a0 i o p ∧ Steps P ops Q J a0 (i + 1) os ps
  | _, [], [] => True
  | _, _, _ => False
theorem steps_at {J : (Nat → Bool) → List Value → World → Prop} {a0 : Act} : ∀ (os : List Oper) (ps : List (List Nat)) (n : Nat), Steps P ops Q J a0 n os ps → ∀ (k : Nat) (o : Oper), os[k]? = some o → ∃ p, ps[k]? = some p ∧ StepAt P ops Q J a0 (n + k) o p := by
  intro os
  induction os with
  | nil => intro ps n _ k o h; simp at h
  | cons x os ih =>
    intro ps n h k o hk
    cases ps with
    | nil => exact h.elim
    | cons p ps =>
      cases k with
      | zero =>
        obtain rfl : x = o := by simpa using hk
        exact ⟨p, rfl, h.1⟩
      | succ k =>
        obtain ⟨q, hq, hs⟩ := ih ps (n + 1) h.2 k o (by simpa using hk)
        exact ⟨q, by simpa using hq, by rw [show n + (k + 1) = n + 1 + k by omega]; exact hs⟩
theorem wp_region_steps {id : Nat} {a0 : Act} {w : World} (J : (Nat → Bool) → List Value → World → Prop) (pre : List (List Nat)) (hm : P.follows .mixedOrders = true)
    (hap : dstApart ops.toList = true) (hbk : backward ops = true) (hpre : (List.range ops.size).map (hangsOn ops) = pre)
    (hJ : ∀ f g vs w, (∀ k, k < ops.size → f k = g k) → J f vs w → J g vs w)
    (h0 : ∀ vs, vs.length = ops.size → J (fun _ => false) vs w.drew)
    (hst : Steps P ops Q J a0 0 ops.toList pre)
    (hQ : ∀ vs w, vs.length = ops.size → J (fun _ => true) vs w → Q .normal (putAll ops.toList vs a0) w) :
    (Code.region id ops true).wp P Q a0 w := by
  refine wp_region_inv J hm hap hbk hJ h0 (fun i o ho => ?_) hQ
  obtain ⟨p, hp, hs⟩ := steps_at ops.toList pre 0 hst i o (by rw [Array.getElem?_toList]; exact ho)
  rw [Nat.zero_add] at hs
  intro f vs w hl hf hj
  refine hs f vs w hl hf (fun j hjp => hj j ?_)
  have hi : i < ops.size := by
    rcases Nat.lt_or_ge i ops.size with h | h
    · exact h
    · rw [Array.getElem?_eq_none h] at ho; cases ho
  rw [← hpre, List.getElem?_map, List.getElem?_range hi] at hp
  obtain rfl : hangsOn ops i = p := by simpa using hp
  exact hjp
end
end Go.Proofs.YtbnpbflndnjmcaaDoor
