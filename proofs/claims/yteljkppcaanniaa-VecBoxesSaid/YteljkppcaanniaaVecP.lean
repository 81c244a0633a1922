import Derived.Test.YteljkppcaanniaaBase

/-! A region that draws its order, by an invariant over which operations are done, the frame (as it stands, not written out) and the world. -/
namespace Go.Proofs.Yteljkppcaanniaa
open Go.RowKit
set_option linter.unusedVariables false

section
variable {P : Program} {ops : Array Oper} {Q : Exit → Act → World → Prop}
def ActStep (P : Program) (ops : Array Oper) (Q : Exit → Act → World → Prop) (J : (Nat → Bool) → Act → World → Prop) (i : Nat) (o : Oper) (p : List Nat) : Prop :=
  ∀ (f : Nat → Bool) (a : Act) (w : World), f i = false → (∀ j ∈ p, f j = true) → J f a w →
    ∀ K : Act → World → Prop, (∀ v w', J (fun k => if k = i then true else f k) (a.put o.dst v) w' → K (a.put o.dst v) w') → Region.wanted o (yielded ops a.tmps) = true ∧ Oper.wp P o a w K Q
def ActSteps (P : Program) (ops : Array Oper) (Q : Exit → Act → World → Prop) (J : (Nat → Bool) → Act → World → Prop) : Nat → List Oper → List (List Nat) → Prop
  | i, o :: os, p :: ps => ActStep P ops Q J i o p ∧ ActSteps P ops Q J (i + 1) os ps
  | _, [], [] => True
  | _, _, _ => False
theorem actSteps_at {J : (Nat → Bool) → Act → World → Prop} : ∀ (os : List Oper) (ps : List (List Nat)) (n : Nat), ActSteps P ops Q J n os ps → ∀ (k : Nat) (o : Oper), os[k]? = some o → ∃ p, ps[k]? = some p ∧ ActStep P ops Q J (n + k) o p := by
  intro os
  induction os with
  | nil => intro ps n _ k o h; simp at h
  | cons x os ih =>
    intro ps n h k o hk
    cases ps with
    | nil => exact h.elim
    | cons p ps =>
      cases k with
      | zero =>
        obtain rfl : x = o := by simpa using hk
        exact ⟨p, rfl, h.1⟩
      | succ k =>
        obtain ⟨q, hq, hs⟩ := ih ps (n + 1) h.2 k o (by simpa using hk)
        exact ⟨q, by simpa using hq, by rw [show n + (k + 1) = n + 1 + k by omega]; exact hs⟩
theorem wp_region_acts {id : Nat} {a0 : Act} {w : World} (J : (Nat → Bool) → Act → World → Prop) (pre : List (List Nat)) (hm : P.follows .mixedOrders = true)
    (hap : dstApart ops.toList = true) (hbk : backward ops = true) (hpre : (List.range ops.size).map (hangsOn ops) = pre)
    (hJ : ∀ f g a w, (∀ k, k < ops.size → f k = g k) → J f a w → J g a w)
    (h0 : J (fun _ => false) a0 w.drew)
    (hst : ActSteps P ops Q J 0 ops.toList pre)
    (hQ : ∀ a w, J (fun _ => true) a w → Q .normal a w) :
    (Code.region id ops true).wp P Q a0 w := by
  refine wp_region_any hm ?_
  obtain ⟨vs, hv, he⟩ := putAll_start ops.toList a0
  have := wpAny_inv (P := P) (ops := ops) (Q := Q) (a0 := a0) (J := fun f vs w => J f (putAll ops.toList vs a0) w) hap hbk (fun i o ho => by
      obtain ⟨p, hp, hs⟩ := actSteps_at ops.toList pre 0 hst i o (by rw [Array.getElem?_toList]; exact ho)
      rw [Nat.zero_add] at hs
      have hi : i < ops.size := by
        rcases Nat.lt_or_ge i ops.size with h | h
        · exact h
        · rw [Array.getElem?_eq_none h] at ho; cases ho
      have hh : hangsOn ops i = p := by
        rw [← hpre, List.getElem?_map, List.getElem?_range hi] at hp
        simpa using hp
      intro f vs w hl hf hj hJ' K hK
      have hset : ∀ v, (putAll ops.toList vs a0).put o.dst v = putAll ops.toList (vs.set i v) a0 := fun v => putAll_set ops.toList vs a0 i o v hap (by rw [Array.getElem?_toList]; exact ho) (by omega)
      obtain ⟨h1, h2⟩ := hs f (putAll ops.toList vs a0) w hf (fun j hjp => hj j (by rw [hh]; exact hjp)) hJ' K (fun v w' h => by rw [hset v]; rw [hset v] at h; exact hK v w' h)
      rw [if_pos h1]
      exact h2) (fun vs w _ h => hQ _ w h) (fun f g vs w hfg h => hJ f g _ w hfg h)
    ops.size (Array.replicate ops.size false) vs w.drew (by simp) (by
    refine Nat.le_trans List.countP_le_length ?_
    simp) (by simpa using hv) (hJ (fun _ => false) _ _ _ (fun k hk => by rw [Array.getD_eq_getD_getElem?]; simp [hk]) (by rw [he]; exact h0))
  rw [he] at this
  exact this
theorem yielded_of {a : Act} {j t : Nat} {b : Bool} (h1 : (ops[j]?).bind (·.dst) = some t) (h2 : a.tmps[t]? = some (.bool b)) : yielded ops a.tmps j = some b := by
  unfold yielded
  rw [h1]
  simp [h2]
theorem wanted_of {o : Oper} {a : Act} {j t : Nat} {b : Bool} (hg : o.guard = some (j, b)) (h1 : (ops[j]?).bind (·.dst) = some t) (h2 : a.tmps[t]? = some (.bool b)) : Region.wanted o (yielded ops a.tmps) = true := by
  unfold Region.wanted
  rw [hg]
  simp [yielded_of h1 h2]
theorem wanted_none {o : Oper} {y : Nat → Option Bool} (hg : o.guard = none) : Region.wanted o y = true := by
  unfold Region.wanted; rw [hg]
end
end Go.Proofs.Yteljkppcaanniaa
