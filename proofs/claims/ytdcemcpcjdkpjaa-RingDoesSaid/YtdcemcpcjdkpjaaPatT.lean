/- PatA PatB PatC PatD PatE PatF PatG PatH -/
import Derived.Test.YtdcemcpcjdkpjaaHarmT
import Derived.Test.YtdcemcpcjdkpjaaTrF
import Derived.Test.YtdcemcpcjdkpjaaWalT
import Derived.Shelf.RegionOpen
import Derived.Test.YtdcemcpcjdkpjaaTreeO
/-! Layer 12: lengths of paths. -/
namespace Go.Proofs.Ytdcemcpcjdkpjaa
open Go.RowKit
set_option linter.unusedVariables false
set_option linter.unusedSimpArgs false

/-- the length of a leaf of so many points at that depth -/
def lenP (dep sz : Int) : Int := dep * 1073741824 + normN (heldN sz)
end Go.Proofs.Ytdcemcpcjdkpjaa
/-! Layer 12: each leaf of a tree, and what is summed. -/
namespace Go.Proofs.Ytdcemcpcjdkpjaa
open Go.RowKit Go.Shelf Go.Maps
set_option linter.unusedVariables false
set_option linter.unusedSimpArgs false
attribute [local go_sem] Oper.semAt_some

theorem norm_bd (n : Int) : 0 ≤ normN (heldN n) ∧ normN (heldN n) ≤ 1000000000000 := by
  have h := ends_bd (heldN_le n)
  unfold normN
  omega
theorem lenP_bd {dep sz : Int} (h : 0 ≤ dep ∧ dep ≤ 2000) : 0 ≤ lenP dep sz ∧ lenP dep sz ≤ 4000000000000 := by
  have := norm_bd sz
  unfold lenP
  omega
end Go.Proofs.Ytdcemcpcjdkpjaa
/-! Layer 12: the length of a vector in a tree. -/
namespace Go.Proofs.Ytdcemcpcjdkpjaa
open Go.RowKit
set_option linter.unusedVariables false
set_option linter.unusedSimpArgs false

theorem dnT_lt {N : List TN} {dim : Int} {x : List Int} (hx : isV x dim = true) : ∀ (f i e d : Nat), Sub N dim i e d → (dnT N x f i).1 < N.length
  | 0, i, e, d, h => by have := h.lt; show i < _; omega
  | f + 1, i, e, d, h => by
    by_cases hl : (N.getD i tn0).lf = 0
    · rw [dnT_leaf hl]; have := h.lt; show i < _; omega
    · obtain ⟨t, e', d', hT, hS', hd', ht, hE⟩ := h.go x hx hl
      rw [dnT_step hl, hT, Int.toNat_natCast]
      exact dnT_lt hx f t e' d' hS'
/-- the length of x in a tree, and the error -/
def lenT (N : List TN) (dim : Int) (x : List Int) : Int × Int :=
  if (leafT N dim x).2.2 = 0 then (lenP (leafT N dim x).2.1 (N.getD (leafT N dim x).1.toNat tn0).sz, 0) else (0, (leafT N dim x).2.2)
end Go.Proofs.Ytdcemcpcjdkpjaa
/-! Layer 12: each leaf of a tree, summed. -/
namespace Go.Proofs.Ytdcemcpcjdkpjaa
open Go.RowKit Go.Shelf Go.Maps
set_option linter.unusedVariables false
set_option linter.unusedSimpArgs false
attribute [local go_sem] Oper.semAt_some

/-- a leaf of a tree holds 1 to 64 points -/
theorem Sub.leaves {N : List TN} {dm : Int} {i e d : Nat} (h : Sub N dm i e d) : ∀ k, i ≤ k → k < e → (N.getD k tn0).lf = 0 → leafN (N.getD k tn0) := by
  induction h with
  | @leaf i hi hl =>
    intro k h1 h2 h3
    obtain rfl : k = i := by omega
    exact hl
  | @inner i m e d1 d2 hi hl hr hc h1 h2 hs ih1 ih2 =>
    intro k g1 g2 g3
    by_cases hk : k = i
    · subst hk; omega
    · rcases Nat.lt_or_ge k m with hm | hm
      · exact ih1 k (by omega) hm g3
      · exact ih2 k hm g2 g3
theorem leaves_ok {N : List TN} {dm : Int} (h : isT N dm = true) : ∀ k, k < N.length → (N.getD k tn0).lf = 0 → 1 ≤ (N.getD k tn0).sz ∧ (N.getD k tn0).sz ≤ 64 := fun k hk hl => by
  obtain ⟨_, _, _, d0, s0, _⟩ := isT_iff.1 h
  have := s0.leaves k (Nat.zero_le _) hk hl
  exact ⟨this.2.2.2.2.1, this.2.2.2.2.2⟩
/-- what one node adds to the weight -/
def wtE (N : List TN) (x : Nat × Nat) : Int := if (N.getD x.1 tn0).lf = 0 then lenP x.2 (N.getD x.1 tn0).sz * (N.getD x.1 tn0).sz else 0
def wtS (N : List TN) (l : List (Nat × Nat)) : Int := (l.map (wtE N)).sum
theorem wtS_snoc (N : List TN) (l : List (Nat × Nat)) (x : Nat × Nat) : wtS N (l ++ [x]) = wtS N l + wtE N x := by simp [wtS]
theorem wtE_bd {N : List TN} (h : ∀ k, k < N.length → (N.getD k tn0).lf = 0 → 1 ≤ (N.getD k tn0).sz ∧ (N.getD k tn0).sz ≤ 64) (x : NdI N.length) : 0 ≤ wtE N x.1 ∧ wtE N x.1 ≤ 4000000000000 * 64 := by
  unfold wtE
  by_cases hl : (N.getD x.1.1 tn0).lf = 0
  · rw [if_pos hl]
    have h1 := h x.1.1 x.2.1 hl
    have h2 := lenP_bd (dep := (x.1.2 : Int)) (sz := (N.getD x.1.1 tn0).sz) ⟨by omega, by have := x.2.2; omega⟩
    exact ⟨Int.mul_nonneg h2.1 (by omega), Int.mul_le_mul h2.2 h1.2 (by omega) (by omega)⟩
  · rw [if_neg hl]; omega
theorem wtS_bd {N : List TN} (h : ∀ k, k < N.length → (N.getD k tn0).lf = 0 → 1 ≤ (N.getD k tn0).sz ∧ (N.getD k tn0).sz ≤ 64) : ∀ l : List (NdI N.length), 0 ≤ wtS N (vals l) ∧ wtS N (vals l) ≤ l.length * (4000000000000 * 64)
  | [] => by simp [wtS, vals]
  | x :: l => by
    have h1 := wtE_bd h x
    have h2 := wtS_bd h l
    have e : wtS N (vals (x :: l)) = wtE N x.1 + wtS N (vals l) := by simp [wtS, vals]
    rw [e, List.length_cons]
    omega
theorem box_from {β : Type} {B k : Nat} (hk : k < B) (cs : Array Value) (t : TypeId) : OwnFrom B (fun (_ : β) W => Box W k cs t) := fun s W W' row hs hg hr =>
  (hg.block k (Box.lt hs) (fun e => by have := (hr k e.symm).1; omega)).trans hs
end Go.Proofs.Ytdcemcpcjdkpjaa
/-! Layer 12: each leaf of a tree, its weight added. -/
namespace Go.Proofs.Ytdcemcpcjdkpjaa
open Go.RowKit Go.Shelf Go.Maps
set_option linter.unusedVariables false
set_option linter.unusedSimpArgs false
attribute [local go_sem] Oper.semAt_some

theorem len8 {vs : List Value} (h : vs.length = 8) : ∃ y0 y1 y2 y3 y4 y5 y6 y7, vs = [y0, y1, y2, y3, y4, y5, y6, y7] := by
  match vs, h with
  | [y0, y1, y2, y3, y4, y5, y6, y7], _ => exact ⟨_, _, _, _, _, _, _, _, rfl⟩
end Go.Proofs.Ytdcemcpcjdkpjaa
/-! Layer 12: each leaf of a tree, the least and the greatest length. -/
namespace Go.Proofs.Ytdcemcpcjdkpjaa
open Go.RowKit Go.Shelf Go.Maps
set_option linter.unusedVariables false
set_option linter.unusedSimpArgs false
attribute [local go_sem] Oper.semAt_some

/-- the least and the greatest length of the leaves among these nodes -/
def enE (N : List TN) (p : Int × Int) (x : Nat × Nat) : Int × Int := if (N.getD x.1 tn0).lf = 0 then (min p.1 (lenP x.2 (N.getD x.1 tn0).sz), max p.2 (lenP x.2 (N.getD x.1 tn0).sz)) else p
def enS (N : List TN) (l : List (Nat × Nat)) : Int × Int := l.foldl (enE N) (274877906944, 0)
theorem enS_snoc (N : List TN) (l : List (Nat × Nat)) (x : Nat × Nat) : enS N (l ++ [x]) = enE N (enS N l) x := by simp [enS]
/-- two boxes of numbers -/
def Two2 (X : World) (a b : Nat) (p : Int × Int) : Prop := Boxed X a 3 (.int .i64 p.1) ∧ Boxed X b 3 (.int .i64 p.2)
theorem Two2.below {X Y : World} {a b : Nat} {p : Int × Int} (h : Two2 X a b p) (hb : Below X.heap.size X Y) : Two2 Y a b p := ⟨(hb.block _ h.1.lt).trans h.1, (hb.block _ h.2.lt).trans h.2⟩
theorem Two2.alloc {X : World} {a b : Nat} {p : Int × Int} (h : Two2 X a b p) (o : Obj) : Two2 (X.alloc o) a b p := ⟨Boxed.alloc h.1 o, Boxed.alloc h.2 o⟩
theorem Two2.set {X : World} {a b : Nat} {p : Int × Int} (h : Two2 X a b p) (hab : b ≠ a) (u v : Int) : Two2 ((X.setCell ⟨a, 0, none⟩ (.int .i64 u)).setCell ⟨b, 0, none⟩ (.int .i64 v)) a b (u, v) :=
  ⟨(Boxed.set _ h.1).other (Ne.symm hab) _, Boxed.set _ (h.2.other hab _)⟩
theorem Two2.own {β : Type} (a b B : Nat) (f : β → Int × Int) : OwnFrom B (fun s W => Two2 W a b (f s)) :=
  OwnFrom.and (Own.from (boxed_own a 3 (fun s => .int .i64 (f s).1)) _) (Own.from (boxed_own b 3 (fun s => .int .i64 (f s).2)) _)
end Go.Proofs.Ytdcemcpcjdkpjaa
/-! Layer 12: Weight and Ends. -/
namespace Go.Proofs.Ytdcemcpcjdkpjaa
open Go.RowKit Go.Shelf Go.Maps
set_option linter.unusedVariables false
set_option linter.unusedSimpArgs false
attribute [local go_sem] Oper.semAt_some

end Go.Proofs.Ytdcemcpcjdkpjaa
/-! Layer 12: a row of trees in the memory. -/
namespace Go.Proofs.Ytdcemcpcjdkpjaa
open Go.RowKit
set_option linter.unusedVariables false
set_option linter.unusedSimpArgs false

/-- a tree as the memory has it -/
structure TT where
  dim : Int
  a : Option Addr
  c : Nat
  n : List TN
def tt0 : TT := ⟨0, none, 0, []⟩
/-- the trees lie in the memory, two cells each, and their nodes -/
def LiesTs (w : World) (B : Nat) (A : Option Addr) (T : List TT) : Prop :=
  (0 < T.length → ∃ ad : Addr, A = some ad ∧ ad.block < B ∧ ∀ j, j < T.length → w.cell? (ad.add (j * 2)) = some (.int .i64 (T.getD j tt0).dim) ∧ w.cell? ⟨(ad.add (j * 2)).block, (ad.add (j * 2)).off + 1, none⟩ = some (.slice (T.getD j tt0).a (T.getD j tt0).n.length (T.getD j tt0).c)) ∧ ∀ t ∈ T, LiesT w B t.a t.n
theorem mem_tt {T : List TT} {k : Nat} (h : k < T.length) : T.getD k tt0 ∈ T := by
  rw [List.getD_eq_getElem?_getD, List.getElem?_eq_getElem h]
  exact List.getElem_mem h
theorem LiesTs.at {w : World} {B : Nat} {A : Option Addr} {T : List TT} (h : LiesTs w B A T) {k : Nat} (hk : k < T.length) :
    ∃ ad : Addr, A = some ad ∧ ad.block < B ∧ (w.cell? (ad.add (k * 2)) = some (.int .i64 (T.getD k tt0).dim) ∧ w.cell? ⟨(ad.add (k * 2)).block, (ad.add (k * 2)).off + 1, none⟩ = some (.slice (T.getD k tt0).a (T.getD k tt0).n.length (T.getD k tt0).c)) ∧ LiesT w B (T.getD k tt0).a (T.getD k tt0).n := by
  obtain ⟨ad, e, hB, hc⟩ := h.1 (by omega)
  exact ⟨ad, e, hB, hc k hk, h.2 _ (mem_tt hk)⟩
theorem LiesTs.below {w w' : World} {B : Nat} {A : Option Addr} {T : List TT} (h : LiesTs w B A T) (hb : Below B w w') : LiesTs w' B A T := by
  refine ⟨fun h0 => ?_, fun t ht => (h.2 t ht).below hb⟩
  obtain ⟨ad, e, hB, hc⟩ := h.1 h0
  refine ⟨ad, e, hB, fun j hj => ?_⟩
  obtain ⟨c0, c1⟩ := hc j hj
  exact ⟨(hb.cell (by rw [add_block]; exact hB)).trans c0, (hb.cell (by show (ad.add (j * 2)).block < B; rw [add_block]; exact hB)).trans c1⟩
theorem LiesTs.mono {w : World} {B B' : Nat} {A : Option Addr} {T : List TT} (h : LiesTs w B A T) (hB : B ≤ B') : LiesTs w B' A T := by
  refine ⟨fun h0 => ?_, fun t ht => (h.2 t ht).mono hB⟩
  obtain ⟨ad, e, hb, hc⟩ := h.1 h0
  exact ⟨ad, e, Nat.lt_of_lt_of_le hb hB, hc⟩
def okTs (T : List TT) : Prop := ∀ t ∈ T, okT t.n ∧ t.n.length ≤ 1000
/-- are there trees, all of one dimension: the first k of them -/
def alkK (T : List TT) : Nat → Bool
  | 0 => true
  | k + 1 => alkK T k && (isT (T.getD k tt0).n (T.getD k tt0).dim && decide ((T.getD k tt0).dim = (T.getD 0 tt0).dim))
def alkV (T : List TT) : Int := if T.length = 0 then 100 else if alkK T T.length = true then 0 else 100
theorem alkK_mono {T : List TT} : ∀ {j k : Nat}, j ≤ k → alkK T k = true → alkK T j = true
  | j, 0, h, hk => by obtain rfl : j = 0 := by omega
                      exact hk
  | j, k + 1, h, hk => by
    by_cases he : j = k + 1
    · rw [he]; exact hk
    · refine alkK_mono (k := k) (by omega) ?_
      rw [alkK, Bool.and_eq_true] at hk
      exact hk.1
theorem alkK_at {T : List TT} {k : Nat} (hk : k < T.length) (h : alkK T T.length = true) : isT (T.getD k tt0).n (T.getD k tt0).dim = true ∧ (T.getD k tt0).dim = (T.getD 0 tt0).dim := by
  have := alkK_mono (j := k + 1) hk h
  rw [alkK, Bool.and_eq_true, Bool.and_eq_true] at this
  exact ⟨this.2.1, of_decide_eq_true this.2.2⟩
theorem alkV_bad {T : List TT} {k : Nat} (hk : k < T.length) (h : ¬ (isT (T.getD k tt0).n (T.getD k tt0).dim = true ∧ (T.getD k tt0).dim = (T.getD 0 tt0).dim)) : alkV T = 100 := by
  unfold alkV
  by_cases h0 : T.length = 0
  · rw [if_pos h0]
  · rw [if_neg h0, if_neg (fun ha => h (alkK_at hk ha))]
theorem alkV_good {T : List TT} (h0 : 0 < T.length) (h : alkK T T.length = true) : alkV T = 0 := by
  unfold alkV
  rw [if_neg (by omega), if_pos h]
/-- the lengths of x in the first k trees -/
def sumK (T : List TT) (x : List Int) : Nat → Int
  | 0 => 0
  | k + 1 => sumK T x k + (lenT (T.getD k tt0).n (T.getD k tt0).dim x).1
end Go.Proofs.Ytdcemcpcjdkpjaa
