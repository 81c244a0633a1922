/- PatA PatB PatC PatD PatE PatF PatG PatH -/
import Derived.Test.YtkkeejbgaaodeaaHarmT
import Derived.Test.YtkkeejbgaaodeaaTrF
import Derived.Test.YtkkeejbgaaodeaaWalT
import Derived.Shelf.RegionOpen
import Derived.Test.YtkkeejbgaaodeaaTreeO
/-! Layer 12: lengths of paths. -/
namespace Go.Proofs.Ytkkeejbgaaodeaa
open Go.RowKit
set_option linter.unusedVariables false
set_option linter.unusedSimpArgs false

/-- the length of a leaf of so many points at that depth -/
def lenP (dep sz : Int) : Int := dep * 1073741824 + normN (heldN sz)
theorem path_length (dep sz : Int) (w : World) (h : 0 ≤ dep ∧ dep ≤ 2000) (hb : 0 ≤ normN (heldN sz) ∧ normN (heldN sz) ≤ 1000000000000) : Calls Try.prog 58 #[.int .i64 dep, .int .i64 sz] w fun e w' => e = .returned (.int .i64 (lenP dep sz)) ∧ Below w.heap.size w w' := by
  have K := Lib.hid (harm_norm sz w)
  unfold lenP
  generalize normN (heldN sz) = v at *
  obtain ⟨h1, h2⟩ := h
  obtain ⟨h3, h4⟩ := hb
  go_enter Try.func58, Try.ntmps58
  go_wp2_with fail
  refine K.out.mono ?_
  rintro e w1 ⟨rfl, b1⟩
  go_wp2
  go_ret
  exact ⟨rfl, b1⟩
end Go.Proofs.Ytkkeejbgaaodeaa
/-! Layer 12: each leaf of a tree, and what is summed. -/
namespace Go.Proofs.Ytkkeejbgaaodeaa
open Go.RowKit Go.Shelf Go.Maps
set_option linter.unusedVariables false
set_option linter.unusedSimpArgs false
attribute [local go_sem] Oper.semAt_some

theorem norm_bd (n : Int) : 0 ≤ normN (heldN n) ∧ normN (heldN n) ≤ 1000000000000 := by
  have h := ends_bd (heldN_le n)
  unfold normN
  omega
theorem lenP_bd {dep sz : Int} (h : 0 ≤ dep ∧ dep ≤ 2000) : 0 ≤ lenP dep sz ∧ lenP dep sz ≤ 4000000000000 := by
  have := norm_bd sz
  unfold lenP
  omega
set_option maxHeartbeats 1000000 in
theorem weight_1 (b : Nat) (s len sz : Int) (w : World) (hb : Boxed w b 3 (.int .i64 s)) (hs : 0 ≤ s ∧ s ≤ 1000000000000000000) (hl : 0 ≤ len ∧ len ≤ 4000000000000) (hz : 0 ≤ sz ∧ sz ≤ 64) :
    Calls Try.prog 64 #[.int .i64 len, .int .i64 sz, .pointer (some ⟨b, 0, none⟩)] w fun e w' => (∃ v, e = .returned v) ∧ w' = w.setCell ⟨b, 0, none⟩ (.int .i64 (s + len * sz)) := by
  have hc := hb.cell
  have hf := hb.frozen
  have hp : 0 ≤ len * sz ∧ len * sz ≤ 4000000000000 * 64 := ⟨Int.mul_nonneg hl.1 hz.1, Int.mul_le_mul hl.2 hz.2 hz.1 (by omega)⟩
  have hw : wrap64 (len * sz) = len * sz := by unfold wrap64; omega
  obtain ⟨p, hpe⟩ : ∃ p, p = len * sz := ⟨_, rfl⟩
  rw [← hpe] at hw hp ⊢
  have hw2 : wrap64 (len * sz) = p := by rw [← hpe]; exact hw
  obtain ⟨p1, p2⟩ := hp
  obtain ⟨s1, s2⟩ := hs
  clear hw hpe
  go_enter Try.func64, Try.ntmps64
  go_wp2
  go_end0
  exact ⟨⟨_, rfl⟩, rfl⟩
set_option maxHeartbeats 1000000 in
theorem ends_1 (a b : Nat) (hab : b ≠ a) (lo hi len sz : Int) (w : World) (ha : Boxed w a 3 (.int .i64 lo)) (hb : Boxed w b 3 (.int .i64 hi)) :
    Calls Try.prog 62 #[.int .i64 len, .int .i64 sz, .pointer (some ⟨a, 0, none⟩), .pointer (some ⟨b, 0, none⟩)] w fun e w' => (∃ v, e = .returned v) ∧ w' = ((w.setCell ⟨a, 0, none⟩ (.int .i64 (min lo len))).setCell ⟨b, 0, none⟩ (.int .i64 (max hi len))).drew := by
  have hc := hb.cell
  have hf := hb.frozen
  have hc2 := ha.cell
  have hf2 := ha.frozen
  have e1 : (if len < lo then len else lo) = min lo len := by omega
  have e2 : (if hi < len then len else hi) = max hi len := by omega
  rw [← e1, ← e2]
  clear e1 e2
  go_enter Try.func62, Try.ntmps62
  go_wp2
  go_region
  go_end0
  exact ⟨⟨_, rfl⟩, rfl⟩
end Go.Proofs.Ytkkeejbgaaodeaa
/-! Layer 12: the length of a vector in a tree. -/
namespace Go.Proofs.Ytkkeejbgaaodeaa
open Go.RowKit
set_option linter.unusedVariables false
set_option linter.unusedSimpArgs false

theorem dnT_lt {N : List TN} {dim : Int} {x : List Int} (hx : isV x dim = true) : ∀ (f i e d : Nat), Sub N dim i e d → (dnT N x f i).1 < N.length
  | 0, i, e, d, h => by have := h.lt; show i < _; omega
  | f + 1, i, e, d, h => by
    by_cases hl : (N.getD i tn0).lf = 0
    · rw [dnT_leaf hl]; have := h.lt; show i < _; omega
    · obtain ⟨t, e', d', hT, hS', hd', ht, hE⟩ := h.go x hx hl
      rw [dnT_step hl, hT, Int.toNat_natCast]
      exact dnT_lt hx f t e' d' hS'
/-- the length of x in a tree, and the error -/
def lenT (N : List TN) (dim : Int) (x : List Int) : Int × Int :=
  if (leafT N dim x).2.2 = 0 then (lenP (leafT N dim x).2.1 (N.getD (leafT N dim x).1.toNat tn0).sz, 0) else (0, (leafT N dim x).2.2)
set_option maxRecDepth 100000 in
set_option maxHeartbeats 4000000 in
theorem path_Length (N : List TN) (dim : Int) (A A2 : Option Addr) (x : List Int) (c c2 B : Nat) (w : World) (hl : N.length ≤ 100000) (ho : okT N) (hA : LiesT w B A N) (hx : Lies w B A2 x) (hxl : (x.length : Int) ≤ 9223372036854775807) (hxc : x.length ≤ c2) (hB : B ≤ w.heap.size) :
    Calls Try.prog 28 #[.agg #[.int .i64 dim, .slice A N.length c], .slice A2 x.length c2] w fun e w' => e = .returned (.tuple #[.int .i64 (lenT N dim x).1, .int .i64 (lenT N dim x).2]) ∧ Below w.heap.size w w' := by
  have HX := Lib.hid ((Kpc.start w).alloc #[.int .i64 dim, .slice A N.length c] 24)
  obtain ⟨y0, y1⟩ := box_cut HX.out.head
  have KL : Hid (∀ W (h : Below w.heap.size w W), Calls Try.prog 24 #[.agg #[.int .i64 dim, .slice A N.length c], .slice A2 x.length c2] W fun e w' => e = .returned (.tuple #[.int .i64 (leafT N dim x).1, .int .i64 (leafT N dim x).2.1, .int .i64 (leafT N dim x).2.2]) ∧ Below W.heap.size W w') := fun W h => tree_Leaf N dim A A2 x c c2 B W hl ho (hA.below (h.mono hB)) (hx.below (h.mono hB)) hxl hxc (Nat.le_trans hB h.size)
  have HA := Lib.hid (fun W (h : Below w.heap.size w W) => hA.below (h.mono hB))
  by_cases h1 : isT N dim = true ∧ isV x dim = true
  · obtain ⟨h1, h2⟩ := h1
    have hlen := isT_len h1
    obtain ⟨_, _, _, d0, s0, _⟩ := isT_iff.1 h1
    have hlt := dnT_lt h2 N.length 0 _ _ s0
    have hle := dnT_le N x N.length 0
    have hv : leafT N dim x = (((dnT N x N.length 0).1 : Int), ((dnT N x N.length 0).2 : Int), 0) := by unfold leafT; rw [if_pos h1, if_pos h2]
    unfold lenT
    rw [hv] at KL ⊢
    rw [if_pos rfl]
    simp only [Int.toNat_natCast] at KL ⊢
    generalize dnT N x N.length 0 = Z at *
    obtain ⟨z1, z2⟩ := Z
    simp only at *
    have KP := Lib.hid (fun W => path_length (z2 : Int) (N.getD z1 tn0).sz W (by omega) (norm_bd _))
    have hz : (z1 : Int) < (N.length : Int) := by omega
    clear hv h1 h2 hA hx ho s0 hle
    generalize lenP (z2 : Int) (N.getD z1 tn0).sz = v at *
    generalize hM : N.length = M at *
    have HM := Lib.hid hM
    clear hM
    generalize x.length = LX at *
    go_enter Try.func28, Try.ntmps28
    go_wp2_with fail
    refine (KL.out _ HX.out.2.1).mono ?_
    rintro e w1 ⟨rfl, b1⟩
    have J := Lib.hid (HX.out.below b1)
    clear b1 y0 y1
    obtain ⟨y0, y1⟩ := box_cut J.out.head
    obtain ⟨ad, rfl, _, ⟨c0, c1, c2', c3, c4⟩, _⟩ := (HA.out _ J.out.2.1).at (k := z1) (by have := HM.out; omega)
    generalize N.getD z1 tn0 = nd at *
    obtain ⟨na, nc, nco, nlv, nlf, nrt, nsz⟩ := nd
    simp only at *
    go_wp2_with fail
    refine (KP.out _).mono ?_
    rintro e w2 ⟨rfl, b2⟩
    go_wp2
    go_ret2
    exact ⟨by simp, J.out.2.1.trans (b2.mono J.out.2.1.size)⟩
  · have hv : ∃ r, ¬ r = (0 : Int) ∧ leafT N dim x = (0, 0, r) := by
      unfold leafT
      by_cases h2 : isT N dim = true
      · rw [if_pos h2, if_neg (fun h3 => h1 ⟨h2, h3⟩)]; exact ⟨80, by decide, rfl⟩
      · rw [if_neg h2]; exact ⟨100, by decide, rfl⟩
    obtain ⟨r, hr, hv⟩ := hv
    unfold lenT
    rw [hv] at KL ⊢
    rw [if_neg hr]
    simp only at KL ⊢
    have hr2 : (r == 0) = false := by simpa using hr
    clear hv h1 hA hx ho HA
    generalize N.length = M at *
    generalize x.length = LX at *
    go_enter Try.func28, Try.ntmps28
    go_wp2_with fail
    refine (KL.out _ HX.out.2.1).mono ?_
    rintro e w1 ⟨rfl, b1⟩
    have J := Lib.hid (HX.out.below b1)
    go_wp2
    go_ret2
    exact ⟨by simp, J.out.2.1⟩
end Go.Proofs.Ytkkeejbgaaodeaa
/-! Layer 12: each leaf of a tree, summed. -/
namespace Go.Proofs.Ytkkeejbgaaodeaa
open Go.RowKit Go.Shelf Go.Maps
set_option linter.unusedVariables false
set_option linter.unusedSimpArgs false
attribute [local go_sem] Oper.semAt_some

/-- a leaf of a tree holds 1 to 64 points -/
theorem Sub.leaves {N : List TN} {dm : Int} {i e d : Nat} (h : Sub N dm i e d) : ∀ k, i ≤ k → k < e → (N.getD k tn0).lf = 0 → leafN (N.getD k tn0) := by
  induction h with
  | @leaf i hi hl =>
    intro k h1 h2 h3
    obtain rfl : k = i := by omega
    exact hl
  | @inner i m e d1 d2 hi hl hr hc h1 h2 hs ih1 ih2 =>
    intro k g1 g2 g3
    by_cases hk : k = i
    · subst hk; omega
    · rcases Nat.lt_or_ge k m with hm | hm
      · exact ih1 k (by omega) hm g3
      · exact ih2 k hm g2 g3
theorem leaves_ok {N : List TN} {dm : Int} (h : isT N dm = true) : ∀ k, k < N.length → (N.getD k tn0).lf = 0 → 1 ≤ (N.getD k tn0).sz ∧ (N.getD k tn0).sz ≤ 64 := fun k hk hl => by
  obtain ⟨_, _, _, d0, s0, _⟩ := isT_iff.1 h
  have := s0.leaves k (Nat.zero_le _) hk hl
  exact ⟨this.2.2.2.2.1, this.2.2.2.2.2⟩
/-- what one node adds to the weight -/
def wtE (N : List TN) (x : Nat × Nat) : Int := if (N.getD x.1 tn0).lf = 0 then lenP x.2 (N.getD x.1 tn0).sz * (N.getD x.1 tn0).sz else 0
def wtS (N : List TN) (l : List (Nat × Nat)) : Int := (l.map (wtE N)).sum
theorem wtS_snoc (N : List TN) (l : List (Nat × Nat)) (x : Nat × Nat) : wtS N (l ++ [x]) = wtS N l + wtE N x := by simp [wtS]
theorem wtE_bd {N : List TN} (h : ∀ k, k < N.length → (N.getD k tn0).lf = 0 → 1 ≤ (N.getD k tn0).sz ∧ (N.getD k tn0).sz ≤ 64) (x : NdI N.length) : 0 ≤ wtE N x.1 ∧ wtE N x.1 ≤ 4000000000000 * 64 := by
  unfold wtE
  by_cases hl : (N.getD x.1.1 tn0).lf = 0
  · rw [if_pos hl]
    have h1 := h x.1.1 x.2.1 hl
    have h2 := lenP_bd (dep := (x.1.2 : Int)) (sz := (N.getD x.1.1 tn0).sz) ⟨by omega, by have := x.2.2; omega⟩
    exact ⟨Int.mul_nonneg h2.1 (by omega), Int.mul_le_mul h2.2 h1.2 (by omega) (by omega)⟩
  · rw [if_neg hl]; omega
theorem wtS_bd {N : List TN} (h : ∀ k, k < N.length → (N.getD k tn0).lf = 0 → 1 ≤ (N.getD k tn0).sz ∧ (N.getD k tn0).sz ≤ 64) : ∀ l : List (NdI N.length), 0 ≤ wtS N (vals l) ∧ wtS N (vals l) ≤ l.length * (4000000000000 * 64)
  | [] => by simp [wtS, vals]
  | x :: l => by
    have h1 := wtE_bd h x
    have h2 := wtS_bd h l
    have e : wtS N (vals (x :: l)) = wtE N x.1 + wtS N (vals l) := by simp [wtS, vals]
    rw [e, List.length_cons]
    omega
theorem kpw_set {n₀ b1 bs : Nat} {W : World} {v : Value} (h : Boxed W bs 3 v) (hn : n₀ ≤ bs) (hb : b1 ≠ bs) (hs : n₀ ≤ W.heap.size) (u : Value) : KpW n₀ b1 W (W.setCell ⟨bs, 0, none⟩ u) := by
  refine ⟨(Below.refl _ _).setCell hn _, Go.Deep.blk_setCell_other W ⟨bs, 0, none⟩ u b1 hb, fun k c T fz hT hk => ?_⟩
  refine (Go.Deep.blk_setCell_other W ⟨bs, 0, none⟩ u k ?_).trans hk
  rintro rfl
  rw [show W.heap[k]? = _ from h] at hk
  cases hk
  rcases hT with h | h <;> exact absurd h (by decide)
theorem box_from {β : Type} {B k : Nat} (hk : k < B) (cs : Array Value) (t : TypeId) : OwnFrom B (fun (_ : β) W => Box W k cs t) := fun s W W' row hs hg hr =>
  (hg.block k (Box.lt hs) (fun e => by have := (hr k e.symm).1; omega)).trans hs
end Go.Proofs.Ytkkeejbgaaodeaa
/-! Layer 12: each leaf of a tree, its weight added. -/
namespace Go.Proofs.Ytkkeejbgaaodeaa
open Go.RowKit Go.Shelf Go.Maps
set_option linter.unusedVariables false
set_option linter.unusedSimpArgs false
attribute [local go_sem] Oper.semAt_some

/-- what holds in the drawn region of a leaf's round -/
def LeafJ (E : List (Option Value)) (B n₀ b1 bs bd gN gT : Nat) (s s' : Int) (dv : Value) (O T : Array Value) (W w2 : World) (f : Nat → Bool) (vs : List Value) (X : World) : Prop :=
  RegV E f vs ∧ (Boxed X bs 3 (.int .i64 (cond (f 7) s' s)) ∧ Boxed X bd 86 dv ∧ Box X gN O 39 ∧ Box X gT T 24) ∧ KeepsFrom B W X ∧ KpW n₀ b1 W X ∧ Below n₀ w2 X
theorem LeafJ.step {E : List (Option Value)} {B n₀ b1 bs bd gN gT : Nat} {s s' : Int} {dv : Value} {O T : Array Value} {W w2 : World} {f : Nat → Bool} {vs : List Value} {X : World} (h : LeafJ E B n₀ b1 bs bd gN gT s s' dv O T W w2 f vs X) {i : Nat} (hi : i < vs.length) (h7 : i ≠ 7) (v : Value) (hv : ∀ u, E[i]? = some (some u) → v = u) :
    LeafJ E B n₀ b1 bs bd gN gT s s' dv O T W w2 (fun j => if j = i then true else f j) (vs.set i v) X :=
  ⟨h.1.set hi hv, by simp only [if_neg (Ne.symm h7)]; exact h.2.1, h.2.2⟩
theorem LeafJ.below {E : List (Option Value)} {B n₀ b1 bs bd gN gT : Nat} {s s' : Int} {dv : Value} {O T : Array Value} {W w2 : World} {f : Nat → Bool} {vs : List Value} {X X' : World} (h : LeafJ E B n₀ b1 bs bd gN gT s s' dv O T W w2 f vs X) (hb : Below X.heap.size X X') (hn : n₀ ≤ X.heap.size) (h1 : b1 < X.heap.size) :
    LeafJ E B n₀ b1 bs bd gN gT s s' dv O T W w2 f vs X' :=
  ⟨h.1, ⟨(hb.block _ h.2.1.1.lt).trans h.2.1.1, (hb.block _ h.2.1.2.1.lt).trans h.2.1.2.1, h.2.1.2.2.1.below hb h.2.1.2.2.1.lt, h.2.1.2.2.2.below hb h.2.1.2.2.2.lt⟩,
    h.2.2.1.trans (KeepsFrom.of_grownBy (grown_none hb) (fun j e => by cases e)), kpw_t h.2.2.2.1 (kpw_below hb hn h1), h.2.2.2.2.trans (hb.mono hn)⟩
theorem LeafJ.set {E : List (Option Value)} {B n₀ b1 bs bd gN gT : Nat} {s s' : Int} {dv : Value} {O T : Array Value} {W w2 : World} {f : Nat → Bool} {vs : List Value} {X : World} (h : LeafJ E B n₀ b1 bs bd gN gT s s' dv O T W w2 f vs X) (hE : E[7]? = some none) (hn : n₀ ≤ bs) (hn2 : n₀ ≤ X.heap.size) (h1 : b1 ≠ bs) (h2 : bd ≠ bs) (h3 : gN ≠ bs) (h4 : gT ≠ bs) (hB : bs < B) (v : Value) (hl : 7 < vs.length) :
    LeafJ E B n₀ b1 bs bd gN gT s s' dv O T W w2 (fun j => if j = 7 then true else f j) (vs.set 7 v) (X.setCell ⟨bs, 0, none⟩ (.int .i64 s')) :=
  ⟨h.1.set hl (fun u hu => by rw [hE] at hu; cases hu), ⟨by simpa using h.2.1.1.set _, h.2.1.2.1.other h2 _, h.2.1.2.2.1.off (Ne.symm h3) _, h.2.1.2.2.2.off (Ne.symm h4) _⟩,
    h.2.2.1.trans (KeepsFrom.of_grownBy (grownBy_setCell' X bs _) (fun j e => by cases e; exact hB)), kpw_t h.2.2.2.1 (kpw_set h.2.1.1 hn h1 hn2 _), h.2.2.2.2.setCell hn _⟩
theorem len8 {vs : List Value} (h : vs.length = 8) : ∃ y0 y1 y2 y3 y4 y5 y6 y7, vs = [y0, y1, y2, y3, y4, y5, y6, y7] := by
  match vs, h with
  | [y0, y1, y2, y3, y4, y5, y6, y7], _ => exact ⟨_, _, _, _, _, _, _, _, rfl⟩
set_option maxRecDepth 100000 in
set_option maxHeartbeats 8000000 in
theorem each_weight (N : List TN) (dim : Int) (A : Option Addr) (c n₀ bs : Nat) (w : World) (hN : N.length ≤ 1000) (ho : okT N) (hA : LiesT w n₀ A N) (hn : n₀ ≤ bs) (hs : Boxed w bs 3 (.int .i64 0)) :
    Calls Try.prog 61 #[.agg #[.int .i64 dim, .slice A N.length c], .func (.func 64) #[] #[.pointer (some ⟨bs, 0, none⟩)]] w fun e w' => e = .returned (.int .i64 (if isT N dim = true then 0 else 100)) ∧ Below n₀ w w' ∧ Boxed w' bs 3 (.int .i64 (wtS N (allT N dim))) := by
  have hbw := hs.lt
  have hnw : n₀ ≤ w.heap.size := by omega
  have HX := Lib.hid ((Kpc.start w).alloc #[.int .i64 dim, .slice A N.length c] 24)
  have HY := Lib.hid (HX.out.alloc #[(.func (.func 64) #[] #[.pointer (some ⟨bs, 0, none⟩)])] 86)
  rw [alloc_size'] at HY
  obtain ⟨y0, y1⟩ := box_cut HY.out.tail.head
  have KT := Lib.hid (fun W (h : Below w.heap.size w W) => tree_isT N dim A c w.heap.size W (by omega) ho ((hA.below (h.mono hnw)).mono hnw) h.size)
  have KN := Lib.hid (fun W (h : Below w.heap.size w W) => nodes_at dim A N.length c W)
  refine (callsIn_wide (n := 5)).1 ?_
  refine callsIn_of_wp_marks Try.func61 rfl trivial ?_ rfl
  simp only [Try.ntmps61, List.size_toArray, List.length_cons, List.length_nil, Nat.reduceAdd, Nat.reduceSub, Array.replicate_succ, Array.replicate_zero, List.push_toArray, List.append_toArray, List.nil_append, List.cons_append]
  gi_wp2_with fail
  refine ⟨trivial, ?_⟩
  refine (callsIn_wide.2 (KT.out _ HY.out.2.1)).mono ?_
  rintro e w1 ⟨rfl, b1⟩
  have J := Lib.hid (HY.out.below b1)
  clear b1 y0 y1
  obtain ⟨y0, y1⟩ := box_cut J.out.tail.head
  have hB1 : Below n₀ w w1 := J.out.2.1.mono hnw
  have hs1 : Boxed w1 bs 3 (.int .i64 0) := (J.out.2.1.block bs hbw).trans hs
  cases hT : isT N dim with
  | false =>
    have HAT := Lib.hid (allT_no hT)
    gi_wp2
    all_goals exact ⟨_, results_tmp rfl _ _ _, by simp, hB1, by rw [HAT.out]; exact hs1⟩
  | true =>
    have HLV := Lib.hid (leaves_ok hT)
    have HBD := Lib.hid (fun l => wtS_bd HLV.out l)
    have hsz1 : w.heap.size + 2 ≤ w1.heap.size := J.out.head.lt
    have hb2 : Box (w1.alloc (.cells #[.int .i64 dim, .slice A N.length c] 24)) w1.heap.size #[.int .i64 dim, .slice A N.length c] 24 := Box.new _ _ _
    have hst := nodes_stops 4 (by omega) N dim A c n₀ w1.heap.size (w1.alloc (.cells #[.int .i64 dim, .slice A N.length c] 24)) ((hA.below hB1).below ((Below.refl _ _).alloc (by omega) _)) (by simp; omega) hb2 ho hN
    have HA := Lib.hid hA
    gi_wp2_with fail
    refine ⟨trivial, ?_⟩
    refine (callsIn_wide.2 (KN.out _ J.out.2.1)).mono ?_
    rintro e w2 ⟨rfl, h2⟩
    have hbx2 : Box w2 w.heap.size #[.int .i64 dim, .slice A N.length c] 24 := by rw [h2]; exact J.out.tail.head.alloc _
    have hdo2 : Boxed w2 (w.heap.size + 1) 86 (.func (.func 64) #[] #[.pointer (some ⟨bs, 0, none⟩)]) := by rw [h2]; exact J.out.head.alloc _
    have hs2 : Boxed w2 bs 3 (.int .i64 0) := by rw [h2]; exact hs1.alloc _
    have hB2 : Below n₀ w w2 := by rw [h2]; exact hB1.alloc (by omega) _
    have hsz2 : w2.heap.size = w1.heap.size + 1 := by rw [h2]; simp
    rw [← h2] at hst
    clear h2 hb2 hA hs hs1 ho y0 y1 KT KN HX HY
    gi_wp2_with fail
    refine wpIn_rangeFunc_ownG rfl (by omega) (gf := 117) (lb := #[.pointer (some ⟨w1.heap.size, 0, none⟩)]) rfl trivial (enters_of Try.func117 (by kernel_rfl) rfl)
      hst kpw_t (kpw_b (by omega) (by omega)) (Below.refl _ _) (fun _ => rfl)
      (fun pre W => (Boxed W bs 3 (.int .i64 (wtS N (vals pre))) ∧ (Boxed W (w.heap.size + 1) 86 (.func (.func 64) #[] #[.pointer (some ⟨bs, 0, none⟩)]) ∧ Box W w.heap.size #[.int .i64 dim, .slice A N.length c] 24)) ∧ Below n₀ w2 W)
      (fun _ _ _ => False)
      (OwnFrom.and (OwnFrom.and (Own.from (boxed_own bs 3 (fun pre => .int .i64 (wtS N (vals pre)))) _) (OwnFrom.and (Own.from (boxed_own (w.heap.size + 1) 86 (fun _ => .func (.func 64) #[] #[.pointer (some ⟨bs, 0, none⟩)])) _) (box_from (by omega) _ _))) (ownFrom_below (by omega) (by omega)))
      (fun _ _ _ _ _ hs _ _ => hs)
      ⟨⟨hs2, hdo2, hbx2⟩, Below.refl _ _⟩
      (fun x => { tmps := #[Value.agg #[Value.int IntKind.i64 dim, Value.slice A N.length c],
          Value.func (Fn.func 64) #[] #[Value.pointer (some { block := bs, off := 0 })],
          Value.pointer (some { block := w.heap.size, off := 0 }),
          Value.pointer (some { block := w.heap.size + 1, off := 0 }), Value.int IntKind.i64 0, .int .i64 (x.1.1 : Nat), .int .i64 (x.1.2 : Nat), undef,
          Value.agg #[Value.int IntKind.i64 dim, Value.slice A N.length c], Value.bool true, Value.bool false,
          Value.agg #[Value.int IntKind.i64 dim, Value.slice A N.length c],
          Value.func (Fn.func 117) #[] #[Value.pointer (some { block := w1.heap.size, off := 0 })], .int .i64 (x.1.1 : Nat), .int .i64 (x.1.2 : Nat), undef,
          undef, undef, undef, undef, undef, undef, undef, undef, undef, undef, undef, undef, undef, undef, undef], defers := [] }) ?assign ?body ?done ?stop
    case assign =>
      intro l x W K hK
      gi_wp2
      exact hK
    case body =>
      rintro l pre x W ⟨⟨hv, hdo, hbx⟩, hB'⟩ hlt
      have hB := hB2.trans hB'
      obtain ⟨⟨k, dep⟩, hx1, hx2⟩ := x
      simp only at hx1 hx2
      have hbd := HBD.out pre
      have hsn : vals (pre ++ [(⟨(k, dep), hx1, hx2⟩ : NdI N.length)]) = vals pre ++ [(k, dep)] := vals_snoc pre _
      have hS : wtS N (vals (pre ++ [(⟨(k, dep), hx1, hx2⟩ : NdI N.length)])) = wtS N (vals pre) + wtE N (k, dep) := by rw [hsn, wtS_snoc]
      have hbs : 0 ≤ wtS N (vals pre) ∧ wtS N (vals pre) ≤ 1000000000000000000 := by omega
      have HLK := Lib.hid (HLV.out k hx1)
      have KP := Lib.hid (fun W => path_length (dep : Int) (N.getD k tn0).sz W (by omega) (norm_bd _))
      have hwe : wtE N (k, dep) = if (N.getD k tn0).lf = 0 then lenP dep (N.getD k tn0).sz * (N.getD k tn0).sz else 0 := rfl
      have hlp := lenP_bd (dep := (dep : Int)) (sz := (N.getD k tn0).sz) (by omega)
      rw [hwe] at hS
      have HS := Lib.hid hS
      have hlt' := hlt
      clear hwe hsn hS hbd HBD hst hs2 hdo2 hbx2 hlt
      generalize pre ++ [(⟨(k, dep), hx1, hx2⟩ : NdI N.length)] = q at *
      generalize wtS N (vals pre) = s at *
      obtain ⟨ad, eA, _, ⟨c0, c1, c2, c3, c4⟩, _⟩ := (HA.out.below hB).at hx1
      subst eA
      have hkI : (k : Int) < (N.length : Int) := by omega
      have hWs : n₀ ≤ W.heap.size := Nat.le_trans hnw hB.size
      have hcd := hdo.cell
      obtain ⟨x0, x1⟩ := box_cut hbx
      have b1W : w1.heap.size < W.heap.size := by have := hB'.size; omega
      generalize lenP (dep : Int) (N.getD k tn0).sz = lp at *
      generalize N.getD k tn0 = nd at *
      obtain ⟨na, nc, nco, nlv, nlf, nrt, nsz⟩ := nd
      simp only at *
      have HO := Lib.hid (Box.new W #[.slice na nco.length nc, .int .i64 nlv, .int .i64 nlf, .int .i64 nrt, .int .i64 nsz] 39)
      have B4 := Lib.hid ((Below.refl _ W).alloc (Nat.le_refl _) (.cells #[.slice na nco.length nc, .int .i64 nlv, .int .i64 nlf, .int .i64 nrt, .int .i64 nsz] 39))
      obtain ⟨z0, z1, z2, z3, z4⟩ := box5' HO.out
      have hcd4 := (hdo.alloc (.cells #[.slice na nco.length nc, .int .i64 nlv, .int .i64 nlf, .int .i64 nrt, .int .i64 nsz] 39)).cell
      by_cases hlf : nlf = 0
      · subst hlf
        rw [if_pos rfl] at HS
        obtain ⟨q1, q2⟩ := HLK.out rfl
        have hpz : 0 ≤ nsz ∧ nsz ≤ 64 := by omega
        have hnw' : n₀ ≤ w2.heap.size := by omega
        have hW2 := hB'.size
        have hmx : Try.prog.follows .mixedOrders = true := by kernel_rfl
        have HV := Lib.hid hv
        have HDO := Lib.hid hdo
        have HBX := Lib.hid hbx
        clear q1 q2 hv HLK hdo hbx
        gi_wp2
        refine wpIn_region_steps (LeafJ [some (.func (.func 64) #[] #[.pointer (some ⟨bs, 0, none⟩)]), some (.int .i64 dep), some (.pointer (some ⟨W.heap.size, 4, none⟩)), some (.int .i64 nsz), some (.int .i64 lp), some (.pointer (some ⟨W.heap.size, 4, none⟩)), some (.int .i64 nsz), none] w2.heap.size n₀ w1.heap.size bs (w.heap.size + 1) W.heap.size w.heap.size s (s + lp * nsz) (.func (.func 64) #[] #[.pointer (some ⟨bs, 0, none⟩)]) #[.slice na nco.length nc, .int .i64 nlv, .int .i64 0, .int .i64 nrt, .int .i64 nsz] #[.int .i64 dim, .slice (some ad) N.length c] W w2)
          [[], [], [], [2], [1, 3], [], [5], [0, 4, 6, 4]] hmx (by kernel_rfl) (by kernel_rfl) (by kernel_rfl) ?_ ?_ ?_ ?_
        · rintro f g vs X hfg ⟨h1, h2, h3⟩
          exact ⟨fun j u hj he => h1 j u ((hfg j (by have := (List.getElem?_eq_some_iff.1 he).1; simpa using this)).trans hj) he, by rw [← hfg 7 (by decide)]; exact h2, h3⟩
        · intro vs _
          exact ⟨fun j u h => by simp at h, ⟨HV.out.alloc _, HDO.out.alloc _, HO.out, HBX.out.alloc _⟩, KeepsFrom.of_grownBy (grown_none B4.out.drew) (fun j e => by cases e), kpw_below B4.out.drew hWs b1W, hB'.trans (B4.out.drew.mono hWs)⟩
        · refine ⟨?_, ?_, ?_, ?_, ?_, ?_, ?_, ?_, trivial⟩
          all_goals
            intro f vs X hlen hf hp hj K hK
            rw [if_pos (by rfl)]
            obtain ⟨y0, y1, y2, y3, y4, y5, y6, y7, rfl⟩ := len8 hlen
            clear hlen
            have HJ := Lib.hid hj
            simp only [putAll, Act.put, List.setIfInBounds_toArray, List.set_cons_zero, List.set_cons_succ] at hK ⊢
            clear hj
            have hXs : n₀ ≤ X.heap.size := Nat.le_trans hnw' HJ.out.2.2.2.2.size
            have hX1 : w1.heap.size < X.heap.size := by have := HJ.out.2.2.2.2.size; omega
          -- 0
          · have hx := HJ.out.2.1.2.1.cell
            go_simp
            refine hK _ X ?_
            exact HJ.out.step (i := 0) (by simp) (by decide) _ (fun u hu => by simpa using hu)
          -- 1
          · go_simp
            refine hK _ X ?_
            exact HJ.out.step (i := 1) (by simp) (by decide) _ (fun u hu => by simpa using hu)
          -- 2
          · go_simp
            refine hK _ X ?_
            exact HJ.out.step (i := 2) (by simp) (by decide) _ (fun u hu => by simpa using hu)
          -- 3
          · have e2 := HJ.out.1 2 _ (hp 2 (by simp)) rfl
            simp only [List.getD_cons_succ, List.getD_cons_zero] at e2
            subst e2
            obtain ⟨m0, m1, m2, m3, m4⟩ := box5' HJ.out.2.1.2.2.1
            go_simp
            refine hK _ X ?_
            exact HJ.out.step (i := 3) (by simp) (by decide) _ (fun u hu => by simpa using hu)
          -- 4
          · have e1 := HJ.out.1 1 _ (hp 1 (by simp)) rfl
            have e3 := HJ.out.1 3 _ (hp 3 (by simp)) rfl
            simp only [List.getD_cons_succ, List.getD_cons_zero] at e1 e3
            subst e1
            subst e3
            go_simp
            refine ⟨trivial, ?_⟩
            refine (CallsIn.inRound l (callsIn_wide.2 (KP.out X))).mono ?_
            rintro e w3 ⟨rfl, b3⟩
            refine hK _ w3 ?_
            exact (HJ.out.below b3 hXs hX1).step (i := 4) (by simp) (by decide) _ (fun u hu => by simpa using hu)
          -- 5
          · go_simp
            refine hK _ X ?_
            exact HJ.out.step (i := 5) (by simp) (by decide) _ (fun u hu => by simpa using hu)
          -- 6
          · have e5 := HJ.out.1 5 _ (hp 5 (by simp)) rfl
            simp only [List.getD_cons_succ, List.getD_cons_zero] at e5
            subst e5
            obtain ⟨m0, m1, m2, m3, m4⟩ := box5' HJ.out.2.1.2.2.1
            go_simp
            refine hK _ X ?_
            exact HJ.out.step (i := 6) (by simp) (by decide) _ (fun u hu => by simpa using hu)
          -- 7
          · have e0 := HJ.out.1 0 _ (hp 0 (by simp)) rfl
            have e4 := HJ.out.1 4 _ (hp 4 (by simp)) rfl
            have e6 := HJ.out.1 6 _ (hp 6 (by simp)) rfl
            simp only [List.getD_cons_succ, List.getD_cons_zero] at e0 e4 e6
            subst e0
            subst e4
            subst e6
            have v3 := HJ.out.2.1.1
            rw [hf] at v3
            go_simp
            refine ⟨trivial, ?_⟩
            refine (CallsIn.inRound l (callsIn_wide.2 (weight_1 bs s lp nsz X v3 hbs hlp hpz))).mono ?_
            rintro e w4 ⟨⟨v, rfl⟩, rfl⟩
            refine hK v _ ?_
            exact HJ.out.set rfl hn hXs (by omega) (by omega) (by omega) (by omega) (by omega) v (by simp)
        · intro vs X hl hj
          exact ⟨hj.2.2.1, hj.2.2.2.1, ⟨by rw [HS.out]; exact hj.2.1.1, hj.2.1.2.1, hj.2.1.2.2.2⟩, hj.2.2.2.2⟩
      · rw [if_neg hlf] at HS
        have hn0 : (nlf == 0) = false := by simpa using hlf
        gi_wp2
        exact ⟨KeepsFrom.of_grownBy (grown_none B4.out) (fun j e => by cases e), kpw_below B4.out hWs b1W, ⟨⟨by rw [HS.out, Int.add_zero]; exact hv.alloc _, hdo.alloc _, hbx.alloc _⟩, hB'.trans (B4.out.mono hWs)⟩⟩
    case done =>
      rintro D ys W hD hys ⟨⟨hv, hdo, hbx⟩, hB'⟩ hK
      have hB := hB2.trans hB'
      rw [hys] at hv
      have hKB : Below n₀ W (W.putObj D (.deferred none)) := (kpw_b (n₀ := n₀) (b1 := 0) (B := w2.heap.size) (by omega) (by omega) W D _ (.deferred none) hD hK rfl rfl).1
      have hKS : Boxed (W.putObj D (.deferred none)) bs 3 (.int .i64 (wtS N (allT N dim))) := hv.kept (grownBy_putObj' W D _) (fun e => by cases e; omega)
      gi_wp2
      all_goals
        refine ⟨by simp, .inl ⟨_, _, rfl, run_takeDeferred hK, ?_⟩⟩
        exact ⟨_, results_tmp rfl _ _ _, by simp, hB.trans hKB, hKS⟩
    case stop =>
      rintro D c pre W _ _ h _
      exact h.elim
end Go.Proofs.Ytkkeejbgaaodeaa
/-! Layer 12: each leaf of a tree, the least and the greatest length. -/
namespace Go.Proofs.Ytkkeejbgaaodeaa
open Go.RowKit Go.Shelf Go.Maps
set_option linter.unusedVariables false
set_option linter.unusedSimpArgs false
attribute [local go_sem] Oper.semAt_some

/-- the least and the greatest length of the leaves among these nodes -/
def enE (N : List TN) (p : Int × Int) (x : Nat × Nat) : Int × Int := if (N.getD x.1 tn0).lf = 0 then (min p.1 (lenP x.2 (N.getD x.1 tn0).sz), max p.2 (lenP x.2 (N.getD x.1 tn0).sz)) else p
def enS (N : List TN) (l : List (Nat × Nat)) : Int × Int := l.foldl (enE N) (274877906944, 0)
theorem enS_snoc (N : List TN) (l : List (Nat × Nat)) (x : Nat × Nat) : enS N (l ++ [x]) = enE N (enS N l) x := by simp [enS]
/-- two boxes of numbers -/
def Two2 (X : World) (a b : Nat) (p : Int × Int) : Prop := Boxed X a 3 (.int .i64 p.1) ∧ Boxed X b 3 (.int .i64 p.2)
theorem Two2.below {X Y : World} {a b : Nat} {p : Int × Int} (h : Two2 X a b p) (hb : Below X.heap.size X Y) : Two2 Y a b p := ⟨(hb.block _ h.1.lt).trans h.1, (hb.block _ h.2.lt).trans h.2⟩
theorem Two2.alloc {X : World} {a b : Nat} {p : Int × Int} (h : Two2 X a b p) (o : Obj) : Two2 (X.alloc o) a b p := ⟨Boxed.alloc h.1 o, Boxed.alloc h.2 o⟩
theorem Two2.set {X : World} {a b : Nat} {p : Int × Int} (h : Two2 X a b p) (hab : b ≠ a) (u v : Int) : Two2 ((X.setCell ⟨a, 0, none⟩ (.int .i64 u)).setCell ⟨b, 0, none⟩ (.int .i64 v)) a b (u, v) :=
  ⟨(Boxed.set _ h.1).other (Ne.symm hab) _, Boxed.set _ (h.2.other hab _)⟩
theorem Two2.own {β : Type} (a b B : Nat) (f : β → Int × Int) : OwnFrom B (fun s W => Two2 W a b (f s)) :=
  OwnFrom.and (Own.from (boxed_own a 3 (fun s => .int .i64 (f s).1)) _) (Own.from (boxed_own b 3 (fun s => .int .i64 (f s).2)) _)
/-- what holds in the drawn region of a leaf's round -/
def LeafK (E : List (Option Value)) (B n₀ b1 ba bs bd gN gT : Nat) (s s' : Int × Int) (dv : Value) (O T : Array Value) (W w2 : World) (f : Nat → Bool) (vs : List Value) (X : World) : Prop :=
  RegV E f vs ∧ (Two2 X ba bs (cond (f 7) s' s) ∧ Boxed X bd 86 dv ∧ Box X gN O 39 ∧ Box X gT T 24) ∧ KeepsFrom B W X ∧ KpW n₀ b1 W X ∧ Below n₀ w2 X
theorem LeafK.step {E : List (Option Value)} {B n₀ b1 ba bs bd gN gT : Nat} {s s' : Int × Int} {dv : Value} {O T : Array Value} {W w2 : World} {f : Nat → Bool} {vs : List Value} {X : World} (h : LeafK E B n₀ b1 ba bs bd gN gT s s' dv O T W w2 f vs X) {i : Nat} (hi : i < vs.length) (h7 : i ≠ 7) (v : Value) (hv : ∀ u, E[i]? = some (some u) → v = u) :
    LeafK E B n₀ b1 ba bs bd gN gT s s' dv O T W w2 (fun j => if j = i then true else f j) (vs.set i v) X :=
  ⟨h.1.set hi hv, by simp only [if_neg (Ne.symm h7)]; exact h.2.1, h.2.2⟩
theorem LeafK.below {E : List (Option Value)} {B n₀ b1 ba bs bd gN gT : Nat} {s s' : Int × Int} {dv : Value} {O T : Array Value} {W w2 : World} {f : Nat → Bool} {vs : List Value} {X X' : World} (h : LeafK E B n₀ b1 ba bs bd gN gT s s' dv O T W w2 f vs X) (hb : Below X.heap.size X X') (hn : n₀ ≤ X.heap.size) (h1 : b1 < X.heap.size) :
    LeafK E B n₀ b1 ba bs bd gN gT s s' dv O T W w2 f vs X' :=
  ⟨h.1, ⟨h.2.1.1.below hb, (hb.block _ h.2.1.2.1.lt).trans h.2.1.2.1, h.2.1.2.2.1.below hb h.2.1.2.2.1.lt, h.2.1.2.2.2.below hb h.2.1.2.2.2.lt⟩,
    h.2.2.1.trans (KeepsFrom.of_grownBy (grown_none hb) (fun j e => by cases e)), kpw_t h.2.2.2.1 (kpw_below hb hn h1), h.2.2.2.2.trans (hb.mono hn)⟩
theorem LeafK.set {E : List (Option Value)} {B n₀ b1 ba bs bd gN gT : Nat} {s s' : Int × Int} {dv : Value} {O T : Array Value} {W w2 : World} {f : Nat → Bool} {vs : List Value} {X : World} (h : LeafK E B n₀ b1 ba bs bd gN gT s s' dv O T W w2 f vs X) (hE : E[7]? = some none) (hab : bs ≠ ba) (hn : n₀ ≤ bs) (hna : n₀ ≤ ba) (hn2 : n₀ ≤ X.heap.size) (hX1 : b1 < X.heap.size) (h1 : b1 ≠ bs) (h2 : bd ≠ bs) (h3 : gN ≠ bs) (h4 : gT ≠ bs) (h1' : b1 ≠ ba) (h2' : bd ≠ ba) (h3' : gN ≠ ba) (h4' : gT ≠ ba) (hB : bs < B) (hB' : ba < B) (v : Value) (hl : 7 < vs.length) :
    LeafK E B n₀ b1 ba bs bd gN gT s s' dv O T W w2 (fun j => if j = 7 then true else f j) (vs.set 7 v) ((X.setCell ⟨ba, 0, none⟩ (.int .i64 s'.1)).setCell ⟨bs, 0, none⟩ (.int .i64 s'.2)).drew :=
  ⟨h.1.set hl (fun u hu => by rw [hE] at hu; cases hu), ⟨by dsimp only; rw [if_pos rfl]; exact h.2.1.1.set hab s'.1 s'.2, (h.2.1.2.1.other h2' _).other h2 _, (h.2.1.2.2.1.off (Ne.symm h3') _).off (Ne.symm h3) _, (h.2.1.2.2.2.off (Ne.symm h4') _).off (Ne.symm h4) _⟩,
    (h.2.2.1.trans (KeepsFrom.of_grownBy (grownBy_setCell' X ba _) (fun j e => by cases e; exact hB'))).trans ((KeepsFrom.of_grownBy (grownBy_setCell' _ bs _) (fun j e => by cases e; exact hB)).trans (KeepsFrom.of_grownBy (grown_none (Below.refl _ _).drew) (fun j e => by cases e))),
    kpw_t h.2.2.2.1 (kpw_t (kpw_set h.2.1.1.1 hna h1' hn2 _) (kpw_t (kpw_set (h.2.1.1.2.other hab _) hn h1 (by simp only [World.setCell, Array.size_modify]; exact hn2) _) (kpw_below (Below.refl _ _).drew (by simp only [World.setCell, Array.size_modify]; exact hn2) (by simp only [World.setCell, Array.size_modify]; exact hX1)))), ((h.2.2.2.2.setCell hna _).setCell hn _).drew⟩
set_option maxRecDepth 100000 in
set_option maxHeartbeats 8000000 in
theorem each_ends (N : List TN) (dim : Int) (A : Option Addr) (c n₀ ba bs : Nat) (hab : bs ≠ ba) (w : World) (hN : N.length ≤ 1000) (ho : okT N) (hA : LiesT w n₀ A N) (hna : n₀ ≤ ba) (hn : n₀ ≤ bs) (hs : Two2 w ba bs (274877906944, 0)) :
    Calls Try.prog 61 #[.agg #[.int .i64 dim, .slice A N.length c], .func (.func 62) #[] #[.pointer (some ⟨ba, 0, none⟩), .pointer (some ⟨bs, 0, none⟩)]] w fun e w' => e = .returned (.int .i64 (if isT N dim = true then 0 else 100)) ∧ Below n₀ w w' ∧ Two2 w' ba bs (enS N (allT N dim)) := by
  have hbw := hs.2.lt
  have haw := hs.1.lt
  have hnw : n₀ ≤ w.heap.size := by omega
  have HX := Lib.hid ((Kpc.start w).alloc #[.int .i64 dim, .slice A N.length c] 24)
  have HY := Lib.hid (HX.out.alloc #[(.func (.func 62) #[] #[.pointer (some ⟨ba, 0, none⟩), .pointer (some ⟨bs, 0, none⟩)])] 86)
  rw [alloc_size'] at HY
  obtain ⟨y0, y1⟩ := box_cut HY.out.tail.head
  have KT := Lib.hid (fun W (h : Below w.heap.size w W) => tree_isT N dim A c w.heap.size W (by omega) ho ((hA.below (h.mono hnw)).mono hnw) h.size)
  have KN := Lib.hid (fun W (h : Below w.heap.size w W) => nodes_at dim A N.length c W)
  refine (callsIn_wide (n := 5)).1 ?_
  refine callsIn_of_wp_marks Try.func61 rfl trivial ?_ rfl
  simp only [Try.ntmps61, List.size_toArray, List.length_cons, List.length_nil, Nat.reduceAdd, Nat.reduceSub, Array.replicate_succ, Array.replicate_zero, List.push_toArray, List.append_toArray, List.nil_append, List.cons_append]
  gi_wp2_with fail
  refine ⟨trivial, ?_⟩
  refine (callsIn_wide.2 (KT.out _ HY.out.2.1)).mono ?_
  rintro e w1 ⟨rfl, b1⟩
  have J := Lib.hid (HY.out.below b1)
  clear b1 y0 y1
  obtain ⟨y0, y1⟩ := box_cut J.out.tail.head
  have hB1 : Below n₀ w w1 := J.out.2.1.mono hnw
  have hs1 : Two2 w1 ba bs (274877906944, 0) := hs.below J.out.2.1
  cases hT : isT N dim with
  | false =>
    have HAT := Lib.hid (allT_no hT)
    gi_wp2
    all_goals exact ⟨_, results_tmp rfl _ _ _, by simp, hB1, by rw [HAT.out]; exact hs1⟩
  | true =>
    have HLV := Lib.hid (leaves_ok hT)
    have hsz1 : w.heap.size + 2 ≤ w1.heap.size := J.out.head.lt
    have hb2 : Box (w1.alloc (.cells #[.int .i64 dim, .slice A N.length c] 24)) w1.heap.size #[.int .i64 dim, .slice A N.length c] 24 := Box.new _ _ _
    have hst := nodes_stops 4 (by omega) N dim A c n₀ w1.heap.size (w1.alloc (.cells #[.int .i64 dim, .slice A N.length c] 24)) ((hA.below hB1).below ((Below.refl _ _).alloc (by omega) _)) (by simp; omega) hb2 ho hN
    have HA := Lib.hid hA
    gi_wp2_with fail
    refine ⟨trivial, ?_⟩
    refine (callsIn_wide.2 (KN.out _ J.out.2.1)).mono ?_
    rintro e w2 ⟨rfl, h2⟩
    have hbx2 : Box w2 w.heap.size #[.int .i64 dim, .slice A N.length c] 24 := by rw [h2]; exact J.out.tail.head.alloc _
    have hdo2 : Boxed w2 (w.heap.size + 1) 86 (.func (.func 62) #[] #[.pointer (some ⟨ba, 0, none⟩), .pointer (some ⟨bs, 0, none⟩)]) := by rw [h2]; exact J.out.head.alloc _
    have hs2 : Two2 w2 ba bs (274877906944, 0) := by rw [h2]; exact hs1.alloc _
    have hB2 : Below n₀ w w2 := by rw [h2]; exact hB1.alloc (by omega) _
    have hsz2 : w2.heap.size = w1.heap.size + 1 := by rw [h2]; simp
    rw [← h2] at hst
    clear h2 hb2 hA hs hs1 ho y0 y1 KT KN HX HY
    gi_wp2_with fail
    refine wpIn_rangeFunc_ownG rfl (by omega) (gf := 117) (lb := #[.pointer (some ⟨w1.heap.size, 0, none⟩)]) rfl trivial (enters_of Try.func117 (by kernel_rfl) rfl)
      hst kpw_t (kpw_b (by omega) (by omega)) (Below.refl _ _) (fun _ => rfl)
      (fun pre W => (Two2 W ba bs (enS N (vals pre)) ∧ (Boxed W (w.heap.size + 1) 86 (.func (.func 62) #[] #[.pointer (some ⟨ba, 0, none⟩), .pointer (some ⟨bs, 0, none⟩)]) ∧ Box W w.heap.size #[.int .i64 dim, .slice A N.length c] 24)) ∧ Below n₀ w2 W)
      (fun _ _ _ => False)
      (OwnFrom.and (OwnFrom.and (Two2.own ba bs _ (fun pre => enS N (vals pre))) (OwnFrom.and (Own.from (boxed_own (w.heap.size + 1) 86 (fun _ => .func (.func 62) #[] #[.pointer (some ⟨ba, 0, none⟩), .pointer (some ⟨bs, 0, none⟩)])) _) (box_from (by omega) _ _))) (ownFrom_below (by omega) (by omega)))
      (fun _ _ _ _ _ hs _ _ => hs)
      ⟨⟨hs2, hdo2, hbx2⟩, Below.refl _ _⟩
      (fun x => { tmps := #[Value.agg #[Value.int IntKind.i64 dim, Value.slice A N.length c],
          Value.func (Fn.func 62) #[] #[Value.pointer (some { block := ba, off := 0 }), Value.pointer (some { block := bs, off := 0 })],
          Value.pointer (some { block := w.heap.size, off := 0 }),
          Value.pointer (some { block := w.heap.size + 1, off := 0 }), Value.int IntKind.i64 0, .int .i64 (x.1.1 : Nat), .int .i64 (x.1.2 : Nat), undef,
          Value.agg #[Value.int IntKind.i64 dim, Value.slice A N.length c], Value.bool true, Value.bool false,
          Value.agg #[Value.int IntKind.i64 dim, Value.slice A N.length c],
          Value.func (Fn.func 117) #[] #[Value.pointer (some { block := w1.heap.size, off := 0 })], .int .i64 (x.1.1 : Nat), .int .i64 (x.1.2 : Nat), undef,
          undef, undef, undef, undef, undef, undef, undef, undef, undef, undef, undef, undef, undef, undef, undef], defers := [] }) ?assign ?body ?done ?stop
    case assign =>
      intro l x W K hK
      gi_wp2
      exact hK
    case body =>
      rintro l pre x W ⟨⟨hv, hdo, hbx⟩, hB'⟩ hlt
      have hB := hB2.trans hB'
      obtain ⟨⟨k, dep⟩, hx1, hx2⟩ := x
      simp only at hx1 hx2
      have hsn : vals (pre ++ [(⟨(k, dep), hx1, hx2⟩ : NdI N.length)]) = vals pre ++ [(k, dep)] := vals_snoc pre _
      have hS : enS N (vals (pre ++ [(⟨(k, dep), hx1, hx2⟩ : NdI N.length)])) = enE N (enS N (vals pre)) (k, dep) := by rw [hsn, enS_snoc]
      have HLK := Lib.hid (HLV.out k hx1)
      have KP := Lib.hid (fun W => path_length (dep : Int) (N.getD k tn0).sz W (by omega) (norm_bd _))
      have hwe : enE N (enS N (vals pre)) (k, dep) = if (N.getD k tn0).lf = 0 then (min (enS N (vals pre)).1 (lenP dep (N.getD k tn0).sz), max (enS N (vals pre)).2 (lenP dep (N.getD k tn0).sz)) else enS N (vals pre) := rfl
      have hlp := lenP_bd (dep := (dep : Int)) (sz := (N.getD k tn0).sz) (by omega)
      rw [hwe] at hS
      have HS := Lib.hid hS
      have hlt' := hlt
      clear hwe hsn hS hst hs2 hdo2 hbx2 hlt
      generalize pre ++ [(⟨(k, dep), hx1, hx2⟩ : NdI N.length)] = q at *
      generalize enS N (vals pre) = s at *
      obtain ⟨ad, eA, _, ⟨c0, c1, c2, c3, c4⟩, _⟩ := (HA.out.below hB).at hx1
      subst eA
      have hkI : (k : Int) < (N.length : Int) := by omega
      have hWs : n₀ ≤ W.heap.size := Nat.le_trans hnw hB.size
      have hcd := hdo.cell
      obtain ⟨x0, x1⟩ := box_cut hbx
      have b1W : w1.heap.size < W.heap.size := by have := hB'.size; omega
      generalize lenP (dep : Int) (N.getD k tn0).sz = lp at *
      generalize N.getD k tn0 = nd at *
      obtain ⟨na, nc, nco, nlv, nlf, nrt, nsz⟩ := nd
      simp only at *
      have HO := Lib.hid (Box.new W #[.slice na nco.length nc, .int .i64 nlv, .int .i64 nlf, .int .i64 nrt, .int .i64 nsz] 39)
      have B4 := Lib.hid ((Below.refl _ W).alloc (Nat.le_refl _) (.cells #[.slice na nco.length nc, .int .i64 nlv, .int .i64 nlf, .int .i64 nrt, .int .i64 nsz] 39))
      obtain ⟨z0, z1, z2, z3, z4⟩ := box5' HO.out
      have hcd4 := (hdo.alloc (.cells #[.slice na nco.length nc, .int .i64 nlv, .int .i64 nlf, .int .i64 nrt, .int .i64 nsz] 39)).cell
      by_cases hlf : nlf = 0
      · subst hlf
        rw [if_pos rfl] at HS
        obtain ⟨q1, q2⟩ := HLK.out rfl
        have hpz : 0 ≤ nsz ∧ nsz ≤ 64 := by omega
        have hnw' : n₀ ≤ w2.heap.size := by omega
        have hW2 := hB'.size
        have hmx : Try.prog.follows .mixedOrders = true := by kernel_rfl
        have HV := Lib.hid hv
        have HDO := Lib.hid hdo
        have HBX := Lib.hid hbx
        clear q1 q2 hv HLK hdo hbx
        gi_wp2
        refine wpIn_region_steps (LeafK [some (.func (.func 62) #[] #[.pointer (some ⟨ba, 0, none⟩), .pointer (some ⟨bs, 0, none⟩)]), some (.int .i64 dep), some (.pointer (some ⟨W.heap.size, 4, none⟩)), some (.int .i64 nsz), some (.int .i64 lp), some (.pointer (some ⟨W.heap.size, 4, none⟩)), some (.int .i64 nsz), none] w2.heap.size n₀ w1.heap.size ba bs (w.heap.size + 1) W.heap.size w.heap.size s (min s.1 lp, max s.2 lp) (.func (.func 62) #[] #[.pointer (some ⟨ba, 0, none⟩), .pointer (some ⟨bs, 0, none⟩)]) #[.slice na nco.length nc, .int .i64 nlv, .int .i64 0, .int .i64 nrt, .int .i64 nsz] #[.int .i64 dim, .slice (some ad) N.length c] W w2)
          [[], [], [], [2], [1, 3], [], [5], [0, 4, 6, 4]] hmx (by kernel_rfl) (by kernel_rfl) (by kernel_rfl) ?_ ?_ ?_ ?_
        · rintro f g vs X hfg ⟨h1, h2, h3⟩
          exact ⟨fun j u hj he => h1 j u ((hfg j (by have := (List.getElem?_eq_some_iff.1 he).1; simpa using this)).trans hj) he, by rw [← hfg 7 (by decide)]; exact h2, h3⟩
        · intro vs _
          exact ⟨fun j u h => by simp at h, ⟨HV.out.alloc _, HDO.out.alloc _, HO.out, HBX.out.alloc _⟩, KeepsFrom.of_grownBy (grown_none B4.out.drew) (fun j e => by cases e), kpw_below B4.out.drew hWs b1W, hB'.trans (B4.out.drew.mono hWs)⟩
        · refine ⟨?_, ?_, ?_, ?_, ?_, ?_, ?_, ?_, trivial⟩
          all_goals
            intro f vs X hlen hf hp hj K hK
            rw [if_pos (by rfl)]
            obtain ⟨y0, y1, y2, y3, y4, y5, y6, y7, rfl⟩ := len8 hlen
            clear hlen
            have HJ := Lib.hid hj
            simp only [putAll, Act.put, List.setIfInBounds_toArray, List.set_cons_zero, List.set_cons_succ] at hK ⊢
            clear hj
            have hXs : n₀ ≤ X.heap.size := Nat.le_trans hnw' HJ.out.2.2.2.2.size
            have hX1 : w1.heap.size < X.heap.size := by have := HJ.out.2.2.2.2.size; omega
          -- 0
          · have hx := HJ.out.2.1.2.1.cell
            go_simp
            refine hK _ X ?_
            exact HJ.out.step (i := 0) (by simp) (by decide) _ (fun u hu => by simpa using hu)
          -- 1
          · go_simp
            refine hK _ X ?_
            exact HJ.out.step (i := 1) (by simp) (by decide) _ (fun u hu => by simpa using hu)
          -- 2
          · go_simp
            refine hK _ X ?_
            exact HJ.out.step (i := 2) (by simp) (by decide) _ (fun u hu => by simpa using hu)
          -- 3
          · have e2 := HJ.out.1 2 _ (hp 2 (by simp)) rfl
            simp only [List.getD_cons_succ, List.getD_cons_zero] at e2
            subst e2
            obtain ⟨m0, m1, m2, m3, m4⟩ := box5' HJ.out.2.1.2.2.1
            go_simp
            refine hK _ X ?_
            exact HJ.out.step (i := 3) (by simp) (by decide) _ (fun u hu => by simpa using hu)
          -- 4
          · have e1 := HJ.out.1 1 _ (hp 1 (by simp)) rfl
            have e3 := HJ.out.1 3 _ (hp 3 (by simp)) rfl
            simp only [List.getD_cons_succ, List.getD_cons_zero] at e1 e3
            subst e1
            subst e3
            go_simp
            refine ⟨trivial, ?_⟩
            refine (CallsIn.inRound l (callsIn_wide.2 (KP.out X))).mono ?_
            rintro e w3 ⟨rfl, b3⟩
            refine hK _ w3 ?_
            exact (HJ.out.below b3 hXs hX1).step (i := 4) (by simp) (by decide) _ (fun u hu => by simpa using hu)
          -- 5
          · go_simp
            refine hK _ X ?_
            exact HJ.out.step (i := 5) (by simp) (by decide) _ (fun u hu => by simpa using hu)
          -- 6
          · have e5 := HJ.out.1 5 _ (hp 5 (by simp)) rfl
            simp only [List.getD_cons_succ, List.getD_cons_zero] at e5
            subst e5
            obtain ⟨m0, m1, m2, m3, m4⟩ := box5' HJ.out.2.1.2.2.1
            go_simp
            refine hK _ X ?_
            exact HJ.out.step (i := 6) (by simp) (by decide) _ (fun u hu => by simpa using hu)
          -- 7
          · have e0 := HJ.out.1 0 _ (hp 0 (by simp)) rfl
            have e4 := HJ.out.1 4 _ (hp 4 (by simp)) rfl
            have e6 := HJ.out.1 6 _ (hp 6 (by simp)) rfl
            simp only [List.getD_cons_succ, List.getD_cons_zero] at e0 e4 e6
            subst e0
            subst e4
            subst e6
            have v3 := HJ.out.2.1.1
            rw [hf] at v3
            go_simp
            refine ⟨trivial, ?_⟩
            refine (CallsIn.inRound l (callsIn_wide.2 (ends_1 ba bs hab s.1 s.2 lp nsz X v3.1 v3.2))).mono ?_
            rintro e w4 ⟨⟨v, rfl⟩, rfl⟩
            refine hK v _ ?_
            exact HJ.out.set rfl hab hn hna hXs hX1 (by omega) (by omega) (by omega) (by omega) (by omega) (by omega) (by omega) (by omega) (by omega) (by omega) v (by simp)
        · intro vs X hl hj
          exact ⟨hj.2.2.1, hj.2.2.2.1, ⟨by rw [HS.out]; exact hj.2.1.1, hj.2.1.2.1, hj.2.1.2.2.2⟩, hj.2.2.2.2⟩
      · rw [if_neg hlf] at HS
        have hn0 : (nlf == 0) = false := by simpa using hlf
        gi_wp2
        exact ⟨KeepsFrom.of_grownBy (grown_none B4.out) (fun j e => by cases e), kpw_below B4.out hWs b1W, ⟨⟨by rw [HS.out]; exact hv.alloc _, hdo.alloc _, hbx.alloc _⟩, hB'.trans (B4.out.mono hWs)⟩⟩
    case done =>
      rintro D ys W hD hys ⟨⟨hv, hdo, hbx⟩, hB'⟩ hK
      have hB := hB2.trans hB'
      rw [hys] at hv
      have hKB : Below n₀ W (W.putObj D (.deferred none)) := (kpw_b (n₀ := n₀) (b1 := 0) (B := w2.heap.size) (by omega) (by omega) W D _ (.deferred none) hD hK rfl rfl).1
      have hKS : Two2 (W.putObj D (.deferred none)) ba bs (enS N (allT N dim)) := ⟨hv.1.kept (grownBy_putObj' W D _) (fun e => by cases e; omega), hv.2.kept (grownBy_putObj' W D _) (fun e => by cases e; omega)⟩
      gi_wp2
      all_goals
        refine ⟨by simp, .inl ⟨_, _, rfl, run_takeDeferred hK, ?_⟩⟩
        exact ⟨_, results_tmp rfl _ _ _, by simp, hB.trans hKB, hKS⟩
    case stop =>
      rintro D c pre W _ _ h _
      exact h.elim
end Go.Proofs.Ytkkeejbgaaodeaa
/-! Layer 12: Weight and Ends. -/
namespace Go.Proofs.Ytkkeejbgaaodeaa
open Go.RowKit Go.Shelf Go.Maps
set_option linter.unusedVariables false
set_option linter.unusedSimpArgs false
attribute [local go_sem] Oper.semAt_some

set_option maxRecDepth 100000 in
set_option maxHeartbeats 4000000 in
theorem path_Weight (N : List TN) (dim : Int) (A : Option Addr) (c B : Nat) (w : World) (hN : N.length ≤ 1000) (ho : okT N) (hA : LiesT w B A N) (hB : B ≤ w.heap.size) :
    Calls Try.prog 35 #[.agg #[.int .i64 dim, .slice A N.length c]] w fun e w' => e = .returned (.tuple #[.int .i64 (wtS N (allT N dim)), .int .i64 (if isT N dim = true then 0 else 100)]) ∧ Below w.heap.size w w' := by
  have HX := Lib.hid ((Kpc.start w).alloc #[.int .i64 dim, .slice A N.length c] 24)
  have HY := Lib.hid (HX.out.alloc #[.int .i64 0] 3)
  rw [alloc_size'] at HY
  obtain ⟨y0, y1⟩ := box_cut HY.out.tail.head
  have KE := Lib.hid (each_weight N dim A c w.heap.size (w.heap.size + 1) _ hN ho ((hA.below (HY.out.2.1.mono hB)).mono hB) (by omega) HY.out.head)
  generalize (if isT N dim = true then (0 : Int) else 100) = er at *
  generalize wtS N (allT N dim) = s at *
  clear hA ho
  go_enter Try.func35, Try.ntmps35
  go_wp2_with fail
  refine KE.out.mono ?_
  rintro e w1 ⟨rfl, b1, x1⟩
  have hx := x1.cell
  go_wp2
  go_ret2
  exact ⟨by simp, HY.out.2.1.trans b1⟩
set_option maxRecDepth 100000 in
set_option maxHeartbeats 4000000 in
theorem path_Ends (N : List TN) (dim : Int) (A : Option Addr) (c B : Nat) (w : World) (hN : N.length ≤ 1000) (ho : okT N) (hA : LiesT w B A N) (hB : B ≤ w.heap.size) :
    Calls Try.prog 33 #[.agg #[.int .i64 dim, .slice A N.length c]] w fun e w' => e = .returned (.tuple (if isT N dim = true then #[.int .i64 (enS N (allT N dim)).1, .int .i64 (enS N (allT N dim)).2, .int .i64 0] else #[.int .i64 0, .int .i64 0, .int .i64 100])) ∧ Below w.heap.size w w' := by
  have HX := Lib.hid ((Kpc.start w).alloc #[.int .i64 dim, .slice A N.length c] 24)
  have HY0 := Lib.hid (HX.out.alloc #[.int .i64 274877906944] 3)
  rw [alloc_size'] at HY0
  have HY := Lib.hid (HY0.out.alloc #[.int .i64 0] 3)
  rw [alloc_size', alloc_size'] at HY
  obtain ⟨y0, y1⟩ := box_cut HY.out.tail.tail.head
  have KE := Lib.hid (each_ends N dim A c w.heap.size (w.heap.size + 1) (w.heap.size + 1 + 1) (by omega) _ hN ho ((hA.below (HY.out.2.1.mono hB)).mono hB) (by omega) (by omega) ⟨HY.out.tail.head, HY.out.head⟩)
  generalize enS N (allT N dim) = s at *
  obtain ⟨s1, s2⟩ := s
  clear hA ho
  cases hT : isT N dim with
  | false =>
    rw [hT] at KE
    simp only [Bool.false_eq_true, if_false] at KE ⊢
    go_enter Try.func33, Try.ntmps33
    go_wp2_with fail
    refine KE.out.mono ?_
    rintro e w1 ⟨rfl, b1, x1, x2⟩
    go_wp2
    go_ret3
    exact ⟨by simp, HY.out.2.1.trans b1⟩
  | true =>
    rw [hT] at KE
    simp only [if_true] at KE ⊢
    go_enter Try.func33, Try.ntmps33
    go_wp2_with fail
    refine KE.out.mono ?_
    rintro e w1 ⟨rfl, b1, x1, x2⟩
    have hx1 := x1.cell
    have hx2 := x2.cell
    go_wp2
    go_region
    all_goals
      go_wp2
      go_ret3
      exact ⟨by simp, (HY.out.2.1.trans b1).drew⟩
end Go.Proofs.Ytkkeejbgaaodeaa
/-! Layer 12: a row of trees in the memory. -/
namespace Go.Proofs.Ytkkeejbgaaodeaa
open Go.RowKit
set_option linter.unusedVariables false
set_option linter.unusedSimpArgs false

/-- a tree as the memory has it -/
structure TT where
  dim : Int
  a : Option Addr
  c : Nat
  n : List TN
def tt0 : TT := ⟨0, none, 0, []⟩
/-- the trees lie in the memory, two cells each, and their nodes -/
def LiesTs (w : World) (B : Nat) (A : Option Addr) (T : List TT) : Prop :=
  (0 < T.length → ∃ ad : Addr, A = some ad ∧ ad.block < B ∧ ∀ j, j < T.length → w.cell? (ad.add (j * 2)) = some (.int .i64 (T.getD j tt0).dim) ∧ w.cell? ⟨(ad.add (j * 2)).block, (ad.add (j * 2)).off + 1, none⟩ = some (.slice (T.getD j tt0).a (T.getD j tt0).n.length (T.getD j tt0).c)) ∧ ∀ t ∈ T, LiesT w B t.a t.n
theorem mem_tt {T : List TT} {k : Nat} (h : k < T.length) : T.getD k tt0 ∈ T := by
  rw [List.getD_eq_getElem?_getD, List.getElem?_eq_getElem h]
  exact List.getElem_mem h
theorem LiesTs.at {w : World} {B : Nat} {A : Option Addr} {T : List TT} (h : LiesTs w B A T) {k : Nat} (hk : k < T.length) :
    ∃ ad : Addr, A = some ad ∧ ad.block < B ∧ (w.cell? (ad.add (k * 2)) = some (.int .i64 (T.getD k tt0).dim) ∧ w.cell? ⟨(ad.add (k * 2)).block, (ad.add (k * 2)).off + 1, none⟩ = some (.slice (T.getD k tt0).a (T.getD k tt0).n.length (T.getD k tt0).c)) ∧ LiesT w B (T.getD k tt0).a (T.getD k tt0).n := by
  obtain ⟨ad, e, hB, hc⟩ := h.1 (by omega)
  exact ⟨ad, e, hB, hc k hk, h.2 _ (mem_tt hk)⟩
theorem LiesTs.below {w w' : World} {B : Nat} {A : Option Addr} {T : List TT} (h : LiesTs w B A T) (hb : Below B w w') : LiesTs w' B A T := by
  refine ⟨fun h0 => ?_, fun t ht => (h.2 t ht).below hb⟩
  obtain ⟨ad, e, hB, hc⟩ := h.1 h0
  refine ⟨ad, e, hB, fun j hj => ?_⟩
  obtain ⟨c0, c1⟩ := hc j hj
  exact ⟨(hb.cell (by rw [add_block]; exact hB)).trans c0, (hb.cell (by show (ad.add (j * 2)).block < B; rw [add_block]; exact hB)).trans c1⟩
theorem LiesTs.mono {w : World} {B B' : Nat} {A : Option Addr} {T : List TT} (h : LiesTs w B A T) (hB : B ≤ B') : LiesTs w B' A T := by
  refine ⟨fun h0 => ?_, fun t ht => (h.2 t ht).mono hB⟩
  obtain ⟨ad, e, hb, hc⟩ := h.1 h0
  exact ⟨ad, e, Nat.lt_of_lt_of_le hb hB, hc⟩
def okTs (T : List TT) : Prop := ∀ t ∈ T, okT t.n ∧ t.n.length ≤ 1000
/-- are there trees, all of one dimension: the first k of them -/
def alkK (T : List TT) : Nat → Bool
  | 0 => true
  | k + 1 => alkK T k && (isT (T.getD k tt0).n (T.getD k tt0).dim && decide ((T.getD k tt0).dim = (T.getD 0 tt0).dim))
def alkV (T : List TT) : Int := if T.length = 0 then 100 else if alkK T T.length = true then 0 else 100
theorem alkK_mono {T : List TT} : ∀ {j k : Nat}, j ≤ k → alkK T k = true → alkK T j = true
  | j, 0, h, hk => by obtain rfl : j = 0 := by omega
                      exact hk
  | j, k + 1, h, hk => by
    by_cases he : j = k + 1
    · rw [he]; exact hk
    · refine alkK_mono (k := k) (by omega) ?_
      rw [alkK, Bool.and_eq_true] at hk
      exact hk.1
theorem alkK_at {T : List TT} {k : Nat} (hk : k < T.length) (h : alkK T T.length = true) : isT (T.getD k tt0).n (T.getD k tt0).dim = true ∧ (T.getD k tt0).dim = (T.getD 0 tt0).dim := by
  have := alkK_mono (j := k + 1) hk h
  rw [alkK, Bool.and_eq_true, Bool.and_eq_true] at this
  exact ⟨this.2.1, of_decide_eq_true this.2.2⟩
theorem alkV_bad {T : List TT} {k : Nat} (hk : k < T.length) (h : ¬ (isT (T.getD k tt0).n (T.getD k tt0).dim = true ∧ (T.getD k tt0).dim = (T.getD 0 tt0).dim)) : alkV T = 100 := by
  unfold alkV
  by_cases h0 : T.length = 0
  · rw [if_pos h0]
  · rw [if_neg h0, if_neg (fun ha => h (alkK_at hk ha))]
theorem alkV_good {T : List TT} (h0 : 0 < T.length) (h : alkK T T.length = true) : alkV T = 0 := by
  unfold alkV
  rw [if_neg (by omega), if_pos h]
/-- the lengths of x in the first k trees -/
def sumK (T : List TT) (x : List Int) : Nat → Int
  | 0 => 0
  | k + 1 => sumK T x k + (lenT (T.getD k tt0).n (T.getD k tt0).dim x).1
end Go.Proofs.Ytkkeejbgaaodeaa
