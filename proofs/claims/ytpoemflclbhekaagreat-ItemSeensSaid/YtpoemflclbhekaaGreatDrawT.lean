/- DrawA DrawB DrawC DrawD DrawE DrawF -/
import Derived.Test.YtpoemflclbhekaaGreatBase
import Derived.ProofKit
import Derived.OpenShut
import Derived.WalkMore
import Derived.Deep.Upon
/-! Package draw and the reference of layer 6: rows of words in memory, the contracts of Next, Left, Top, Share, may, and of the reference's Rest and Top. -/
namespace Go.Proofs.YtpoemflclbhekaaGreat
open Go.RowKit
set_option linter.unusedVariables false
set_option linter.unusedSimpArgs false

/-- the words of l lie from A on, in a block below B -/
def LiesU (w : World) (B : Nat) (A : Option Addr) (l : List Int) : Prop :=
  0 < l.length → ∃ ad : Addr, A = some ad ∧ ad.block < B ∧ ∀ j, j < l.length → w.cell? (ad.add j) = some (.int .u64 (l.getD j 0))
theorem LiesU.below {w w' : World} {B : Nat} {A : Option Addr} {l : List Int} (h : LiesU w B A l) (hb : Below B w w') : LiesU w' B A l := fun h0 => by
  obtain ⟨ad, e, hB, hc⟩ := h h0
  exact ⟨ad, e, hB, fun j hj => (hb.cell (by rw [add_block]; exact hB)).trans (hc j hj)⟩
theorem LiesU.mono {w : World} {B B' : Nat} {A : Option Addr} {l : List Int} (h : LiesU w B A l) (hB : B ≤ B') : LiesU w B' A l := fun h0 => by
  obtain ⟨ad, e, hb, hc⟩ := h h0
  exact ⟨ad, e, by omega, hc⟩
theorem LiesU.nil {w : World} {B : Nat} {A : Option Addr} : LiesU w B A [] := fun h => absurd h (by simp)
theorem LiesU.at {w : World} {B : Nat} {A : Option Addr} {l : List Int} (h : LiesU w B A l) {k : Nat} (hk : k < l.length) :
    ∃ ad : Addr, A = some ad ∧ ad.block < B ∧ w.cell? (ad.add k) = some (.int .u64 (l.getD k 0)) := by
  obtain ⟨ad, e, hb, hc⟩ := h (by omega)
  exact ⟨ad, e, hb, hc k hk⟩
theorem getD_u64 {l : List Int} (h : ∀ x ∈ l, U64 x) (k : Nat) : U64 (l.getD k 0) := by
  by_cases hk : k < l.length
  · rw [List.getD_eq_getElem?_getD, List.getElem?_eq_getElem hk]; exact h _ (List.getElem_mem _)
  · rw [List.getD_eq_getElem?_getD, List.getElem?_eq_none (by omega)]; unfold U64; simp

/-- the greatest draw that counts for n -/
def topN (n : Int) : Int := if n = 0 then 0 else 18446744073709551615 - 18446744073709551616 % n
def shareN (n : Int) : Int := if n < 2 then 0 else 18446744073709551616 / n
theorem top_u64 {n : Int} (h : U64 n) : U64 (topN n) := by
  obtain ⟨a, b⟩ := h
  unfold topN U64; split
  · omega
  · have := Int.emod_lt_of_pos 18446744073709551616 (show 0 < n by omega)
    have := Int.emod_nonneg 18446744073709551616 (show n ≠ 0 by omega)
    omega
theorem turn_mod {n : Int} (h : 0 < n) : (18446744073709551616 - n) % n = 18446744073709551616 % n := by
  rw [Int.sub_emod, Int.emod_self, Int.sub_zero, Int.emod_emod_of_dvd _ (Int.dvd_refl n)]
theorem turn_div {n : Int} (h : 0 < n) : (18446744073709551616 - n) / n + 1 = 18446744073709551616 / n := by
  have := Int.sub_ediv_of_dvd 18446744073709551616 (Int.dvd_refl n)
  rw [this, Int.ediv_self (by omega)]; omega

/-- the draw at a place: the number, the place behind it, the error -/
def nextN (l : List Int) (a : Int) : Int := if 0 ≤ a ∧ a < l.length then l.getD a.toNat 0 else 0
def nextA (l : List Int) (a : Int) : Int := if 0 ≤ a ∧ a < l.length then a + 1 else 0
def nextE (l : List Int) (a : Int) : Int := if a < 0 then 1 else if a < l.length then 0 else 60
abbrev nextV (l : List Int) (a : Int) : Value := .tuple #[.int .u64 (nextN l a), .int .i64 (nextA l a), .int .i64 (nextE l a)]
theorem nextV_neg {l : List Int} {a : Int} (h : a < 0) : Ending.returned (.tuple #[.int .u64 0, .int .i64 0, .int .i64 1]) = .returned (nextV l a) := by
  unfold nextV nextN nextA nextE; rw [if_neg (by omega), if_neg (by omega), if_pos h]
theorem nextV_out {l : List Int} {a : Int} (h : 0 ≤ a) (g : (l.length : Int) ≤ a) : Ending.returned (.tuple #[.int .u64 0, .int .i64 0, .int .i64 60]) = .returned (nextV l a) := by
  unfold nextV nextN nextA nextE; rw [if_neg (by omega), if_neg (by omega), if_neg (by omega), if_neg (by omega)]
theorem nextV_in {l : List Int} {k : Nat} (h : k < l.length) : Ending.returned (.tuple #[.int .u64 (l.getD k 0), .int .i64 (k + 1), .int .i64 0]) = .returned (nextV l k) := by
  unfold nextV nextN nextA nextE; rw [if_pos (by omega), if_pos (by omega), if_neg (by omega), if_pos (by omega)]; rfl
def leftN (N : Nat) (a : Int) : Int := if a < 0 ∨ (N : Int) < a then 0 else N - a
end Go.Proofs.YtpoemflclbhekaaGreat
/-! Package draw: (*hand).next, find. -/
namespace Go.Proofs.YtpoemflclbhekaaGreat
open Go.RowKit
set_option linter.unusedVariables false
set_option linter.unusedSimpArgs false

theorem below_drewN' {B : Nat} {a w : World} (h : Below B a w) (n : Nat) : Below B a (w.drewN n) := ⟨h.os, h.tape, h.output, h.size, h.block⟩
/-- the first of t draws from place k on that is not above top: the draw, where the hand is then, the error -/
def fnd (l : List Int) (top : Int) : Nat → Nat → Int × Int × Int
  | 0, k => (0, k, 61)
  | t + 1, k => if k < l.length then (if l.getD k 0 ≤ top then (l.getD k 0, k + 1, 0) else fnd l top t (k + 1)) else (0, 0, 60)
theorem fnd_0 (l : List Int) (top : Int) (k : Nat) : fnd l top 0 k = (0, (k : Int), 61) := rfl
theorem fnd_out {l : List Int} {top : Int} {t k : Nat} (h : ¬ k < l.length) : fnd l top (t + 1) k = (0, 0, 60) := by rw [fnd, if_neg h]
theorem fnd_hit {l : List Int} {top : Int} {t k : Nat} (h : k < l.length) (g : l.getD k 0 ≤ top) : fnd l top (t + 1) k = (l.getD k 0, (k : Int) + 1, 0) := by rw [fnd, if_pos h, if_pos g]
theorem fnd_more {l : List Int} {top : Int} {t k : Nat} (h : k < l.length) (g : ¬ l.getD k 0 ≤ top) : fnd l top (t + 1) k = fnd l top t (k + 1) := by rw [fnd, if_pos h, if_neg g]

end Go.Proofs.YtpoemflclbhekaaGreat
/-! Package draw: Bound, Range, Coin; the reference's. -/
namespace Go.Proofs.YtpoemflclbhekaaGreat
open Go.RowKit
set_option linter.unusedVariables false
set_option linter.unusedSimpArgs false

/-- what a bound that may be asked tells: the number, the place behind, the error -/
def hit (n : Int) (r : Int × Int × Int) : Int × Int × Int := if r.2.2 = 0 then (r.1 % n, r.2.1, 0) else (0, 0, r.2.2)
/-- what may be asked of any bound -/
def Asks (a n t : Int) : Prop := ¬ n = 0 ∧ 0 ≤ a ∧ 1 ≤ t ∧ t ≤ 64
instance (a n t : Int) : Decidable (Asks a n t) := by unfold Asks; exact inferInstance
def bnd (l : List Int) (a n t : Int) : Int × Int × Int := if Asks a n t then hit n (fnd l (topN n) t.toNat a.toNat) else (0, 0, 1)
abbrev bndV (r : Int × Int × Int) : Value := .tuple #[.int .u64 r.1, .int .i64 r.2.1, .int .i64 r.2.2]
theorem bnd_no {l : List Int} {a n t : Int} (h : ¬ Asks a n t) : Ending.returned (.tuple #[.int .u64 0, .int .i64 0, .int .i64 1]) = .returned (bndV (bnd l a n t)) := by
  unfold bnd; rw [if_neg h]
theorem bnd_yes {l : List Int} {n : Int} {k T : Nat} (h : Asks k n T) : bnd l k n T = hit n (fnd l (topN n) T k) := by
  unfold bnd; rw [if_pos h]; rfl
theorem hit_0 {n x y : Int} : hit n (x, y, 0) = (x % n, y, 0) := rfl
theorem hit_e {n x y z : Int} (h : ¬ z = 0) : hit n (x, y, z) = (0, 0, z) := by unfold hit; rw [if_neg h]
theorem fnd_u64 (l : List Int) (hl : ∀ x ∈ l, U64 x) (top : Int) : ∀ (t k : Nat), U64 (fnd l top t k).1
  | 0, k => by unfold fnd U64; simp
  | t + 1, k => by
    unfold fnd
    split
    · split
      · exact getD_u64 hl k
      · exact fnd_u64 l hl top t (k + 1)
    · unfold U64; simp

theorem dre2 (w : World) (a b : Nat) : ∃ n, (w.drewN a).drewN b = w.drewN n := ⟨_, World.drewN_drewN _ _ _⟩
theorem dre3 (w : World) (a b c : Nat) : ∃ n, ((w.drewN a).drewN b).drewN c = w.drewN n := by
  obtain ⟨n, h⟩ := dre2 w a b
  rw [h]; exact dre2 _ _ _
theorem below_of_alloc {w w' : World} {o : Obj} (h : Below w.heap.size (w.alloc o) w') : Below w.heap.size w w' := ((Below.refl _ _).alloc (Nat.le_refl _) o).trans h
/-! ### Range, Coin -/
def rng (l : List Int) (a lo hi t : Int) : Int × Int × Int :=
  if lo ≤ hi ∧ 0 ≤ a ∧ 1 ≤ t ∧ t ≤ 64 then
    (if hi - lo + 1 = 18446744073709551616 then (if a < l.length then (wrap64 (l.getD a.toNat 0), a + 1, 0) else (0, 0, 60))
     else let r := bnd l a (hi - lo + 1) t; if r.2.2 = 0 then (lo + r.1, r.2.1, 0) else (0, 0, r.2.2))
  else (0, 0, 1)
abbrev rngV (r : Int × Int × Int) : Value := .tuple #[.int .i64 r.1, .int .i64 r.2.1, .int .i64 r.2.2]
theorem bnd_lt {l : List Int} {a n t : Int} (hn : 0 < n) : 0 ≤ (bnd l a n t).1 ∧ (bnd l a n t).1 < n := by
  unfold bnd hit
  split
  · split
    · exact ⟨Int.emod_nonneg _ (by omega), Int.emod_lt_of_pos _ hn⟩
    · simp; omega
  · simp; omega
theorem rng_no {l : List Int} {a lo hi t : Int} (h : ¬ (lo ≤ hi ∧ 0 ≤ a ∧ 1 ≤ t ∧ t ≤ 64)) : Ending.returned (.tuple #[.int .i64 0, .int .i64 0, .int .i64 1]) = .returned (rngV (rng l a lo hi t)) := by
  unfold rng; rw [if_neg h]
def coin (l : List Int) (a p q t : Int) : Bool × Int × Int :=
  if 1 ≤ q ∧ 0 ≤ p ∧ p ≤ q then (let r := bnd l a q t; (decide (r.2.2 = 0) && decide (r.1 < p), r.2.1, r.2.2)) else (false, 0, 1)
abbrev coinV (r : Bool × Int × Int) : Value := .tuple #[.bool r.1, .int .i64 r.2.1, .int .i64 r.2.2]
theorem coin_no {l : List Int} {a p q t : Int} (h : ¬ (1 ≤ q ∧ 0 ≤ p ∧ p ≤ q)) : Ending.returned (.tuple #[.bool false, .int .i64 0, .int .i64 1]) = .returned (coinV (coin l a p q t)) := by
  unfold coin; rw [if_neg h]
theorem bnd_err {l : List Int} {a n t : Int} (h : ¬ (bnd l a n t).2.2 = 0) : bnd l a n t = (0, 0, (bnd l a n t).2.2) := by
  unfold bnd hit at *
  split
  · split
    · rename_i h1 h2; rw [if_pos h1, if_pos h2] at h; exact absurd rfl h
    · rfl
  · rfl
end Go.Proofs.YtpoemflclbhekaaGreat
/-! Package draw: Used; the reference's Same; what the statements of layer 6 ask of every program. -/
namespace Go.Proofs.YtpoemflclbhekaaGreat
open Go.RowKit
set_option linter.unusedVariables false
set_option linter.unusedSimpArgs false

theorem info_u64 : (Tryz.prog.info? 67).map (fun i => (i.zero, i.size, i.bytes)) = some (some (.int .u64 0), 1, 8) := by kernel_rfl
def litu (l : List Int) : List Value := l.map (Value.int .u64)
theorem litu_get (l : List Int) (j : Nat) (h : j < l.length) : (litu l)[j]? = some (.int .u64 (l.getD j 0)) := by
  simp [litu, List.getD, h]
theorem liesU_own {w : World} {base : Nat} {e : TypeId} {v : Value} {l : List Int} (h : w.ownsRow base e 1 v l.length (litu l)) :
    ∃ A c, v = .slice A l.length c ∧ l.length ≤ c ∧ c ≤ maxLen ∧ LiesU w w.heap.size A l := by
  rcases h.2 with ⟨rfl, h0⟩ | ⟨g, cap, cur, rfl, hb, hh, hnc, hm, hsz, hx⟩
  · rw [h0]
    exact ⟨none, 0, rfl, by omega, by unfold maxLen; omega, fun h1 => absurd h1 (by omega)⟩
  · refine ⟨_, cap, rfl, hnc, hm, fun _ => ⟨⟨g, 0, none⟩, rfl, ?_, fun j hj => ?_⟩⟩
    · rcases Nat.lt_or_ge g w.heap.size with hlt | hge
      · exact hlt
      · rw [Array.getElem?_eq_none hge] at hh; cases hh
    · have h1 : (⟨g, 0, none⟩ : Addr).add j = ⟨g, j, none⟩ := by unfold Addr.add; split <;> simp_all
      rw [h1]
      refine (cell_of_row w g j _ _ (0, 0) hh).trans ?_
      rw [← litu_get l j hj, ← hx, List.getElem?_take]
      simp
      intro h2; omega
/-- it gives a row of the words of l, of the call's own -/
def GivesU (l : List Int) (w : World) (e : Ending) (w' : World) : Prop :=
  ∃ A c, e = .returned (.slice A l.length c) ∧ l.length ≤ c ∧ c ≤ maxLen ∧ LiesU w' w'.heap.size A l ∧ Below w.heap.size w w'
theorem LiesU.add {w : World} {B : Nat} {ad : Addr} {l : List Int} (h : LiesU w B (some ad) l) (f : Nat) {j : Nat} (hj : f + j < l.length) : w.cell? ((ad.add f).add j) = some (.int .u64 (l.getD (f + j) 0)) := by
  obtain ⟨ad2, e, hb, hc⟩ := h (by omega)
  cases e
  rw [Addr.add_add]
  exact hc _ hj
theorem src_nil {size : Nat} {t : TypeId} {e : TypeId} (ht : Tryz.prog.underlying t = some (.slice e)) (X : Option Addr) (c : Nat) (w : World) : Src Tryz.prog size t (.slice X 0 c) 0 [] w := by
  refine ⟨.inl ⟨e, ht⟩, fun w' => by simp [Builtin.lenOf], ?_, ?_, by simp, by simp⟩
  · cases X with
    | none => exact run_firstCells_none _ _ _ _ _
    | some b => exact run_firstCells_some (P := Tryz.prog) w size 0 b 0 c [] (by simp) (by simp)
  · cases X with
    | none => exact run_firstCells_none _ _ _ _ _
    | some b => exact run_firstCells_some (P := Tryz.prog) w.drew size 0 b 0 c [] (by simp) (by simp)
def usedL (l : List Int) (f t : Int) : List Int := if f < 0 ∨ t < f ∨ l.length < t then [] else (l.drop f.toNat).take (t.toNat - f.toNat)
theorem liesU_cut {w : World} {B c : Nat} {A : Option Addr} {l : List Int} (h : LiesU w B A l) (f t : Nat) (ht : t ≤ l.length) (hf : f ≤ t) (hc : l.length ≤ c) :
    LiesU w B (if c = f then A else A.map (·.add f)) ((l.drop f).take (t - f)) := fun h0 => by
  have hlen : ((l.drop f).take (t - f)).length = t - f := by rw [List.length_take, List.length_drop]; omega
  rw [hlen] at h0
  obtain ⟨ad, rfl, hb, hcell⟩ := h (by omega)
  rw [if_neg (by omega)]
  refine ⟨ad.add f, rfl, by rw [add_block]; exact hb, fun j hj => ?_⟩
  rw [hlen] at hj
  rw [Addr.add_add, hcell (f + j) (by omega)]
  congr 2
  rw [List.getD_eq_getElem?_getD, List.getD_eq_getElem?_getD, List.getElem?_take, if_pos hj, List.getElem?_drop]
theorem take_same {l m : List Int} {k : Nat} (hk : k < l.length) (hm : l.length = m.length) (h : l.take k = m.take k) : (l.getD k 0 = m.getD k 0 → l.take (k + 1) = m.take (k + 1)) ∧ (l.getD k 0 ≠ m.getD k 0 → l ≠ m) := by
  refine ⟨fun he => ?_, fun he hh => he (by rw [hh])⟩
  rw [List.take_add_one, List.take_add_one, h]
  congr 2
  simp only [List.getD_eq_getElem?_getD, List.getElem?_eq_getElem hk, List.getElem?_eq_getElem (hm ▸ hk), Option.getD_some] at he ⊢
  rw [he]
end Go.Proofs.YtpoemflclbhekaaGreat
/-! What the statements of layer 6 ask of every program. -/
namespace Go.Proofs.YtpoemflclbhekaaGreat
open Go.RowKit
set_option linter.unusedVariables false
set_option linter.unusedSimpArgs false

theorem liesU_new (w : World) (l : List Int) : LiesU (w.alloc (.cells (litu l).toArray 67)) (w.heap.size + 1) (some ⟨w.heap.size, 0, none⟩) l := fun _ => by
  refine ⟨⟨w.heap.size, 0, none⟩, rfl, Nat.lt_succ_self _, fun j hj => ?_⟩
  have h1 : (⟨w.heap.size, 0, none⟩ : Addr).add j = ⟨w.heap.size, j, none⟩ := by unfold Addr.add; split <;> simp_all
  rw [h1, (Box.new w _ _).cell j]
  simp [litu, List.getD, hj]
abbrev liveL : List Int := [18446744073709551615, 7]
theorem live_u : ∀ x ∈ liveL, U64 x := by intro x hx; simp at hx; unfold U64; omega
theorem lb1 : bnd liveL 0 3 2 = (1, 2, 0) := by decide +kernel
theorem lb2 : bnd liveL 0 3 1 = (0, 0, 61) := by decide +kernel
theorem lb3 : bnd liveL 2 3 1 = (0, 0, 60) := by decide +kernel
theorem lb4 : rng liveL 1 (-2) 0 1 = (-1, 2, 0) := by decide +kernel
theorem lb5 : coin liveL 1 2 3 1 = (true, 2, 0) := by decide +kernel
theorem lb6 : nextV liveL 1 = .tuple #[.int .u64 7, .int .i64 2, .int .i64 0] := rfl
theorem lb7 : topN 3 = 18446744073709551614 := by decide +kernel
theorem lb8 : shareN 3 = 6148914691236517205 := by decide +kernel
theorem lb9 : usedL liveL 1 2 = [7] := by decide +kernel
abbrev liveW (w : World) : World := w.alloc (.cells #[.int .u64 18446744073709551615, .int .u64 7] 67)
end Go.Proofs.YtpoemflclbhekaaGreat
/-! How a list of words among the arguments of a law is opened. -/
namespace Go.Proofs.YtpoemflclbhekaaGreat
open Go.RowKit Go.WideShapes Go.ChangeShapes Go.Joins Go.Deep
section
variable {H : Type} {enc : TypeId × Value → H}
theorem cells_u64 : Tryz.prog.cellsOf 67 = 1 := by kernel_rfl
theorem open_words {P : Program} {W : World} {base : Nat} {t e : TypeId} {v : Value} {d : DataW H} {p : List MemPlace} (ht : P.underlying t = some (.slice e)) (he : P.underlying e = some (.int .u64)) (hc : P.cellsOf e = 1)
    (hv : Value.okWide P W .any base t v) (h : DataW.Trod enc P W 0 (fun _ => true) true t v d p) :
    ∃ A l c, v = .slice A l.length c ∧ LiesU W W.heap.size A l ∧ (∀ x ∈ l, U64 x) ∧ l.length ≤ c ∧ c ≤ 9223372036854775807 := by
  obtain ⟨a0, len, cap, rfl⟩ := okWide_slice ht hv
  obtain ⟨fuel, hf⟩ := h
  rcases open_ints ht he hc hf with ⟨hcs, _⟩ | ⟨a, len', cap', zs, hcs, _, hle, hm, hz, _, hcell, hwz⟩
  · simp [Value.cells] at hcs
    obtain ⟨rfl, rfl, rfl⟩ := hcs
    exact ⟨none, [], 0, rfl, LiesU.nil, (fun x hx => by cases hx), by simp, by simp⟩
  · simp [Value.cells] at hcs
    obtain ⟨rfl, rfl, rfl⟩ := hcs
    simp only [if_true] at hz
    unfold maxLen at hm
    have hlen : (zs.take len).length = len := by rw [List.length_take]; omega
    refine ⟨some a, zs.take len, cap, by rw [hlen], fun h0 => ⟨a, rfl, ?_, fun j hj => ?_⟩, fun x hx => u64_of_wf (hwz x (List.mem_of_mem_take hx)), by omega, by omega⟩
    · have h1 := hcell 0 (by omega)
      have h2 := World.block_lt_of_cell? W (a.add 0) h1
      rw [add_block] at h2
      exact h2
    · rw [hlen] at hj
      rw [hcell j (by omega), List.getD_eq_getElem?_getD, List.getD_eq_getElem?_getD, List.getElem?_take, if_pos hj]
end
end Go.Proofs.YtpoemflclbhekaaGreat
