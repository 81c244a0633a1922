/- CutM CutA CutB CutC CutD CutE -/
import Derived.Test.YtpoemflclbhekaaGreatPickT
import Derived.Test.YtpoemflclbhekaaGreatVecT
/-! Layer 9: cuts, as numbers. -/
namespace Go.Proofs.YtpoemflclbhekaaGreat
open Go.RowKit
set_option linter.unusedVariables false
set_option linter.unusedSimpArgs false

def isC (c : List Int) (p d : Int) : Bool := partsV c d && decide (-137438953472 ≤ p ∧ p ≤ 137438953472)
def lefC (c : List Int) (p : Int) (x : List Int) : Int := if isC c p c.length then dotC c x else 90
def lefB (c : List Int) (p : Int) (x : List Int) : Bool := decide (lefC c p x = 0) && decide (dotN c x < p)
/-- the numbers below k of which something holds -/
def pcK (p : Nat → Bool) : Nat → List Int
  | 0 => []
  | k + 1 => if p k then pcK p k ++ [(k : Int)] else pcK p k
theorem pcK_len (p : Nat → Bool) : ∀ k, (pcK p k).length ≤ k
  | 0 => by simp [pcK]
  | k + 1 => by
    have := pcK_len p k
    simp only [pcK]
    split
    · rw [List.length_append]; simp; omega
    · omega
theorem pcK_both (p : Nat → Bool) : ∀ k, (pcK p k).length + (pcK (fun j => !p j) k).length = k
  | 0 => by simp [pcK]
  | k + 1 => by
    have := pcK_both p k
    simp only [pcK]
    by_cases h : p k = true
    · simp only [h, if_true, Bool.not_true, Bool.false_eq_true, if_false, List.length_append, List.length_singleton]; omega
    · simp only [Bool.not_eq_true] at h
      simp only [h, Bool.false_eq_true, if_false, Bool.not_false, if_true, List.length_append, List.length_singleton]; omega
theorem pcK_mem (p : Nat → Bool) (x : Int) : ∀ k, x ∈ pcK p k ↔ ∃ j : Nat, j < k ∧ x = j ∧ p j = true
  | 0 => by simp [pcK]
  | k + 1 => by
    have ih := pcK_mem p x k
    simp only [pcK]
    constructor
    · intro h
      by_cases g : p k = true
      · rw [if_pos g] at h
        rcases List.mem_append.1 h with e | e
        · obtain ⟨j, h1, h2⟩ := ih.1 e
          exact ⟨j, by omega, h2⟩
        · exact ⟨k, by omega, List.mem_singleton.1 e, g⟩
      · rw [if_neg g] at h
        obtain ⟨j, h1, h2⟩ := ih.1 h
        exact ⟨j, by omega, h2⟩
    · rintro ⟨j, h1, h2, h3⟩
      by_cases g : j = k
      · subst g
        rw [if_pos h3, h2]; simp
      · have hm := ih.2 ⟨j, by omega, h2, h3⟩
        split
        · exact List.mem_append_left _ hm
        · exact hm
theorem pcK_congr {p q : Nat → Bool} : ∀ k, (∀ j, j < k → p j = q j) → pcK p k = pcK q k
  | 0, _ => rfl
  | k + 1, h => by
    simp only [pcK]
    rw [pcK_congr k (fun j hj => h j (by omega)), h k (by omega)]
def goesL (c : List Int) (p : Int) (R : List Row) (j : Nat) : Bool := decide (dotN c (R.getD j row0).l < p)
/-- all of a list are vectors of the cut's dimension -/
def splE (c : List Int) (R : List Row) : Bool := R.all fun r => dotE c r.l
theorem splE_iff {c : List Int} {R : List Row} : splE c R = true ↔ ∀ j, j < R.length → dotE c (R.getD j row0).l = true := by
  unfold splE
  rw [List.all_eq_true]
  constructor
  · intro h j hj; exact h _ (getD_mem hj)
  · intro h r hr
    obtain ⟨j, hj, rfl⟩ := List.mem_iff_getElem.1 hr
    have := h j hj
    rw [List.getD_eq_getElem?_getD, List.getElem?_eq_getElem hj] at this
    exact this
theorem splE_no {c : List Int} {R : List Row} {k : Nat} (hk : k < R.length) (h : dotE c (R.getD k row0).l = false) : splE c R = false := by
  rw [Bool.eq_false_iff]; intro g
  rw [splE_iff.1 g k hk] at h; cases h
def splC (c : List Int) (p : Int) (R : List Row) : Int := if isC c p c.length then (if splE c R then 0 else 80) else 90
def lft (c : List Int) (p : Int) (R : List Row) : List Int := if splC c p R = 0 then pcK (goesL c p R) R.length else []
def rgt (c : List Int) (p : Int) (R : List Row) : List Int := if splC c p R = 0 then pcK (fun j => !goesL c p R j) R.length else []

/-! ### what is drawn -/
abbrev noD (x : Int) : List Int × Int × Int × Bool × Int := ([], 0, 0, false, x)
def btw (c : List Int) (R : List Row) (l : List Int) (a t : Int) : List Int × Int × Int × Bool × Int :=
  if reachC c R = 0 then (if (rng l a (reachLo c R + 1) (reachHi c R) t).2.2 = 0 then (c, (rng l a (reachLo c R + 1) (reachHi c R) t).1, (rng l a (reachLo c R + 1) (reachHi c R) t).2.1, true, 0) else noD (rng l a (reachLo c R + 1) (reachHi c R) t).2.2) else noD (reachC c R)
def unitC (d k : Nat) : List Int := (List.replicate d 0).set k 1
def colD (op : List Int) (d : Nat) (l : List Int) (a t : Int) : List Int × Int × Int := if (bnd l a op.length t).2.2 = 0 then (unitC d (op.getD (bnd l a op.length t).1.toNat 0).toNat, (bnd l a op.length t).2.1, 0) else ([], 0, (bnd l a op.length t).2.2)
def axs (op : List Int) (d : Nat) (R : List Row) (l : List Int) (a t : Int) : List Int × Int × Int × Bool × Int :=
  if (colD op d l a t).2.2 = 0 then btw (colD op d l a t).1 R l (colD op d l a t).2.1 t else noD (colD op d l a t).2.2
def dimR (R : List Row) : Nat := (R.getD 0 row0).l.length
def opn (R : List Row) : List Int := openL (boxLo R (dimR R)) (boxHi R (dimR R))
def AskD (k a t : Int) : Prop := (k = 1 ∨ k = 2) ∧ 0 ≤ a ∧ 1 ≤ t ∧ t ≤ 64
instance (k a t : Int) : Decidable (AskD k a t) := by unfold AskD; exact inferInstance
def pln (R : List Row) (l : List Int) (a t : Int) : List Int × Int × Int × Bool × Int :=
  if (cof l a (dimR R) t).2.2 = 0 then (if reachLo (cof l a (dimR R) t).1 R < reachHi (cof l a (dimR R) t).1 R then btw (cof l a (dimR R) t).1 R l (cof l a (dimR R) t).2.1 t else axs (opn R) (dimR R) R l (cof l a (dimR R) t).2.1 t) else noD (cof l a (dimR R) t).2.2
def drw (k : Int) (R : List Row) (l : List Int) (a t : Int) : List Int × Int × Int × Bool × Int :=
  if AskD k a t then (if boxE R (dimR R) then (if opn R = [] then ([], 0, a, false, 0) else if k = 2 then pln R l a t else axs (opn R) (dimR R) R l a t) else noD 80) else noD 1

theorem boxE_iff {R : List Row} {d : Int} : boxE R d = true ↔ 0 < R.length ∧ ∀ j, j < R.length → isV (R.getD j row0).l d = true := by
  unfold boxE
  rw [Bool.and_eq_true, decide_eq_true_eq, allV_iff]
  exact ⟨fun h => ⟨h.2, h.1⟩, fun h => ⟨h.2, h.1⟩⟩
theorem reach_of {c : List Int} {R : List Row} {d : Nat} (hb : boxE R d = true) (hc : partsV c d = true) : reachE c R = true := by
  obtain ⟨h0, hv⟩ := boxE_iff.1 hb
  have hl := (partsV_iff.1 hc).2.2.1
  refine reachE_iff.2 ⟨h0, fun j hj => dotE_iff.2 ⟨?_, ?_⟩⟩
  · rw [hl]; exact hc
  · rw [hl]; exact hv j hj
theorem dotN_bd {c v : List Int} (h : dotE c v = true) : -68719476736 ≤ dotN c v ∧ dotN c v ≤ 68719476736 := by
  obtain ⟨h1, h2, h3, h4⟩ := dotE_ok h
  have := dotI_v h1 h2 c.length
  unfold dotN
  rw [if_pos h]
  omega
theorem dnR_mem {c : List Int} {R : List Row} {j : Nat} (hj : j < R.length) : dotN c (R.getD j row0).l ∈ dnR c R := by
  unfold dnR
  exact List.mem_map.2 ⟨_, getD_mem hj, rfl⟩
theorem mem_dnR {c : List Int} {R : List Row} {x : Int} (h : x ∈ dnR c R) : ∃ j, j < R.length ∧ x = dotN c (R.getD j row0).l := by
  unfold dnR at h
  obtain ⟨r, hr, rfl⟩ := List.mem_map.1 h
  obtain ⟨j, hj, rfl⟩ := List.mem_iff_getElem.1 hr
  exact ⟨j, hj, by rw [List.getD_eq_getElem?_getD, List.getElem?_eq_getElem hj]; rfl⟩
theorem cons_tail {l : List Int} (h : 0 < l.length) : l = l.getD 0 0 :: l.tail := by
  cases l with
  | nil => simp at h
  | cons x l => rfl
theorem reachLo_le {c : List Int} {R : List Row} (h : reachE c R = true) {j : Nat} (hj : j < R.length) : reachLo c R ≤ dotN c (R.getD j row0).l := by
  unfold reachLo
  rw [if_pos h]
  have h1 := (le_loL (loL ((dnR c R).getD 0 0) (dnR c R).tail) (dnR c R).tail ((dnR c R).getD 0 0)).1 (Int.le_refl _)
  have hm := dnR_mem (c := c) hj
  rw [cons_tail (l := dnR c R) (by unfold dnR; rw [List.length_map]; omega)] at hm
  rcases List.mem_cons.1 hm with e | e
  · rw [e]; exact h1.1
  · exact h1.2 _ e
theorem le_reachHi {c : List Int} {R : List Row} (h : reachE c R = true) {j : Nat} (hj : j < R.length) : dotN c (R.getD j row0).l ≤ reachHi c R := by
  unfold reachHi
  rw [if_pos h]
  have h1 := (hiL_le (hiL ((dnR c R).getD 0 0) (dnR c R).tail) (dnR c R).tail ((dnR c R).getD 0 0)).1 (Int.le_refl _)
  have hm := dnR_mem (c := c) hj
  rw [cons_tail (l := dnR c R) (by unfold dnR; rw [List.length_map]; omega)] at hm
  rcases List.mem_cons.1 hm with e | e
  · rw [e]; exact h1.1
  · exact h1.2 _ e
theorem reachLo_is {c : List Int} {R : List Row} (h : reachE c R = true) : ∃ j, j < R.length ∧ reachLo c R = dotN c (R.getD j row0).l := by
  have h0 := (reachE_iff.1 h).1
  unfold reachLo
  rw [if_pos h]
  refine mem_dnR ?_
  rcases loL_mem (dnR c R).tail ((dnR c R).getD 0 0) with e | e
  · rw [e]; exact mem_getD (by unfold dnR; rw [List.length_map]; omega)
  · exact List.mem_of_mem_tail e
theorem reachHi_is {c : List Int} {R : List Row} (h : reachE c R = true) : ∃ j, j < R.length ∧ reachHi c R = dotN c (R.getD j row0).l := by
  have h0 := (reachE_iff.1 h).1
  unfold reachHi
  rw [if_pos h]
  refine mem_dnR ?_
  rcases hiL_mem (dnR c R).tail ((dnR c R).getD 0 0) with e | e
  · rw [e]; exact mem_getD (by unfold dnR; rw [List.length_map]; omega)
  · exact List.mem_of_mem_tail e
theorem reach_bd {c : List Int} {R : List Row} (h : reachE c R = true) : -68719476736 ≤ reachLo c R ∧ reachLo c R ≤ reachHi c R ∧ reachHi c R ≤ 68719476736 := by
  obtain ⟨j, hj, e⟩ := reachLo_is h
  obtain ⟨k, hk, f⟩ := reachHi_is h
  have h1 := dotN_bd ((reachE_iff.1 h).2 j hj)
  have h2 := dotN_bd ((reachE_iff.1 h).2 k hk)
  have h3 := le_reachHi h hj
  omega
theorem reachC_0 {c : List Int} {R : List Row} (h : reachE c R = true) : reachC c R = 0 := by unfold reachC; rw [if_pos h]
theorem unitC_len (d k : Nat) : (unitC d k).length = d := by simp [unitC]
theorem unitC_get (d : Nat) {k j : Nat} (hk : k < d) : (unitC d k).getD j 0 = if j = k then 1 else 0 := by
  unfold unitC
  rw [List.getD_eq_getElem?_getD, List.getElem?_set]
  by_cases h : k = j
  · subst h; simp [hk]
  · rw [if_neg h, if_neg (fun e => h e.symm), List.getElem?_replicate]
    split <;> rfl
theorem unitC_parts {d k : Nat} (h1 : 1 ≤ d) (h8 : d ≤ 8) (hk : k < d) : partsV (unitC d k) d = true := by
  refine partsV_iff.2 ⟨by omega, by omega, by rw [unitC_len], fun x hx => ?_, 1, ?_, by decide⟩
  · obtain ⟨j, hj, rfl⟩ := List.mem_iff_getElem.1 hx
    have := unitC_get d (j := j) hk
    rw [List.getD_eq_getElem?_getD, List.getElem?_eq_getElem hj] at this
    simp only [Option.getD_some] at this
    rw [this]
    split <;> omega
  · have := mem_getD (l := unitC d k) (k := k) (by rw [unitC_len]; exact hk)
    rw [unitC_get d hk, if_pos rfl] at this
    exact this
end Go.Proofs.YtpoemflclbhekaaGreat
/-! Package cut: Is, Left, Same, may; the reference's. -/
namespace Go.Proofs.YtpoemflclbhekaaGreat
open Go.RowKit
set_option linter.unusedVariables false
set_option linter.unusedSimpArgs false

theorem qdb {w w' : World} (h : ∃ n, w' = w.drewN n) : Below w.heap.size w w' := by obtain ⟨n, rfl⟩ := h; exact below_drewN2 (Below.refl _ _) n
/-- known blocks, carried over calls -/
def Kpc (B : Nat) (W : World) (l : List (Nat × Array Value × TypeId)) (w : World) : Prop := (∀ x ∈ l, Box w x.1 x.2.1 x.2.2) ∧ Below B W w ∧ B ≤ w.heap.size
theorem Kpc.below {B : Nat} {W w w' : World} {l : List (Nat × Array Value × TypeId)} (h : Kpc B W l w) (hb : Below w.heap.size w w') : Kpc B W l w' :=
  ⟨fun x hx => (h.1 x hx).below hb (h.1 x hx).lt, h.2.1.trans (hb.mono h.2.2), Nat.le_trans h.2.2 hb.size⟩
theorem Kpc.alloc {B : Nat} {W w : World} {l : List (Nat × Array Value × TypeId)} (h : Kpc B W l w) (cs : Array Value) (t : TypeId) : Kpc B W ((w.heap.size, cs, t) :: l) (w.alloc (.cells cs t)) := by
  refine ⟨fun x hx => ?_, h.2.1.alloc h.2.2 _, by rw [alloc_size']; exact Nat.le_succ_of_le h.2.2⟩
  rcases List.mem_cons.1 hx with rfl | hx
  · exact Box.new w cs t
  · exact (h.1 x hx).alloc _
theorem Kpc.start (w : World) : Kpc w.heap.size w [] w := ⟨fun x hx => (by cases hx), Below.refl _ _, Nat.le_refl _⟩
theorem Kpc.head {B : Nat} {W w : World} {x : Nat × Array Value × TypeId} {l : List (Nat × Array Value × TypeId)} (h : Kpc B W (x :: l) w) : Box w x.1 x.2.1 x.2.2 := h.1 x List.mem_cons_self
theorem Kpc.tail {B : Nat} {W w : World} {x : Nat × Array Value × TypeId} {l : List (Nat × Array Value × TypeId)} (h : Kpc B W (x :: l) w) : Kpc B W l w := ⟨fun y hy => h.1 y (List.mem_cons_of_mem _ hy), h.2⟩
theorem box_cut {w : World} {g : Nat} {a b : Value} {t : TypeId} (h : Box w g #[a, b] t) : w.cell? ⟨g, 0, none⟩ = some a ∧ w.cell? ⟨g, 1, none⟩ = some b := ⟨h.two.1, h.two.2.1⟩
theorem retBE {a a' : Bool} {b b' : Int} (h : a = a') (g : b = b') : Ending.returned (.tuple #[.bool a, .int .i64 b]) = .returned (.tuple #[.bool a', .int .i64 b']) := by rw [h, g]
/-! ### the reference's -/
/-- two cuts are the same -/
def samC (a : List Int) (p : Int) (b : List Int) (q : Int) : Bool := decide (a = b) && decide (p = q)
end Go.Proofs.YtpoemflclbhekaaGreat
/-! Package cut: open, column, between. -/
namespace Go.Proofs.YtpoemflclbhekaaGreat
open Go.RowKit
set_option linter.unusedVariables false
set_option linter.unusedSimpArgs false

/-- a cut, a place, whether there is one, an error -/
def GivesD (r : List Int × Int × Int × Bool × Int) (w : World) (e : Ending) (w' : World) : Prop :=
  ∃ A c, e = .returned (.tuple #[.agg #[.slice A r.1.length c, .int .i64 r.2.1], .int .i64 r.2.2.1, .bool r.2.2.2.1, .int .i64 r.2.2.2.2]) ∧ r.1.length ≤ c ∧ c ≤ 9223372036854775807 ∧ Lies w' w'.heap.size A r.1 ∧ New w A ∧ Below w.heap.size w w'
theorem givesD_no {w w' : World} {p x : Int} (h : Below w.heap.size w w') : GivesD ([], 0, p, false, x) w (.returned (.tuple #[.agg #[.slice none 0 0, .int .i64 0], .int .i64 p, .bool false, .int .i64 x])) w' :=
  ⟨none, 0, rfl, Nat.le_refl _, by omega, fun h1 => absurd h1 (by simp), (fun _ e => by cases e), h⟩
/-- a cut with the parts that were handed in, or an error -/
def GivesB (co : List Int) (Ac : Option Addr) (cc : Nat) (r : List Int × Int × Int × Bool × Int) (w : World) (e : Ending) (w' : World) : Prop :=
  Below w.heap.size w w' ∧ ((r = (co, r.2.1, r.2.2.1, true, 0) ∧ e = .returned (.tuple #[.agg #[.slice Ac co.length cc, .int .i64 r.2.1], .int .i64 r.2.2.1, .bool true, .int .i64 0])) ∨
    (r = noD r.2.2.2.2 ∧ ¬ r.2.2.2.2 = 0 ∧ e = .returned (.tuple #[.agg #[.slice none 0 0, .int .i64 0], .int .i64 0, .bool false, .int .i64 r.2.2.2.2])))
theorem Kpc.set2 {B : Nat} {W w : World} {g : Nat} {a b : Value} {t : TypeId} {l : List (Nat × Array Value × TypeId)} (h : Kpc B W ((g, #[a, b], t) :: l) w) (hg : B ≤ g) (u v : Value) :
    (World.cell? ((w.setCell ⟨g, 0, none⟩ u).setCell ⟨g, 1, none⟩ v) ⟨g, 0, none⟩ = some u ∧ World.cell? ((w.setCell ⟨g, 0, none⟩ u).setCell ⟨g, 1, none⟩ v) ⟨g, 1, none⟩ = some v) ∧ Below B W ((w.setCell ⟨g, 0, none⟩ u).setCell ⟨g, 1, none⟩ v) := by
  obtain ⟨k0, k1, _, _⟩ := (Box.set2 h.head u v).two
  exact ⟨⟨k0, k1⟩, (h.2.1.setCell (p := ⟨g, 0, none⟩) hg _).setCell (p := ⟨g, 1, none⟩) hg _⟩
theorem Lies.set2 {w : World} {g : Nat} {B : Nat} {A : Option Addr} {l : List Int} (h : Lies w B A l) (hg : B ≤ g) (u v : Value) : Lies ((w.setCell ⟨g, 0, none⟩ u).setCell ⟨g, 1, none⟩ v) B A l :=
  h.below (((Below.refl B w).setCell (p := ⟨g, 0, none⟩) hg _).setCell (p := ⟨g, 1, none⟩) hg _)

/-! ### open -/
def opnD (R : List Row) : List Int := if boxE R (dimR R) then opn R else []
def dimD (R : List Row) : Int := if boxE R (dimR R) then dimR R else 0
def GivesO (R : List Row) (w : World) (e : Ending) (w' : World) : Prop :=
  ∃ A c, e = .returned (.tuple #[.slice A (opnD R).length c, .int .i64 (dimD R), .int .i64 (boxC R (dimR R))]) ∧ (opnD R).length ≤ c ∧ c ≤ maxLen ∧ Lies w' w'.heap.size A (opnD R) ∧ Below w.heap.size w w'
theorem box_dim {R : List Row} (h : boxE R (dimR R) = true) : 1 ≤ dimR R ∧ dimR R ≤ 8 ∧ 0 < R.length := by
  obtain ⟨h0, hv⟩ := boxE_iff.1 h
  have h3 := isV_iff.1 (hv 0 h0)
  refine ⟨?_, ?_, h0⟩ <;> omega
theorem box_lens {R : List Row} (h : boxE R (dimR R) = true) : (boxLo R (dimR R)).length = dimR R ∧ (boxHi R (dimR R)).length = dimR R := by
  unfold boxLo boxHi
  rw [if_pos h, if_pos h]
  simp
theorem openK_mem (lo hi : List Int) (x : Int) : ∀ k, x ∈ openK lo hi k ↔ ∃ j : Nat, j < k ∧ x = j ∧ lo.getD j 0 < hi.getD j 0
  | 0 => by simp [openK]
  | k + 1 => by
    have ih := openK_mem lo hi x k
    simp only [openK]
    constructor
    · intro h
      split at h
      · rename_i g
        rcases List.mem_append.1 h with e | e
        · obtain ⟨j, h1, h2⟩ := ih.1 e
          exact ⟨j, by omega, h2⟩
        · exact ⟨k, by omega, List.mem_singleton.1 e, g⟩
      · obtain ⟨j, h1, h2⟩ := ih.1 h
        exact ⟨j, by omega, h2⟩
    · rintro ⟨j, h1, h2, h3⟩
      by_cases g : j = k
      · subst g
        rw [if_pos h3, h2]; simp
      · have hm := ih.2 ⟨j, by omega, h2, h3⟩
        split
        · exact List.mem_append_left _ hm
        · exact hm
theorem opn_mem {R : List Row} (h : boxE R (dimR R) = true) {x : Int} (hx : x ∈ opn R) : ∃ j : Nat, j < dimR R ∧ x = j ∧ (boxLo R (dimR R)).getD j 0 < (boxHi R (dimR R)).getD j 0 := by
  obtain ⟨h1, h2⟩ := box_lens h
  unfold opn openL at hx
  rw [h1, h2, Nat.min_self] at hx
  exact (openK_mem _ _ _ _).1 hx
theorem opn_len {R : List Row} (h : boxE R (dimR R) = true) : (opn R).length ≤ 8 := by
  have h1 := openK_len (boxLo R (dimR R)) (boxHi R (dimR R)) (min (boxLo R (dimR R)).length (boxHi R (dimR R)).length)
  rw [(box_lens h).1, (box_lens h).2, Nat.min_self] at h1
  have h2 := (box_dim h).2.1
  unfold opn openL
  rw [(box_lens h).1, (box_lens h).2, Nat.min_self]
  omega
/-! ### column -/
end Go.Proofs.YtpoemflclbhekaaGreat
/-! Package cut: Draw. -/
namespace Go.Proofs.YtpoemflclbhekaaGreat
open Go.RowKit
set_option linter.unusedVariables false
set_option linter.unusedSimpArgs false

theorem colB {R : List Row} (h0 : 0 < R.length) (j : Nat) : (∃ i, i < R.length ∧ colL R j = (R.getD i row0).l.getD j 0) ∧ ∃ i, i < R.length ∧ colH R j = (R.getD i row0).l.getD j 0 := by
  have key : ∀ x : Int, x = (R.getD 0 row0).l.getD j 0 ∨ x ∈ R.tail.map (fun r => r.l.getD j 0) → ∃ i, i < R.length ∧ x = (R.getD i row0).l.getD j 0 := by
    intro x hx
    rcases hx with e | e
    · exact ⟨0, h0, e⟩
    · obtain ⟨r, hr, rfl⟩ := List.mem_map.1 e
      obtain ⟨i, hi, rfl⟩ := List.mem_iff_getElem.1 (List.mem_of_mem_tail hr)
      exact ⟨i, hi, by simp [List.getD, hi]⟩
  exact ⟨key _ (loL_mem _ _), key _ (hiL_mem _ _)⟩
theorem dotI_unit (d k : Nat) (hk : k < d) (v : List Int) : ∀ n, n ≤ d → dotI (unitC d k) v n = if k < n then v.getD k 0 else 0
  | 0, _ => by simp [dotI]
  | n + 1, h => by
    rw [dotI, dotI_unit d k hk v n (by omega), unitC_get d hk]
    by_cases g : n = k
    · subst g
      rw [if_neg (Nat.lt_irrefl _), if_pos rfl, if_pos (by omega)]; omega
    · rw [if_neg g]
      by_cases g2 : k < n
      · rw [if_pos g2, if_pos (by omega)]; omega
      · rw [if_neg g2, if_neg (by omega)]; omega
theorem dotN_unit {d k : Nat} {v : List Int} (hk : k < d) (h : dotE (unitC d k) v = true) : dotN (unitC d k) v = v.getD k 0 := by
  unfold dotN
  rw [if_pos h, unitC_len, dotI_unit d k hk v d (Nat.le_refl _), if_pos hk]
/-- along an open column not all products are equal -/
theorem unit_open {R : List Row} (h : boxE R (dimR R) = true) {j : Nat} (hj : j < dimR R) (ho : (boxLo R (dimR R)).getD j 0 < (boxHi R (dimR R)).getD j 0) :
    reachE (unitC (dimR R) j) R = true ∧ reachLo (unitC (dimR R) j) R < reachHi (unitC (dimR R) j) R := by
  obtain ⟨d1, d8, h0⟩ := box_dim h
  have hE := reach_of h (unitC_parts d1 d8 hj)
  refine ⟨hE, ?_⟩
  obtain ⟨⟨i, hi, e1⟩, i2, hi2, e2⟩ := colB h0 j
  have hlo : (boxLo R (dimR R)).getD j 0 = colL R j := by
    unfold boxLo
    rw [if_pos h, List.getD_eq_getElem?_getD, List.getElem?_map, List.getElem?_range (by omega)]; rfl
  have hhi : (boxHi R (dimR R)).getD j 0 = colH R j := by
    unfold boxHi
    rw [if_pos h, List.getD_eq_getElem?_getD, List.getElem?_map, List.getElem?_range (by omega)]; rfl
  have g1 := reachLo_le hE hi
  have g2 := le_reachHi hE hi2
  rw [dotN_unit hj ((reachE_iff.1 hE).2 _ hi)] at g1
  rw [dotN_unit hj ((reachE_iff.1 hE).2 _ hi2)] at g2
  omega
theorem colD_ok {o l : List Int} {d : Nat} {a t : Int} (h : (colD o d l a t).2.2 = 0) : (bnd l a o.length t).2.2 = 0 ∧ colD o d l a t = (unitC d (o.getD (bnd l a o.length t).1.toNat 0).toNat, (bnd l a o.length t).2.1, 0) := by
  unfold colD at h ⊢
  by_cases g : (bnd l a o.length t).2.2 = 0
  · rw [if_pos g]; exact ⟨g, rfl⟩
  · rw [if_neg g] at h; exact absurd h g
theorem colD_err {o l : List Int} {d : Nat} {a t : Int} (h : ¬ (colD o d l a t).2.2 = 0) : colD o d l a t = ([], 0, (colD o d l a t).2.2) := by
  unfold colD at h ⊢
  by_cases g : (bnd l a o.length t).2.2 = 0
  · rw [if_pos g] at h; exact absurd rfl h
  · rw [if_neg g]
/-- what a column that is drawn is like -/
theorem col_of {R : List Row} {l : List Int} {a t : Int} (h : boxE R (dimR R) = true) (ho : opn R ≠ []) (hc : (colD (opn R) (dimR R) l a t).2.2 = 0) :
    ∃ j : Nat, j < dimR R ∧ (boxLo R (dimR R)).getD j 0 < (boxHi R (dimR R)).getD j 0 ∧ (colD (opn R) (dimR R) l a t).1 = unitC (dimR R) j ∧ a < (colD (opn R) (dimR R) l a t).2.1 ∧ (colD (opn R) (dimR R) l a t).2.1 ≤ l.length ∧ (colD (opn R) (dimR R) l a t).2.1 ≤ a + t := by
  obtain ⟨hb, he⟩ := colD_ok hc
  have hp := bnd_pos hb
  have hol : 0 < (opn R).length := List.length_pos_iff.2 ho
  have hlt := bnd_lt (l := l) (a := a) (n := (opn R).length) (t := t) (by omega)
  rw [he]
  obtain ⟨j, h1, h2, h3⟩ := opn_mem h (mem_getD (l := opn R) (k := (bnd l a (opn R).length t).1.toNat) (by omega))
  refine ⟨j, h1, h3, ?_, hp.1, hp.2.1, hp.2.2⟩
  simp only
  rw [h2]; rfl
theorem Lies.mono2 {w : World} {B B' : Nat} {A : Option Addr} {l : List Int} (h : Lies w B A l) (_ : B' ≤ B) : Lies w B A l := h
theorem cof_at {l : List Int} {a d t : Int} (hl : (l.length : Int) ≤ 9223372036854775807) (ha : 0 ≤ a) (h : (cof l a d t).2.2 = 0) : 0 ≤ (cof l a d t).2.1 ∧ (cof l a d t).2.1 ≤ 9223372036854775807 := by
  have := cof_pos h; omega

theorem box_off {w : World} {g : Nat} {u v : Value} {A : Option Addr} {l : List Int} {B : Nat} (h : Lies w B A l) (hn : ∀ ad, A = some ad → g < ad.block) : Lies ((w.setCell ⟨g, 0, none⟩ u).setCell ⟨g, 1, none⟩ v) B A l := fun h0 => by
  obtain ⟨ad, e, hb, hc⟩ := h h0
  refine ⟨ad, e, hb, fun j hj => ?_⟩
  have hne := hn ad e
  rw [World.cell?_setCell_other _ ⟨g, 1, none⟩ (ad.add j) _ (fun e => by have := congrArg Addr.block e; rw [add_block] at this; simp only at this; omega), World.cell?_setCell_other _ ⟨g, 0, none⟩ (ad.add j) _ (fun e => by have := congrArg Addr.block e; rw [add_block] at this; simp only at this; omega)]
  exact hc j hj
end Go.Proofs.YtpoemflclbhekaaGreat
/-! The reference of layer 9: level, Draw. -/
namespace Go.Proofs.YtpoemflclbhekaaGreat
open Go.RowKit
set_option linter.unusedVariables false
set_option linter.unusedSimpArgs false

end Go.Proofs.YtpoemflclbhekaaGreat
/-! Layer 9: Split. -/
namespace Go.Proofs.YtpoemflclbhekaaGreat
open Go.RowKit
set_option linter.unusedVariables false
set_option linter.unusedSimpArgs false

theorem Kpc.drew {B : Nat} {W w : World} {l : List (Nat × Array Value × TypeId)} (h : Kpc B W l w) : Kpc B W l w.drew := ⟨fun x hx => h.1 x hx, h.2.1.drew, h.2.2⟩
theorem Kpc.below1 {B B1 : Nat} {W w w' : World} {l : List (Nat × Array Value × TypeId)} (h : Kpc B W l w) (hb : Below B1 w w') (hB : B ≤ B1) (hl : ∀ x ∈ l, x.1 < B1) : Kpc B W l w' :=
  ⟨fun x hx => (h.1 x hx).below hb (hl x hx), h.2.1.trans (hb.mono hB), Nat.le_trans h.2.2 hb.size⟩
theorem Two.below {B : Nat} {w w' : World} {v1 v2 : Value} {l1 l2 : List Int} (h : Two B w v1 l1 v2 l2) (hb : Below w.heap.size w w') : Two B w' v1 l1 v2 l2 := ⟨ownI_below h.1 hb, ownI_below h.2.1 hb, h.2.2⟩
theorem new_own1 {w w' : World} {v : Value} {l : List Int} {A : Option Addr} {n c : Nat} {e : TypeId} (h : w'.ownsRow (w.heap.size + 1) e 1 v l.length (litI l)) (hv : v = .slice A n c) : New w A := fun ad e => by
  subst hv; subst e
  rcases h.2 with ⟨h1, _⟩ | ⟨g, cap, cur, h1, hb, _⟩
  · cases h1
  · cases h1; exact Nat.le_of_succ_le hb
/-- two lists of indices and an error -/
def GivesS (c : List Int) (p : Int) (R : List Row) (w : World) (e : Ending) (w' : World) : Prop :=
  ∃ A1 c1 A2 c2, e = .returned (.tuple #[.slice A1 (lft c p R).length c1, .slice A2 (rgt c p R).length c2, .int .i64 (splC c p R)]) ∧ (lft c p R).length ≤ c1 ∧ c1 ≤ maxLen ∧ (rgt c p R).length ≤ c2 ∧ c2 ≤ maxLen ∧ Lies w' w'.heap.size A1 (lft c p R) ∧ Lies w' w'.heap.size A2 (rgt c p R) ∧ New w A1 ∧ New w A2 ∧ Below w.heap.size w w'
theorem givesS_intro {c : List Int} {p : Int} {R : List Row} {w : World} (A1 : Option Addr) (c1 : Nat) (A2 : Option Addr) (c2 : Nat) (w' : World) (h1 : (lft c p R).length ≤ c1) (h2 : c1 ≤ maxLen) (h3 : (rgt c p R).length ≤ c2) (h4 : c2 ≤ maxLen) (h5 : Lies w' w'.heap.size A1 (lft c p R)) (h6 : Lies w' w'.heap.size A2 (rgt c p R)) (h7 : New w A1) (h8 : New w A2) (h9 : Below w.heap.size w w') :
    GivesS c p R w (.returned (.tuple #[.slice A1 (lft c p R).length c1, .slice A2 (rgt c p R).length c2, .int .i64 (splC c p R)])) w' := ⟨A1, c1, A2, c2, rfl, h1, h2, h3, h4, h5, h6, h7, h8, h9⟩
theorem givesS_no {c : List Int} {p : Int} {R : List Row} {w : World} {x : Int} (hx : ¬ x = 0) (h1 : splC c p R = x) (h2 : lft c p R = []) (h3 : rgt c p R = []) (w' : World) (h : Below w.heap.size w w') :
    GivesS c p R w (.returned (.tuple #[.slice none 0 0, .slice none 0 0, .int .i64 x])) w' := by
  refine ⟨none, 0, none, 0, ?_, ?_, by unfold maxLen; omega, ?_, by unfold maxLen; omega, ?_, ?_, (fun _ e => by cases e), (fun _ e => by cases e), h⟩
  · rw [h1, h2, h3]; rfl
  · rw [h2]; exact Nat.le_refl _
  · rw [h3]; exact Nat.le_refl _
  · rw [h2]; exact fun h1 => absurd h1 (by simp)
  · rw [h3]; exact fun h1 => absurd h1 (by simp)

end Go.Proofs.YtpoemflclbhekaaGreat
