/- CutM CutA CutB CutC CutD CutE -/
import Derived.Test.YtkkeejbgaaodeaaPickT
import Derived.Test.YtkkeejbgaaodeaaVecT
/-! Layer 9: cuts, as numbers. -/
namespace Go.Proofs.Ytkkeejbgaaodeaa
open Go.RowKit
set_option linter.unusedVariables false
set_option linter.unusedSimpArgs false

def isC (c : List Int) (p d : Int) : Bool := partsV c d && decide (-137438953472 ≤ p ∧ p ≤ 137438953472)
def lefC (c : List Int) (p : Int) (x : List Int) : Int := if isC c p c.length then dotC c x else 90
def lefB (c : List Int) (p : Int) (x : List Int) : Bool := decide (lefC c p x = 0) && decide (dotN c x < p)
/-- the numbers below k of which something holds -/
def pcK (p : Nat → Bool) : Nat → List Int
  | 0 => []
  | k + 1 => if p k then pcK p k ++ [(k : Int)] else pcK p k
theorem pcK_len (p : Nat → Bool) : ∀ k, (pcK p k).length ≤ k
  | 0 => by simp [pcK]
  | k + 1 => by
    have := pcK_len p k
    simp only [pcK]
    split
    · rw [List.length_append]; simp; omega
    · omega
theorem pcK_both (p : Nat → Bool) : ∀ k, (pcK p k).length + (pcK (fun j => !p j) k).length = k
  | 0 => by simp [pcK]
  | k + 1 => by
    have := pcK_both p k
    simp only [pcK]
    by_cases h : p k = true
    · simp only [h, if_true, Bool.not_true, Bool.false_eq_true, if_false, List.length_append, List.length_singleton]; omega
    · simp only [Bool.not_eq_true] at h
      simp only [h, Bool.false_eq_true, if_false, Bool.not_false, if_true, List.length_append, List.length_singleton]; omega
theorem pcK_mem (p : Nat → Bool) (x : Int) : ∀ k, x ∈ pcK p k ↔ ∃ j : Nat, j < k ∧ x = j ∧ p j = true
  | 0 => by simp [pcK]
  | k + 1 => by
    have ih := pcK_mem p x k
    simp only [pcK]
    constructor
    · intro h
      by_cases g : p k = true
      · rw [if_pos g] at h
        rcases List.mem_append.1 h with e | e
        · obtain ⟨j, h1, h2⟩ := ih.1 e
          exact ⟨j, by omega, h2⟩
        · exact ⟨k, by omega, List.mem_singleton.1 e, g⟩
      · rw [if_neg g] at h
        obtain ⟨j, h1, h2⟩ := ih.1 h
        exact ⟨j, by omega, h2⟩
    · rintro ⟨j, h1, h2, h3⟩
      by_cases g : j = k
      · subst g
        rw [if_pos h3, h2]; simp
      · have hm := ih.2 ⟨j, by omega, h2, h3⟩
        split
        · exact List.mem_append_left _ hm
        · exact hm
theorem pcK_congr {p q : Nat → Bool} : ∀ k, (∀ j, j < k → p j = q j) → pcK p k = pcK q k
  | 0, _ => rfl
  | k + 1, h => by
    simp only [pcK]
    rw [pcK_congr k (fun j hj => h j (by omega)), h k (by omega)]
def goesL (c : List Int) (p : Int) (R : List Row) (j : Nat) : Bool := decide (dotN c (R.getD j row0).l < p)
/-- all of a list are vectors of the cut's dimension -/
def splE (c : List Int) (R : List Row) : Bool := R.all fun r => dotE c r.l
theorem splE_iff {c : List Int} {R : List Row} : splE c R = true ↔ ∀ j, j < R.length → dotE c (R.getD j row0).l = true := by
  unfold splE
  rw [List.all_eq_true]
  constructor
  · intro h j hj; exact h _ (getD_mem hj)
  · intro h r hr
    obtain ⟨j, hj, rfl⟩ := List.mem_iff_getElem.1 hr
    have := h j hj
    rw [List.getD_eq_getElem?_getD, List.getElem?_eq_getElem hj] at this
    exact this
theorem splE_no {c : List Int} {R : List Row} {k : Nat} (hk : k < R.length) (h : dotE c (R.getD k row0).l = false) : splE c R = false := by
  rw [Bool.eq_false_iff]; intro g
  rw [splE_iff.1 g k hk] at h; cases h
def splC (c : List Int) (p : Int) (R : List Row) : Int := if isC c p c.length then (if splE c R then 0 else 80) else 90
def lft (c : List Int) (p : Int) (R : List Row) : List Int := if splC c p R = 0 then pcK (goesL c p R) R.length else []
def rgt (c : List Int) (p : Int) (R : List Row) : List Int := if splC c p R = 0 then pcK (fun j => !goesL c p R j) R.length else []

/-! ### what is drawn -/
abbrev noD (x : Int) : List Int × Int × Int × Bool × Int := ([], 0, 0, false, x)
def btw (c : List Int) (R : List Row) (l : List Int) (a t : Int) : List Int × Int × Int × Bool × Int :=
  if reachC c R = 0 then (if (rng l a (reachLo c R + 1) (reachHi c R) t).2.2 = 0 then (c, (rng l a (reachLo c R + 1) (reachHi c R) t).1, (rng l a (reachLo c R + 1) (reachHi c R) t).2.1, true, 0) else noD (rng l a (reachLo c R + 1) (reachHi c R) t).2.2) else noD (reachC c R)
def unitC (d k : Nat) : List Int := (List.replicate d 0).set k 1
def colD (op : List Int) (d : Nat) (l : List Int) (a t : Int) : List Int × Int × Int := if (bnd l a op.length t).2.2 = 0 then (unitC d (op.getD (bnd l a op.length t).1.toNat 0).toNat, (bnd l a op.length t).2.1, 0) else ([], 0, (bnd l a op.length t).2.2)
def axs (op : List Int) (d : Nat) (R : List Row) (l : List Int) (a t : Int) : List Int × Int × Int × Bool × Int :=
  if (colD op d l a t).2.2 = 0 then btw (colD op d l a t).1 R l (colD op d l a t).2.1 t else noD (colD op d l a t).2.2
def dimR (R : List Row) : Nat := (R.getD 0 row0).l.length
def opn (R : List Row) : List Int := openL (boxLo R (dimR R)) (boxHi R (dimR R))
def AskD (k a t : Int) : Prop := (k = 1 ∨ k = 2) ∧ 0 ≤ a ∧ 1 ≤ t ∧ t ≤ 64
instance (k a t : Int) : Decidable (AskD k a t) := by unfold AskD; exact inferInstance
def pln (R : List Row) (l : List Int) (a t : Int) : List Int × Int × Int × Bool × Int :=
  if (cof l a (dimR R) t).2.2 = 0 then (if reachLo (cof l a (dimR R) t).1 R < reachHi (cof l a (dimR R) t).1 R then btw (cof l a (dimR R) t).1 R l (cof l a (dimR R) t).2.1 t else axs (opn R) (dimR R) R l (cof l a (dimR R) t).2.1 t) else noD (cof l a (dimR R) t).2.2
def drw (k : Int) (R : List Row) (l : List Int) (a t : Int) : List Int × Int × Int × Bool × Int :=
  if AskD k a t then (if boxE R (dimR R) then (if opn R = [] then ([], 0, a, false, 0) else if k = 2 then pln R l a t else axs (opn R) (dimR R) R l a t) else noD 80) else noD 1

theorem boxE_iff {R : List Row} {d : Int} : boxE R d = true ↔ 0 < R.length ∧ ∀ j, j < R.length → isV (R.getD j row0).l d = true := by
  unfold boxE
  rw [Bool.and_eq_true, decide_eq_true_eq, allV_iff]
  exact ⟨fun h => ⟨h.2, h.1⟩, fun h => ⟨h.2, h.1⟩⟩
theorem reach_of {c : List Int} {R : List Row} {d : Nat} (hb : boxE R d = true) (hc : partsV c d = true) : reachE c R = true := by
  obtain ⟨h0, hv⟩ := boxE_iff.1 hb
  have hl := (partsV_iff.1 hc).2.2.1
  refine reachE_iff.2 ⟨h0, fun j hj => dotE_iff.2 ⟨?_, ?_⟩⟩
  · rw [hl]; exact hc
  · rw [hl]; exact hv j hj
theorem dotN_bd {c v : List Int} (h : dotE c v = true) : -68719476736 ≤ dotN c v ∧ dotN c v ≤ 68719476736 := by
  obtain ⟨h1, h2, h3, h4⟩ := dotE_ok h
  have := dotI_v h1 h2 c.length
  unfold dotN
  rw [if_pos h]
  omega
theorem dnR_mem {c : List Int} {R : List Row} {j : Nat} (hj : j < R.length) : dotN c (R.getD j row0).l ∈ dnR c R := by
  unfold dnR
  exact List.mem_map.2 ⟨_, getD_mem hj, rfl⟩
theorem mem_dnR {c : List Int} {R : List Row} {x : Int} (h : x ∈ dnR c R) : ∃ j, j < R.length ∧ x = dotN c (R.getD j row0).l := by
  unfold dnR at h
  obtain ⟨r, hr, rfl⟩ := List.mem_map.1 h
  obtain ⟨j, hj, rfl⟩ := List.mem_iff_getElem.1 hr
  exact ⟨j, hj, by rw [List.getD_eq_getElem?_getD, List.getElem?_eq_getElem hj]; rfl⟩
theorem cons_tail {l : List Int} (h : 0 < l.length) : l = l.getD 0 0 :: l.tail := by
  cases l with
  | nil => simp at h
  | cons x l => rfl
theorem reachLo_le {c : List Int} {R : List Row} (h : reachE c R = true) {j : Nat} (hj : j < R.length) : reachLo c R ≤ dotN c (R.getD j row0).l := by
  unfold reachLo
  rw [if_pos h]
  have h1 := (le_loL (loL ((dnR c R).getD 0 0) (dnR c R).tail) (dnR c R).tail ((dnR c R).getD 0 0)).1 (Int.le_refl _)
  have hm := dnR_mem (c := c) hj
  rw [cons_tail (l := dnR c R) (by unfold dnR; rw [List.length_map]; omega)] at hm
  rcases List.mem_cons.1 hm with e | e
  · rw [e]; exact h1.1
  · exact h1.2 _ e
theorem le_reachHi {c : List Int} {R : List Row} (h : reachE c R = true) {j : Nat} (hj : j < R.length) : dotN c (R.getD j row0).l ≤ reachHi c R := by
  unfold reachHi
  rw [if_pos h]
  have h1 := (hiL_le (hiL ((dnR c R).getD 0 0) (dnR c R).tail) (dnR c R).tail ((dnR c R).getD 0 0)).1 (Int.le_refl _)
  have hm := dnR_mem (c := c) hj
  rw [cons_tail (l := dnR c R) (by unfold dnR; rw [List.length_map]; omega)] at hm
  rcases List.mem_cons.1 hm with e | e
  · rw [e]; exact h1.1
  · exact h1.2 _ e
theorem reachLo_is {c : List Int} {R : List Row} (h : reachE c R = true) : ∃ j, j < R.length ∧ reachLo c R = dotN c (R.getD j row0).l := by
  have h0 := (reachE_iff.1 h).1
  unfold reachLo
  rw [if_pos h]
  refine mem_dnR ?_
  rcases loL_mem (dnR c R).tail ((dnR c R).getD 0 0) with e | e
  · rw [e]; exact mem_getD (by unfold dnR; rw [List.length_map]; omega)
  · exact List.mem_of_mem_tail e
theorem reachHi_is {c : List Int} {R : List Row} (h : reachE c R = true) : ∃ j, j < R.length ∧ reachHi c R = dotN c (R.getD j row0).l := by
  have h0 := (reachE_iff.1 h).1
  unfold reachHi
  rw [if_pos h]
  refine mem_dnR ?_
  rcases hiL_mem (dnR c R).tail ((dnR c R).getD 0 0) with e | e
  · rw [e]; exact mem_getD (by unfold dnR; rw [List.length_map]; omega)
  · exact List.mem_of_mem_tail e
theorem reach_bd {c : List Int} {R : List Row} (h : reachE c R = true) : -68719476736 ≤ reachLo c R ∧ reachLo c R ≤ reachHi c R ∧ reachHi c R ≤ 68719476736 := by
  obtain ⟨j, hj, e⟩ := reachLo_is h
  obtain ⟨k, hk, f⟩ := reachHi_is h
  have h1 := dotN_bd ((reachE_iff.1 h).2 j hj)
  have h2 := dotN_bd ((reachE_iff.1 h).2 k hk)
  have h3 := le_reachHi h hj
  omega
theorem reachC_0 {c : List Int} {R : List Row} (h : reachE c R = true) : reachC c R = 0 := by unfold reachC; rw [if_pos h]
theorem unitC_len (d k : Nat) : (unitC d k).length = d := by simp [unitC]
theorem unitC_get (d : Nat) {k j : Nat} (hk : k < d) : (unitC d k).getD j 0 = if j = k then 1 else 0 := by
  unfold unitC
  rw [List.getD_eq_getElem?_getD, List.getElem?_set]
  by_cases h : k = j
  · subst h; simp [hk]
  · rw [if_neg h, if_neg (fun e => h e.symm), List.getElem?_replicate]
    split <;> rfl
theorem unitC_parts {d k : Nat} (h1 : 1 ≤ d) (h8 : d ≤ 8) (hk : k < d) : partsV (unitC d k) d = true := by
  refine partsV_iff.2 ⟨by omega, by omega, by rw [unitC_len], fun x hx => ?_, 1, ?_, by decide⟩
  · obtain ⟨j, hj, rfl⟩ := List.mem_iff_getElem.1 hx
    have := unitC_get d (j := j) hk
    rw [List.getD_eq_getElem?_getD, List.getElem?_eq_getElem hj] at this
    simp only [Option.getD_some] at this
    rw [this]
    split <;> omega
  · have := mem_getD (l := unitC d k) (k := k) (by rw [unitC_len]; exact hk)
    rw [unitC_get d hk, if_pos rfl] at this
    exact this
end Go.Proofs.Ytkkeejbgaaodeaa
/-! Package cut: Is, Left, Same, may; the reference's. -/
namespace Go.Proofs.Ytkkeejbgaaodeaa
open Go.RowKit
set_option linter.unusedVariables false
set_option linter.unusedSimpArgs false

theorem cut_may (k a t : Int) (w : World) : Calls Try.prog 71 #[.int .i64 k, .int .i64 a, .int .i64 t] w fun e w' => e = .returned (.bool (decide ((k = 1 ∨ k = 2) ∧ 0 ≤ a ∧ 1 ≤ t ∧ t ≤ 64))) ∧ w = w' := by
  go_enter Try.func71, Try.ntmps71
  go_wp2
  all_goals
    go_ret
    refine ⟨?_, rfl⟩
    refine congrArg (fun b => Ending.returned (.bool b)) (?_ : (_ : Bool) = _)
    rw [Bool.eq_iff_iff]
    simp
    try omega
theorem qdb {w w' : World} (h : ∃ n, w' = w.drewN n) : Below w.heap.size w w' := by obtain ⟨n, rfl⟩ := h; exact below_drewN2 (Below.refl _ _) n
/-- known blocks, carried over calls -/
def Kpc (B : Nat) (W : World) (l : List (Nat × Array Value × TypeId)) (w : World) : Prop := (∀ x ∈ l, Box w x.1 x.2.1 x.2.2) ∧ Below B W w ∧ B ≤ w.heap.size
theorem Kpc.below {B : Nat} {W w w' : World} {l : List (Nat × Array Value × TypeId)} (h : Kpc B W l w) (hb : Below w.heap.size w w') : Kpc B W l w' :=
  ⟨fun x hx => (h.1 x hx).below hb (h.1 x hx).lt, h.2.1.trans (hb.mono h.2.2), Nat.le_trans h.2.2 hb.size⟩
theorem Kpc.alloc {B : Nat} {W w : World} {l : List (Nat × Array Value × TypeId)} (h : Kpc B W l w) (cs : Array Value) (t : TypeId) : Kpc B W ((w.heap.size, cs, t) :: l) (w.alloc (.cells cs t)) := by
  refine ⟨fun x hx => ?_, h.2.1.alloc h.2.2 _, by rw [alloc_size']; exact Nat.le_succ_of_le h.2.2⟩
  rcases List.mem_cons.1 hx with rfl | hx
  · exact Box.new w cs t
  · exact (h.1 x hx).alloc _
theorem Kpc.start (w : World) : Kpc w.heap.size w [] w := ⟨fun x hx => (by cases hx), Below.refl _ _, Nat.le_refl _⟩
theorem Kpc.head {B : Nat} {W w : World} {x : Nat × Array Value × TypeId} {l : List (Nat × Array Value × TypeId)} (h : Kpc B W (x :: l) w) : Box w x.1 x.2.1 x.2.2 := h.1 x List.mem_cons_self
theorem Kpc.tail {B : Nat} {W w : World} {x : Nat × Array Value × TypeId} {l : List (Nat × Array Value × TypeId)} (h : Kpc B W (x :: l) w) : Kpc B W l w := ⟨fun y hy => h.1 y (List.mem_cons_of_mem _ hy), h.2⟩
theorem box_cut {w : World} {g : Nat} {a b : Value} {t : TypeId} (h : Box w g #[a, b] t) : w.cell? ⟨g, 0, none⟩ = some a ∧ w.cell? ⟨g, 1, none⟩ = some b := ⟨h.two.1, h.two.2.1⟩
theorem cut_Is (A : Option Addr) (a : List Int) (c B : Nat) (p d : Int) (w : World) (hA : Lies w B A a) (hB : B ≤ w.heap.size) (hla : (a.length : Int) ≤ 9223372036854775807) (hca : a.length ≤ c) :
    Calls Try.prog 68 #[.agg #[.slice A a.length c, .int .i64 p], .int .i64 d] w fun e w' => e = .returned (.bool (isC a p d)) ∧ Below w.heap.size w w' := by
  have KP := Lib.hid (fun W (h : Below w.heap.size w W) => vec_parts A a c B d W (hA.below (h.mono hB)) hla hca)
  have HV : Hid (isC a p d = (partsV a d && decide (-137438953472 ≤ p ∧ p ≤ 137438953472))) := rfl
  have HX := Lib.hid ((Kpc.start w).alloc #[.slice A a.length c, .int .i64 p] 37)
  generalize isC a p d = R at *
  generalize partsV a d = q at *
  generalize a.length = N at *
  obtain ⟨y0, y1, _, _⟩ := HX.out.head.two
  clear hA
  cases q
  · go_enter Try.func68, Try.ntmps68
    go_wp2_with fail
    refine (KP.out _ HX.out.2.1).mono ?_
    rintro e w1 ⟨rfl, hw⟩
    have J1 := Lib.hid (HX.out.below (qdb hw))
    obtain ⟨x0, x1, _, _⟩ := J1.out.head.two
    clear hw
    go_wp2
    go_ret
    exact ⟨by rw [HV.out]; rfl, J1.out.2.1⟩
  · by_cases h1 : -137438953472 ≤ p
    · by_cases h2 : p ≤ 137438953472
      · go_enter Try.func68, Try.ntmps68
        go_wp2_with fail
        refine (KP.out _ HX.out.2.1).mono ?_
        rintro e w1 ⟨rfl, hw⟩
        have J1 := Lib.hid (HX.out.below (qdb hw))
        obtain ⟨x0, x1, _, _⟩ := J1.out.head.two
        clear hw
        go_wp2
        go_ret
        exact ⟨by rw [HV.out]; simp [h1, h2], J1.out.2.1⟩
      · go_enter Try.func68, Try.ntmps68
        go_wp2_with fail
        refine (KP.out _ HX.out.2.1).mono ?_
        rintro e w1 ⟨rfl, hw⟩
        have J1 := Lib.hid (HX.out.below (qdb hw))
        obtain ⟨x0, x1, _, _⟩ := J1.out.head.two
        clear hw
        go_wp2
        go_ret
        exact ⟨by rw [HV.out]; simp [h1, h2], J1.out.2.1⟩
    · go_enter Try.func68, Try.ntmps68
      go_wp2_with fail
      refine (KP.out _ HX.out.2.1).mono ?_
      rintro e w1 ⟨rfl, hw⟩
      have J1 := Lib.hid (HX.out.below (qdb hw))
      obtain ⟨x0, x1, _, _⟩ := J1.out.head.two
      clear hw
      go_wp2
      go_ret
      exact ⟨by rw [HV.out, show decide (-137438953472 ≤ p ∧ p ≤ 137438953472) = false from by simp; omega]; rfl, J1.out.2.1⟩
theorem retBE {a a' : Bool} {b b' : Int} (h : a = a') (g : b = b') : Ending.returned (.tuple #[.bool a, .int .i64 b]) = .returned (.tuple #[.bool a', .int .i64 b']) := by rw [h, g]
set_option maxHeartbeats 1000000 in
theorem cut_Left (A A2 : Option Addr) (a x : List Int) (c c2 B : Nat) (p : Int) (w : World) (hA : Lies w B A a) (hA2 : Lies w B A2 x) (hB : B ≤ w.heap.size) (hla : (a.length : Int) ≤ 9223372036854775807) (hlx : (x.length : Int) ≤ 9223372036854775807) (hca : a.length ≤ c) (hcx : x.length ≤ c2) :
    Calls Try.prog 54 #[.agg #[.slice A a.length c, .int .i64 p], .slice A2 x.length c2] w fun e w' => e = .returned (.tuple #[.bool (lefB a p x), .int .i64 (lefC a p x)]) ∧ Below w.heap.size w w' := by
  have KI := Lib.hid (fun W (h : Below w.heap.size w W) => cut_Is A a c B p a.length W (hA.below (h.mono hB)) (Nat.le_trans hB h.size) hla hca)
  have KD := Lib.hid (fun W (h : Below w.heap.size w W) => vec_Dot A A2 a x c c2 B W (hA.below (h.mono hB)) (hA2.below (h.mono hB)) hla hlx hca hcx)
  have HC : Hid (lefC a p x = if isC a p a.length then dotC a x else 90) := rfl
  have HB : Hid (lefB a p x = (decide (lefC a p x = 0) && decide (dotN a x < p))) := rfl
  have HX := Lib.hid ((Kpc.start w).alloc #[.slice A a.length c, .int .i64 p] 37)
  generalize lefC a p x = rc at *
  generalize lefB a p x = rb at *
  generalize isC a p a.length = q at *
  generalize dotN a x = n at *
  generalize dotC a x = ec at *
  generalize a.length = N at *
  generalize x.length = M at *
  obtain ⟨y0, y1, _, _⟩ := HX.out.head.two
  clear hA hA2
  cases q
  · go_enter Try.func54, Try.ntmps54
    go_wp2_with fail
    refine (KI.out _ HX.out.2.1).mono ?_
    rintro e w1 ⟨rfl, b1⟩
    have J1 := Lib.hid (HX.out.below b1)
    clear b1
    go_wp2
    go_ret2
    have e1 : rc = 90 := HC.out
    exact ⟨retBE (by rw [HB.out, e1]; rfl) e1.symm, J1.out.2.1⟩
  · have e1 : Hid (rc = ec) := HC.out
    go_enter Try.func54, Try.ntmps54
    go_wp2_with fail
    refine (KI.out _ HX.out.2.1).mono ?_
    rintro e w1 ⟨rfl, b1⟩
    have J1 := Lib.hid (HX.out.below b1)
    obtain ⟨z0, z1, _, _⟩ := J1.out.head.two
    clear b1
    go_wp2_with fail
    refine (KD.out _ J1.out.2.1).mono ?_
    rintro e w2 ⟨rfl, hw⟩
    have J2 := Lib.hid (J1.out.below (qdb hw))
    obtain ⟨u0, u1, _, _⟩ := J2.out.head.two
    clear hw
    by_cases he : ec = 0
    · subst he
      go_wp2
      go_ret2
      exact ⟨retBE (by rw [HB.out, e1.out]; simp) e1.out.symm, J2.out.2.1⟩
    · have hne : (ec != 0) = true := by simpa using he
      go_wp2
      go_ret2
      exact ⟨retBE (by rw [HB.out, e1.out]; simp [he]) e1.out.symm, J2.out.2.1⟩

/-! ### the reference's -/
theorem ref_Is9 (A : Option Addr) (a : List Int) (c B : Nat) (p d : Int) (w : World) (hA : Lies w B A a) (hB : B ≤ w.heap.size) :
    Calls Try.prog 69 #[.agg #[.slice A a.length c, .int .i64 p], .int .i64 d] w fun e w' => e = .returned (.bool (isC a p d)) ∧ Below w.heap.size w w' := by
  have KP := Lib.hid (fun W (h : Below w.heap.size w W) => ref_parts A a c B d W (hA.below (h.mono hB)))
  have HV : Hid (isC a p d = (partsV a d && decide (-137438953472 ≤ p ∧ p ≤ 137438953472))) := rfl
  have HX := Lib.hid ((Kpc.start w).alloc #[.slice A a.length c, .int .i64 p] 37)
  generalize isC a p d = R at *
  generalize partsV a d = q at *
  generalize a.length = N at *
  obtain ⟨y0, y1, _, _⟩ := HX.out.head.two
  clear hA
  cases q
  · go_enter Try.func69, Try.ntmps69
    go_wp2_with fail
    refine (KP.out _ HX.out.2.1).mono ?_
    rintro e w1 ⟨rfl, rfl⟩
    go_wp2
    go_ret
    exact ⟨by rw [HV.out]; rfl, HX.out.2.1⟩
  · by_cases h1 : -137438953472 ≤ p
    · by_cases h2 : p ≤ 137438953472
      · go_enter Try.func69, Try.ntmps69
        go_wp2_with fail
        refine (KP.out _ HX.out.2.1).mono ?_
        rintro e w1 ⟨rfl, rfl⟩
        go_wp2
        go_ret
        exact ⟨by rw [HV.out]; simp [h1, h2], HX.out.2.1⟩
      · go_enter Try.func69, Try.ntmps69
        go_wp2_with fail
        refine (KP.out _ HX.out.2.1).mono ?_
        rintro e w1 ⟨rfl, rfl⟩
        go_wp2
        go_ret
        exact ⟨by rw [HV.out]; simp [h1, h2], HX.out.2.1⟩
    · go_enter Try.func69, Try.ntmps69
      go_wp2_with fail
      refine (KP.out _ HX.out.2.1).mono ?_
      rintro e w1 ⟨rfl, rfl⟩
      go_wp2
      go_ret
      exact ⟨by rw [HV.out, show decide (-137438953472 ≤ p ∧ p ≤ 137438953472) = false from by simp; omega]; rfl, HX.out.2.1⟩
set_option maxHeartbeats 1000000 in
theorem ref_Left9 (A A2 : Option Addr) (a x : List Int) (c c2 B : Nat) (p : Int) (w : World) (hA : Lies w B A a) (hA2 : Lies w B A2 x) (hB : B ≤ w.heap.size) :
    Calls Try.prog 85 #[.agg #[.slice A a.length c, .int .i64 p], .slice A2 x.length c2] w fun e w' => e = .returned (.tuple #[.bool (lefB a p x), .int .i64 (lefC a p x)]) ∧ Below w.heap.size w w' := by
  have KI := Lib.hid (fun W (h : Below w.heap.size w W) => ref_Is9 A a c B p a.length W (hA.below (h.mono hB)) (Nat.le_trans hB h.size))
  have KD := Lib.hid (fun W (h : Below w.heap.size w W) => ref_Dot A A2 a x c c2 B W (hA.below (h.mono hB)) (hA2.below (h.mono hB)))
  have HC : Hid (lefC a p x = if isC a p a.length then dotC a x else 90) := rfl
  have HB : Hid (lefB a p x = (decide (lefC a p x = 0) && decide (dotN a x < p))) := rfl
  have HX := Lib.hid ((Kpc.start w).alloc #[.slice A a.length c, .int .i64 p] 37)
  generalize lefC a p x = rc at *
  generalize lefB a p x = rb at *
  generalize isC a p a.length = q at *
  generalize dotN a x = n at *
  generalize dotC a x = ec at *
  generalize a.length = N at *
  generalize x.length = M at *
  obtain ⟨y0, y1, _, _⟩ := HX.out.head.two
  clear hA hA2
  cases q
  · go_enter Try.func85, Try.ntmps85
    go_wp2_with fail
    refine (KI.out _ HX.out.2.1).mono ?_
    rintro e w1 ⟨rfl, b1⟩
    have J1 := Lib.hid (HX.out.below b1)
    clear b1
    go_wp2
    go_ret2
    have e1 : rc = 90 := HC.out
    exact ⟨retBE (by rw [HB.out, e1]; rfl) e1.symm, J1.out.2.1⟩
  · have e1 : Hid (rc = ec) := HC.out
    go_enter Try.func85, Try.ntmps85
    go_wp2_with fail
    refine (KI.out _ HX.out.2.1).mono ?_
    rintro e w1 ⟨rfl, b1⟩
    have J1 := Lib.hid (HX.out.below b1)
    obtain ⟨z0, z1, _, _⟩ := J1.out.head.two
    clear b1
    go_wp2_with fail
    refine (KD.out _ J1.out.2.1).mono ?_
    rintro e w2 ⟨rfl, hw⟩
    have J2 := Lib.hid (J1.out.below (qdb hw))
    obtain ⟨u0, u1, _, _⟩ := J2.out.head.two
    clear hw
    by_cases he : ec = 0
    · subst he
      go_wp2
      go_ret2
      exact ⟨retBE (by rw [HB.out, e1.out]; simp) e1.out.symm, J2.out.2.1⟩
    · have hne : (ec == 0) = false := by simpa using he
      go_wp2
      go_ret2
      exact ⟨retBE (by rw [HB.out, e1.out]; simp [he]) e1.out.symm, J2.out.2.1⟩
/-- two cuts are the same -/
def samC (a : List Int) (p : Int) (b : List Int) (q : Int) : Bool := decide (a = b) && decide (p = q)
theorem cut_Same (A A2 : Option Addr) (a b : List Int) (c c2 B : Nat) (p q : Int) (w : World) (hA : Lies w B A a) (hA2 : Lies w B A2 b) (hB : B ≤ w.heap.size) (hla : (a.length : Int) ≤ 9223372036854775807) (hlb : (b.length : Int) ≤ 9223372036854775807) :
    Calls Try.prog 44 #[.agg #[.slice A a.length c, .int .i64 p], .agg #[.slice A2 b.length c2, .int .i64 q]] w fun e w' => e = .returned (.bool (samC a p b q)) ∧ Below w.heap.size w w' := by
  have KO := Lib.hid (fun W (h : Below w.heap.size w W) => vec_Order A A2 a b c c2 B W (hA.below (h.mono hB)) (hA2.below (h.mono hB)) hla hlb)
  have HV : Hid (samC a p b q = (decide (ordL a b = 0) && decide (p = q))) := by
    show _ = _
    unfold samC
    rw [decide_eq_decide.2 (ordL_zero a b)]
  have HX := Lib.hid (((Kpc.start w).alloc #[.slice A a.length c, .int .i64 p] 37).alloc #[.slice A2 b.length c2, .int .i64 q] 37)
  simp only [alloc_size'] at HX
  generalize samC a p b q = R at *
  generalize ordL a b = o at *
  generalize a.length = N at *
  generalize b.length = M at *
  obtain ⟨y0, y1, _, _⟩ := HX.out.head.two
  obtain ⟨z0, z1, _, _⟩ := HX.out.tail.head.two
  clear hA hA2
  go_enter Try.func44, Try.ntmps44
  go_wp2_with fail
  refine (KO.out _ HX.out.2.1).mono ?_
  rintro e w1 ⟨rfl, hw⟩
  have J1 := Lib.hid (HX.out.below (qdb hw))
  obtain ⟨y0, y1, _, _⟩ := J1.out.head.two
  obtain ⟨z0, z1, _, _⟩ := J1.out.tail.head.two
  clear hw
  by_cases ho : o = 0
  · subst ho
    go_wp2
    go_ret
    exact ⟨ret_bool (by rw [HV.out]; by_cases h : p = q <;> simp [h]), J1.out.2.1⟩
  · have hne : (o == 0) = false := by simpa using ho
    go_wp2
    go_ret
    exact ⟨ret_bool (by rw [HV.out]; simp [ho]), J1.out.2.1⟩
theorem ref_Same9 (A A2 : Option Addr) (a b : List Int) (c c2 B : Nat) (p q : Int) (w : World) (hA : Lies w B A a) (hA2 : Lies w B A2 b) (hB : B ≤ w.heap.size) (hla : (a.length : Int) ≤ 9223372036854775807) (hlb : (b.length : Int) ≤ 9223372036854775807) :
    Calls Try.prog 45 #[.agg #[.slice A a.length c, .int .i64 p], .agg #[.slice A2 b.length c2, .int .i64 q]] w fun e w' => e = .returned (.bool (samC a p b q)) ∧ Below w.heap.size w w' := by
  have KO := Lib.hid (fun W (h : Below w.heap.size w W) => ref_same1 A A2 a b c c2 B W (hA.below (h.mono hB)) (hA2.below (h.mono hB)) hla hlb)
  have HV : Hid (samC a p b q = (decide (a = b) && decide (p = q))) := rfl
  have HX := Lib.hid (((Kpc.start w).alloc #[.slice A a.length c, .int .i64 p] 37).alloc #[.slice A2 b.length c2, .int .i64 q] 37)
  simp only [alloc_size'] at HX
  generalize samC a p b q = R at *
  generalize decide (a = b) = o at *
  generalize a.length = N at *
  generalize b.length = M at *
  obtain ⟨y0, y1, _, _⟩ := HX.out.head.two
  obtain ⟨z0, z1, _, _⟩ := HX.out.tail.head.two
  clear hA hA2
  by_cases ho : p = q
  · subst ho
    have hpp : (p == p) = true := by simp
    go_enter Try.func45, Try.ntmps45
    go_wp2_with fail
    refine (KO.out _ HX.out.2.1).mono ?_
    rintro e w1 ⟨rfl, hw⟩
    have J1 := Lib.hid (HX.out.below (qdb hw))
    go_wp2
    go_ret
    exact ⟨ret_bool (by rw [HV.out]; cases o <;> simp), J1.out.2.1⟩
  · have hne : (p == q) = false := by simpa using ho
    go_enter Try.func45, Try.ntmps45
    go_wp2
    go_ret
    exact ⟨ret_bool (by rw [HV.out]; simp [ho]), HX.out.2.1⟩
end Go.Proofs.Ytkkeejbgaaodeaa
/-! Package cut: open, column, between. -/
namespace Go.Proofs.Ytkkeejbgaaodeaa
open Go.RowKit
set_option linter.unusedVariables false
set_option linter.unusedSimpArgs false

/-- a cut, a place, whether there is one, an error -/
def GivesD (r : List Int × Int × Int × Bool × Int) (w : World) (e : Ending) (w' : World) : Prop :=
  ∃ A c, e = .returned (.tuple #[.agg #[.slice A r.1.length c, .int .i64 r.2.1], .int .i64 r.2.2.1, .bool r.2.2.2.1, .int .i64 r.2.2.2.2]) ∧ r.1.length ≤ c ∧ c ≤ 9223372036854775807 ∧ Lies w' w'.heap.size A r.1 ∧ New w A ∧ Below w.heap.size w w'
theorem givesD_no {w w' : World} {p x : Int} (h : Below w.heap.size w w') : GivesD ([], 0, p, false, x) w (.returned (.tuple #[.agg #[.slice none 0 0, .int .i64 0], .int .i64 p, .bool false, .int .i64 x])) w' :=
  ⟨none, 0, rfl, Nat.le_refl _, by omega, fun h1 => absurd h1 (by simp), (fun _ e => by cases e), h⟩
/-- a cut with the parts that were handed in, or an error -/
def GivesB (co : List Int) (Ac : Option Addr) (cc : Nat) (r : List Int × Int × Int × Bool × Int) (w : World) (e : Ending) (w' : World) : Prop :=
  Below w.heap.size w w' ∧ ((r = (co, r.2.1, r.2.2.1, true, 0) ∧ e = .returned (.tuple #[.agg #[.slice Ac co.length cc, .int .i64 r.2.1], .int .i64 r.2.2.1, .bool true, .int .i64 0])) ∨
    (r = noD r.2.2.2.2 ∧ ¬ r.2.2.2.2 = 0 ∧ e = .returned (.tuple #[.agg #[.slice none 0 0, .int .i64 0], .int .i64 0, .bool false, .int .i64 r.2.2.2.2])))
theorem Kpc.set2 {B : Nat} {W w : World} {g : Nat} {a b : Value} {t : TypeId} {l : List (Nat × Array Value × TypeId)} (h : Kpc B W ((g, #[a, b], t) :: l) w) (hg : B ≤ g) (u v : Value) :
    (World.cell? ((w.setCell ⟨g, 0, none⟩ u).setCell ⟨g, 1, none⟩ v) ⟨g, 0, none⟩ = some u ∧ World.cell? ((w.setCell ⟨g, 0, none⟩ u).setCell ⟨g, 1, none⟩ v) ⟨g, 1, none⟩ = some v) ∧ Below B W ((w.setCell ⟨g, 0, none⟩ u).setCell ⟨g, 1, none⟩ v) := by
  obtain ⟨k0, k1, _, _⟩ := (Box.set2 h.head u v).two
  exact ⟨⟨k0, k1⟩, (h.2.1.setCell (p := ⟨g, 0, none⟩) hg _).setCell (p := ⟨g, 1, none⟩) hg _⟩
theorem Lies.set2 {w : World} {g : Nat} {B : Nat} {A : Option Addr} {l : List Int} (h : Lies w B A l) (hg : B ≤ g) (u v : Value) : Lies ((w.setCell ⟨g, 0, none⟩ u).setCell ⟨g, 1, none⟩ v) B A l :=
  h.below (((Below.refl B w).setCell (p := ⟨g, 0, none⟩) hg _).setCell (p := ⟨g, 1, none⟩) hg _)

set_option maxHeartbeats 1000000 in
theorem cut_between (Ac Ar A : Option Addr) (co : List Int) (R : List Row) (l : List Int) (cc cr c : Nat) (a t : Int) (w : World) (hc : Lies w w.heap.size Ac co) (hr : LiesR w w.heap.size Ar R) (hR : OkR R) (hA : LiesU w w.heap.size A l) (hu : ∀ x ∈ l, U64 x) (hl : (l.length : Int) ≤ 9223372036854775807)
    (hat : I64 a) (hlc : co.length ≤ 1000) (hcc : co.length ≤ cc) (hlr : (R.length : Int) ≤ 9223372036854775807) (hcr : R.length ≤ cr) :
    Calls Try.prog 76 #[.slice Ac co.length cc, .slice Ar R.length cr, .slice A l.length c, .int .i64 a, .int .i64 t] w (GivesB co Ac cc (btw co R l a t) w) := by
  have K1 := Lib.hid (fun W (h : Below w.heap.size w W) => vec_Reach Ac Ar co R cc cr W ((hc.below h).mono h.size) ((hr.below h).mono h.size) hR (by omega) hlr hcc hcr)
  have HX := Lib.hid ((Kpc.start w).alloc #[.slice none 0 0, .int .i64 0] 37)
  by_cases hE : reachE co R = true
  · have hb := reach_bd hE
    have hC := reachC_0 hE
    have KR := Lib.hid (fun W (h : Below w.heap.size w W) => draw_range A l c a (reachLo co R + 1) (reachHi co R) t W ((hA.below h).mono h.size) hu hl (by unfold I64; omega) (by unfold I64; omega) hat)
    have HV : Hid (btw co R l a t = if (rng l a (reachLo co R + 1) (reachHi co R) t).2.2 = 0 then (co, (rng l a (reachLo co R + 1) (reachHi co R) t).1, (rng l a (reachLo co R + 1) (reachHi co R) t).2.1, true, 0) else noD (rng l a (reachLo co R + 1) (reachHi co R) t).2.2) := by
      show _ = _
      unfold btw; rw [if_pos hC]
    rw [hC] at K1
    generalize btw co R l a t = Z at *
    generalize rng l a (reachLo co R + 1) (reachHi co R) t = F at *
    generalize reachLo co R = lo at *
    generalize reachHi co R = hi at *
    obtain ⟨n, p, e⟩ := F
    simp only at HV
    clear hc hr hA hE hR hu
    have hwr : wrap64 (lo + 1) = lo + 1 := by unfold wrap64; omega
    obtain ⟨y0, y1, f0, f1⟩ := HX.out.head.two
    go_enter Try.func76, Try.ntmps76
    go_wp2_with fail
    refine (K1.out _ HX.out.2.1).mono ?_
    rintro e1 w1 ⟨rfl, b1⟩
    have J1 := Lib.hid (HX.out.below b1)
    clear b1
    go_wp2_with fail
    refine (KR.out _ J1.out.2.1).mono ?_
    rintro e1 w2 ⟨rfl, b2⟩
    have J2 := Lib.hid (J1.out.below b2)
    obtain ⟨z0, z1, g0, g1⟩ := J2.out.head.two
    clear b2
    by_cases he : e = 0
    · subst he
      go_wp2
      obtain ⟨⟨k0, k1⟩, bz⟩ := Kpc.set2 J2.out (Nat.le_refl _) (.slice Ac co.length cc) (.int .i64 n)
      refine bodyPost_ret (v := .tuple #[.agg #[.slice Ac co.length cc, .int .i64 n], .int .i64 p, .bool true, .int .i64 0]) ?_ rfl ?_
      · simp [results, Try.results76, go_sem, k0, k1]
      · rw [show Z = (co, n, p, true, 0) from HV.out.trans (if_pos trivial)]
        exact ⟨bz, .inl ⟨rfl, rfl⟩⟩
    · have hne : (e != 0) = true := by simpa using he
      go_wp2
      obtain ⟨⟨k0, k1⟩, bz⟩ := Kpc.set2 J2.out (Nat.le_refl _) (.slice none 0 0) (.int .i64 0)
      refine bodyPost_ret (v := .tuple #[.agg #[.slice none 0 0, .int .i64 0], .int .i64 0, .bool false, .int .i64 e]) ?_ rfl ?_
      · simp [results, Try.results76, go_sem, k0, k1]
      · rw [show Z = noD e from HV.out.trans (if_neg he)]
        exact ⟨bz, .inr ⟨rfl, he, rfl⟩⟩
  · have hC : reachC co R = 80 := by unfold reachC; rw [if_neg hE]
    have HV : Hid (btw co R l a t = noD 80) := by
      show _ = _
      unfold btw; rw [hC, if_neg (by decide)]
    rw [hC] at K1
    generalize btw co R l a t = Z at *
    generalize reachLo co R = lo at *
    generalize reachHi co R = hi at *
    clear hc hr hA hE hR hu
    obtain ⟨y0, y1, f0, f1⟩ := HX.out.head.two
    go_enter Try.func76, Try.ntmps76
    go_wp2_with fail
    refine (K1.out _ HX.out.2.1).mono ?_
    rintro e1 w1 ⟨rfl, b1⟩
    have J1 := Lib.hid (HX.out.below b1)
    obtain ⟨z0, z1, g0, g1⟩ := J1.out.head.two
    clear b1
    go_wp2
    obtain ⟨⟨k0, k1⟩, bz⟩ := Kpc.set2 J1.out (Nat.le_refl _) (.slice none 0 0) (.int .i64 0)
    refine bodyPost_ret (v := .tuple #[.agg #[.slice none 0 0, .int .i64 0], .int .i64 0, .bool false, .int .i64 80]) ?_ rfl ?_
    · simp [results, Try.results76, go_sem, k0, k1]
    · rw [HV.out]
      exact ⟨bz, .inr ⟨rfl, by decide, rfl⟩⟩

/-! ### open -/
def opnD (R : List Row) : List Int := if boxE R (dimR R) then opn R else []
def dimD (R : List Row) : Int := if boxE R (dimR R) then dimR R else 0
def GivesO (R : List Row) (w : World) (e : Ending) (w' : World) : Prop :=
  ∃ A c, e = .returned (.tuple #[.slice A (opnD R).length c, .int .i64 (dimD R), .int .i64 (boxC R (dimR R))]) ∧ (opnD R).length ≤ c ∧ c ≤ maxLen ∧ Lies w' w'.heap.size A (opnD R) ∧ Below w.heap.size w w'
theorem box_dim {R : List Row} (h : boxE R (dimR R) = true) : 1 ≤ dimR R ∧ dimR R ≤ 8 ∧ 0 < R.length := by
  obtain ⟨h0, hv⟩ := boxE_iff.1 h
  have h3 := isV_iff.1 (hv 0 h0)
  refine ⟨?_, ?_, h0⟩ <;> omega
theorem box_lens {R : List Row} (h : boxE R (dimR R) = true) : (boxLo R (dimR R)).length = dimR R ∧ (boxHi R (dimR R)).length = dimR R := by
  unfold boxLo boxHi
  rw [if_pos h, if_pos h]
  simp
theorem openK_mem (lo hi : List Int) (x : Int) : ∀ k, x ∈ openK lo hi k ↔ ∃ j : Nat, j < k ∧ x = j ∧ lo.getD j 0 < hi.getD j 0
  | 0 => by simp [openK]
  | k + 1 => by
    have ih := openK_mem lo hi x k
    simp only [openK]
    constructor
    · intro h
      split at h
      · rename_i g
        rcases List.mem_append.1 h with e | e
        · obtain ⟨j, h1, h2⟩ := ih.1 e
          exact ⟨j, by omega, h2⟩
        · exact ⟨k, by omega, List.mem_singleton.1 e, g⟩
      · obtain ⟨j, h1, h2⟩ := ih.1 h
        exact ⟨j, by omega, h2⟩
    · rintro ⟨j, h1, h2, h3⟩
      by_cases g : j = k
      · subst g
        rw [if_pos h3, h2]; simp
      · have hm := ih.2 ⟨j, by omega, h2, h3⟩
        split
        · exact List.mem_append_left _ hm
        · exact hm
theorem opn_mem {R : List Row} (h : boxE R (dimR R) = true) {x : Int} (hx : x ∈ opn R) : ∃ j : Nat, j < dimR R ∧ x = j ∧ (boxLo R (dimR R)).getD j 0 < (boxHi R (dimR R)).getD j 0 := by
  obtain ⟨h1, h2⟩ := box_lens h
  unfold opn openL at hx
  rw [h1, h2, Nat.min_self] at hx
  exact (openK_mem _ _ _ _).1 hx
theorem opn_len {R : List Row} (h : boxE R (dimR R) = true) : (opn R).length ≤ 8 := by
  have h1 := openK_len (boxLo R (dimR R)) (boxHi R (dimR R)) (min (boxLo R (dimR R)).length (boxHi R (dimR R)).length)
  rw [(box_lens h).1, (box_lens h).2, Nat.min_self] at h1
  have h2 := (box_dim h).2.1
  unfold opn openL
  rw [(box_lens h).1, (box_lens h).2, Nat.min_self]
  omega
set_option maxHeartbeats 1000000 in
theorem cut_open (A : Option Addr) (R : List Row) (c : Nat) (w : World) (hr : LiesR w w.heap.size A R) (hR : OkR R) (hlr : (R.length : Int) ≤ 9223372036854775807) (hcr : R.length ≤ c) :
    Calls Try.prog 72 #[.slice A R.length c] w (GivesO R w) := by
  rcases Nat.eq_zero_or_pos R.length with h0 | h0
  · have hE : ¬ boxE R (dimR R) = true := by rw [boxE_iff]; omega
    have HG : Hid (∀ w', Below w.heap.size w w' → GivesO R w (.returned (.tuple #[.slice none 0 0, .int .i64 0, .int .i64 80])) w') := fun w' h => by
      refine ⟨none, 0, ?_, ?_, by unfold maxLen; omega, ?_, h⟩
      · unfold opnD dimD boxC; rw [if_neg hE, if_neg hE, if_neg hE]; rfl
      · unfold opnD; rw [if_neg hE]; exact Nat.le_refl _
      · unfold opnD; rw [if_neg hE]; exact fun h1 => absurd h1 (by simp)
    generalize hQ : GivesO R w = Q at *
    clear hQ
    rw [h0]
    go_enter Try.func72, Try.ntmps72
    go_wp2
    go_ret3
    exact HG.out _ (Below.refl _ _)
  · obtain ⟨ad, rfl, hadb, hcell, hlies⟩ := hr.at (k := 0) h0
    have hcell' : w.cell? ad = some (.slice (R.getD 0 row0).a (R.getD 0 row0).l.length (R.getD 0 row0).c) := by rw [add_zero'] at hcell; exact hcell
    have KB := Lib.hid (vec_Box (some ad) R c (dimR R) w hr hR hlr hcr)
    have HG := Lib.hid (fun w' (A1 A2 : Option Addr) (h : GivesO R w (.returned (.tuple #[.slice A1 (opnD R).length 0, .int .i64 (dimD R), .int .i64 (boxC R (dimR R))])) w') => h)
    have HQ : Hid (∀ w' A' c', (opnD R).length ≤ c' → c' ≤ maxLen → Lies w' w'.heap.size A' (opnD R) → Below w.heap.size w w' → GivesO R w (.returned (.tuple #[.slice A' (opnD R).length c', .int .i64 (dimD R), .int .i64 (boxC R (dimR R))])) w') := fun w' A' c' g1 g2 g3 g4 => ⟨A', c', rfl, g1, g2, g3, g4⟩
    clear HG
    have hdim : (R.getD 0 row0).l.length = dimR R := rfl
    rw [hdim] at hcell hcell'
    have hg1 : (0 : Int) < (R.length : Int) := by omega
    have hz : ((R.length : Int) == 0) = false := by rw [beq_eq_false_iff_ne]; omega
    unfold GivesBox at KB
    by_cases hE : boxE R (dimR R) = true
    · have hO : opnD R = openL (boxLo R (dimR R)) (boxHi R (dimR R)) := by unfold opnD; rw [if_pos hE]; rfl
      have hD : dimD R = dimR R := by unfold dimD; rw [if_pos hE]
      have hC : boxC R (dimR R) = 0 := by unfold boxC; rw [if_pos hE]
      have hl := box_lens hE
      have hd := box_dim hE
      rw [hO, hD, hC] at HQ
      rw [hC] at KB
      generalize GivesO R w = Q at *
      have KO := Lib.hid (fun W A1 A2 c1 c2 (h1 : Lies W W.heap.size A1 (boxLo R (dimR R))) (h2 : Lies W W.heap.size A2 (boxHi R (dimR R))) => vec_Open A1 A2 (boxLo R (dimR R)) (boxHi R (dimR R)) c1 c2 W h1 h2 (by omega) (by omega))
      unfold GivesI at KO
      generalize openL (boxLo R (dimR R)) (boxHi R (dimR R)) = O at *
      clear hr hlies hR hO hE hD hC
      rw [hl.1, hl.2] at KB KO
      generalize boxLo R (dimR R) = LO at *
      generalize boxHi R (dimR R) = HI at *
      generalize dimR R = D at *
      generalize R.length = N at *
      go_enter Try.func72, Try.ntmps72
      go_wp2_with fail
      refine KB.out.mono ?_
      rintro e w1 ⟨A1, c1, A2, c2, rfl, q1, q2, q3, q4, b1⟩
      have HB1 := Lib.hid b1
      have H3 := Lib.hid q3
      have H4 := Lib.hid q4
      clear q3 q4 b1
      go_wp2_with fail
      refine (KO.out _ _ _ _ _ H3.out H4.out).mono ?_
      rintro e w2 ⟨A3, c3, rfl, r1, r2, r3, r4⟩
      go_wp2
      go_ret3
      exact HQ.out _ _ _ r1 r2 r3 (HB1.out.trans (r4.mono HB1.out.size))
    · have hO : opnD R = [] := by unfold opnD; rw [if_neg hE]
      have hD : dimD R = 0 := by unfold dimD; rw [if_neg hE]
      have hC : boxC R (dimR R) = 80 := by unfold boxC; rw [if_neg hE]
      rw [hO, hD, hC] at HQ
      rw [hC] at KB
      generalize GivesO R w = Q at *
      clear hr hlies hR hO hE hD hC
      generalize boxLo R (dimR R) = LO at *
      generalize boxHi R (dimR R) = HI at *
      generalize dimR R = D at *
      generalize R.length = N at *
      go_enter Try.func72, Try.ntmps72
      go_wp2_with fail
      refine KB.out.mono ?_
      rintro e w1 ⟨A1, c1, A2, c2, rfl, q1, q2, q3, q4, b1⟩
      have HB1 := Lib.hid b1
      clear q3 q4 b1
      go_wp2
      go_ret3
      exact HQ.out _ none 0 (Nat.le_refl _) (by unfold maxLen; omega) (fun h1 => absurd h1 (by simp)) HB1.out

/-! ### column -/
set_option maxHeartbeats 1000000 in
theorem cut_column (Ao A : Option Addr) (o l : List Int) (co c d : Nat) (a t : Int) (w : World) (ho : Lies w w.heap.size Ao o) (hA : LiesU w w.heap.size A l) (hu : ∀ x ∈ l, U64 x) (hl : (l.length : Int) ≤ 9223372036854775807) (hat : I64 a) (hd : d ≤ 8) (hol : o.length ≤ 8) (hod : ∀ x ∈ o, 0 ≤ x ∧ x < d) (h0 : 0 < o.length) :
    Calls Try.prog 75 #[.slice Ao o.length co, .int .i64 d, .slice A l.length c, .int .i64 a, .int .i64 t] w (GivesC (colD o d l a t) w) := by
  have KB := Lib.hid (draw_bound A l c a o.length t w hA hu hl (by unfold U64; omega) hat)
  have hlt := bnd_lt (l := l) (a := a) (n := o.length) (t := t) (by omega)
  have HV : Hid (colD o d l a t = if (bnd l a o.length t).2.2 = 0 then (unitC d (o.getD (bnd l a o.length t).1.toNat 0).toNat, (bnd l a o.length t).2.1, 0) else ([], 0, (bnd l a o.length t).2.2)) := rfl
  generalize colD o d l a t = Z at *
  generalize bnd l a o.length t = F at *
  obtain ⟨x, p, e⟩ := F
  simp only at HV hlt
  obtain ⟨k, rfl⟩ : ∃ k : Nat, x = k := ⟨x.toNat, by omega⟩
  rw [show ((k : Int)).toNat = k from by omega] at HV
  have hk : k < o.length := by omega
  have hox := hod _ (mem_getD hk)
  have HLI := Lib.hid (fun W (h : Below w.heap.size w W) => (ho.below h).at (k := k) hk)
  obtain ⟨j, hj⟩ : ∃ j : Nat, o.getD k 0 = j := ⟨(o.getD k 0).toNat, by omega⟩
  rw [hj] at HV hox HLI
  rw [show ((j : Int)).toNat = j from by omega] at HV
  have hwo : IntKind.u64.wrap (o.length : Int) = (o.length : Int) := by simp only [u64w]; omega
  have hkl : (k : Int) < (o.length : Int) := by omega
  have hjd : (j : Int) < (d : Int) := by omega
  clear ho hA hu hod hlt
  generalize l.length = N at *
  generalize o.length = M at *
  go_enter Try.func75, Try.ntmps75
  go_wp2_with fail
  refine KB.out.mono ?_
  rintro e1 w1 ⟨rfl, b1⟩
  have HB := Lib.hid b1
  clear b1
  by_cases he : e = 0
  · subst he
    obtain ⟨ad, rfl, hb0, hc0⟩ := HLI.out _ HB.out
    go_wp2_with (at_make; refine make_ints rfl (.tmp 31) (.tmp 31) rfl d rfl rfl (by omega) ?_; intro w2 ho2 hb2; have hc2 := (hb2.cell (by rw [add_block]; exact Nat.lt_of_lt_of_le hb0 HB.out.size)).trans hc0; have hfr := ho2.free j; have hcl := ho2.cell (k := j) (by simp; omega))
    go_ret3
    have ho3 := ho2.set (k := j) (by simp; omega) 1
    rw [show Z = (unitC d j, p, 0) from HV.out.trans (if_pos trivial)]
    refine ⟨_, d, by rw [show (unitC d j, p, (0 : Int)).1.length = d from unitC_len d j]; rfl, by rw [show (unitC d j, p, (0 : Int)).1.length = d from unitC_len d j]; exact Nat.le_refl _, by unfold maxLen; omega, ho3.lies, (fun _ e => by cases e; exact HB.out.size), ?_⟩
    exact (HB.out.trans (hb2.mono HB.out.size)).setCell (p := ⟨w1.heap.size, j, none⟩) HB.out.size _
  · have hne : (e != 0) = true := by simpa using he
    go_wp2
    go_ret3
    rw [show Z = ([], 0, e) from HV.out.trans (if_neg he)]
    exact givesC_nil HB.out
end Go.Proofs.Ytkkeejbgaaodeaa
/-! Package cut: Draw. -/
namespace Go.Proofs.Ytkkeejbgaaodeaa
open Go.RowKit
set_option linter.unusedVariables false
set_option linter.unusedSimpArgs false

theorem colB {R : List Row} (h0 : 0 < R.length) (j : Nat) : (∃ i, i < R.length ∧ colL R j = (R.getD i row0).l.getD j 0) ∧ ∃ i, i < R.length ∧ colH R j = (R.getD i row0).l.getD j 0 := by
  have key : ∀ x : Int, x = (R.getD 0 row0).l.getD j 0 ∨ x ∈ R.tail.map (fun r => r.l.getD j 0) → ∃ i, i < R.length ∧ x = (R.getD i row0).l.getD j 0 := by
    intro x hx
    rcases hx with e | e
    · exact ⟨0, h0, e⟩
    · obtain ⟨r, hr, rfl⟩ := List.mem_map.1 e
      obtain ⟨i, hi, rfl⟩ := List.mem_iff_getElem.1 (List.mem_of_mem_tail hr)
      exact ⟨i, hi, by simp [List.getD, hi]⟩
  exact ⟨key _ (loL_mem _ _), key _ (hiL_mem _ _)⟩
theorem dotI_unit (d k : Nat) (hk : k < d) (v : List Int) : ∀ n, n ≤ d → dotI (unitC d k) v n = if k < n then v.getD k 0 else 0
  | 0, _ => by simp [dotI]
  | n + 1, h => by
    rw [dotI, dotI_unit d k hk v n (by omega), unitC_get d hk]
    by_cases g : n = k
    · subst g
      rw [if_neg (Nat.lt_irrefl _), if_pos rfl, if_pos (by omega)]; omega
    · rw [if_neg g]
      by_cases g2 : k < n
      · rw [if_pos g2, if_pos (by omega)]; omega
      · rw [if_neg g2, if_neg (by omega)]; omega
theorem dotN_unit {d k : Nat} {v : List Int} (hk : k < d) (h : dotE (unitC d k) v = true) : dotN (unitC d k) v = v.getD k 0 := by
  unfold dotN
  rw [if_pos h, unitC_len, dotI_unit d k hk v d (Nat.le_refl _), if_pos hk]
/-- along an open column not all products are equal -/
theorem unit_open {R : List Row} (h : boxE R (dimR R) = true) {j : Nat} (hj : j < dimR R) (ho : (boxLo R (dimR R)).getD j 0 < (boxHi R (dimR R)).getD j 0) :
    reachE (unitC (dimR R) j) R = true ∧ reachLo (unitC (dimR R) j) R < reachHi (unitC (dimR R) j) R := by
  obtain ⟨d1, d8, h0⟩ := box_dim h
  have hE := reach_of h (unitC_parts d1 d8 hj)
  refine ⟨hE, ?_⟩
  obtain ⟨⟨i, hi, e1⟩, i2, hi2, e2⟩ := colB h0 j
  have hlo : (boxLo R (dimR R)).getD j 0 = colL R j := by
    unfold boxLo
    rw [if_pos h, List.getD_eq_getElem?_getD, List.getElem?_map, List.getElem?_range (by omega)]; rfl
  have hhi : (boxHi R (dimR R)).getD j 0 = colH R j := by
    unfold boxHi
    rw [if_pos h, List.getD_eq_getElem?_getD, List.getElem?_map, List.getElem?_range (by omega)]; rfl
  have g1 := reachLo_le hE hi
  have g2 := le_reachHi hE hi2
  rw [dotN_unit hj ((reachE_iff.1 hE).2 _ hi)] at g1
  rw [dotN_unit hj ((reachE_iff.1 hE).2 _ hi2)] at g2
  omega
theorem colD_ok {o l : List Int} {d : Nat} {a t : Int} (h : (colD o d l a t).2.2 = 0) : (bnd l a o.length t).2.2 = 0 ∧ colD o d l a t = (unitC d (o.getD (bnd l a o.length t).1.toNat 0).toNat, (bnd l a o.length t).2.1, 0) := by
  unfold colD at h ⊢
  by_cases g : (bnd l a o.length t).2.2 = 0
  · rw [if_pos g]; exact ⟨g, rfl⟩
  · rw [if_neg g] at h; exact absurd h g
theorem colD_err {o l : List Int} {d : Nat} {a t : Int} (h : ¬ (colD o d l a t).2.2 = 0) : colD o d l a t = ([], 0, (colD o d l a t).2.2) := by
  unfold colD at h ⊢
  by_cases g : (bnd l a o.length t).2.2 = 0
  · rw [if_pos g] at h; exact absurd rfl h
  · rw [if_neg g]
/-- what a column that is drawn is like -/
theorem col_of {R : List Row} {l : List Int} {a t : Int} (h : boxE R (dimR R) = true) (ho : opn R ≠ []) (hc : (colD (opn R) (dimR R) l a t).2.2 = 0) :
    ∃ j : Nat, j < dimR R ∧ (boxLo R (dimR R)).getD j 0 < (boxHi R (dimR R)).getD j 0 ∧ (colD (opn R) (dimR R) l a t).1 = unitC (dimR R) j ∧ a < (colD (opn R) (dimR R) l a t).2.1 ∧ (colD (opn R) (dimR R) l a t).2.1 ≤ l.length ∧ (colD (opn R) (dimR R) l a t).2.1 ≤ a + t := by
  obtain ⟨hb, he⟩ := colD_ok hc
  have hp := bnd_pos hb
  have hol : 0 < (opn R).length := List.length_pos_iff.2 ho
  have hlt := bnd_lt (l := l) (a := a) (n := (opn R).length) (t := t) (by omega)
  rw [he]
  obtain ⟨j, h1, h2, h3⟩ := opn_mem h (mem_getD (l := opn R) (k := (bnd l a (opn R).length t).1.toNat) (by omega))
  refine ⟨j, h1, h3, ?_, hp.1, hp.2.1, hp.2.2⟩
  simp only
  rw [h2]; rfl
theorem Lies.mono2 {w : World} {B B' : Nat} {A : Option Addr} {l : List Int} (h : Lies w B A l) (_ : B' ≤ B) : Lies w B A l := h
theorem cof_at {l : List Int} {a d t : Int} (hl : (l.length : Int) ≤ 9223372036854775807) (ha : 0 ≤ a) (h : (cof l a d t).2.2 = 0) : 0 ≤ (cof l a d t).2.1 ∧ (cof l a d t).2.1 ≤ 9223372036854775807 := by
  have := cof_pos h; omega

theorem box_off {w : World} {g : Nat} {u v : Value} {A : Option Addr} {l : List Int} {B : Nat} (h : Lies w B A l) (hn : ∀ ad, A = some ad → g < ad.block) : Lies ((w.setCell ⟨g, 0, none⟩ u).setCell ⟨g, 1, none⟩ v) B A l := fun h0 => by
  obtain ⟨ad, e, hb, hc⟩ := h h0
  refine ⟨ad, e, hb, fun j hj => ?_⟩
  have hne := hn ad e
  rw [World.cell?_setCell_other _ ⟨g, 1, none⟩ (ad.add j) _ (fun e => by have := congrArg Addr.block e; rw [add_block] at this; simp only at this; omega), World.cell?_setCell_other _ ⟨g, 0, none⟩ (ad.add j) _ (fun e => by have := congrArg Addr.block e; rw [add_block] at this; simp only at this; omega)]
  exact hc j hj
set_option maxHeartbeats 4000000 in
theorem cut_Draw (Ar A : Option Addr) (R : List Row) (l : List Int) (cr c : Nat) (k a t : Int) (w : World) (hr : LiesR w w.heap.size Ar R) (hR : OkR R) (hA : LiesU w w.heap.size A l) (hu : ∀ x ∈ l, U64 x) (hl : (l.length : Int) ≤ 9223372036854775807)
    (hat : I64 a) (hlr : (R.length : Int) ≤ 9223372036854775807) (hcr : R.length ≤ cr) :
    Calls Try.prog 46 #[.int .i64 k, .slice Ar R.length cr, .slice A l.length c, .int .i64 a, .int .i64 t] w (GivesD (drw k R l a t) w) := by
  have KM := Lib.hid (cut_may k a t)
  have HX := Lib.hid ((Kpc.start w).alloc #[.slice none 0 0, .int .i64 0] 37)
  have KO := Lib.hid (fun W (h : Below w.heap.size w W) => cut_open Ar R cr W ((hr.below h).mono h.size) hR hlr hcr)
  unfold GivesO at KO
  by_cases hask : (k = 1 ∨ k = 2) ∧ 0 ≤ a ∧ 1 ≤ t ∧ t ≤ 64
  · rw [decide_eq_true hask] at KM
    by_cases hE : boxE R (dimR R) = true
    · have hO : opnD R = opn R := by unfold opnD; rw [if_pos hE]
      have hD : dimD R = dimR R := by unfold dimD; rw [if_pos hE]
      have hC : boxC R (dimR R) = 0 := by unfold boxC; rw [if_pos hE]
      rw [hO, hD, hC] at KO
      by_cases hop : opn R = []
      · have HV : Hid (drw k R l a t = ([], 0, a, false, 0)) := by
          show _ = _
          unfold drw; rw [if_pos (show AskD _ _ _ from hask), if_pos hE, if_pos hop]
        rw [hop] at KO
        generalize drw k R l a t = Z at *
        generalize dimR R = D at *
        clear hr hA hR hu hop hE hO hD hC
        go_enter Try.func46, Try.ntmps46
        go_wp2_with fail
        refine (KM.out _).mono ?_
        rintro e1 w1 ⟨rfl, rfl⟩
        go_wp2_with fail
        refine (KO.out _ HX.out.2.1).mono ?_
        rintro e1 w1 ⟨A1, c1, rfl, q1, q2, q3, b1⟩
        have J1 := Lib.hid (HX.out.below b1)
        obtain ⟨z0, z1, g0, g1⟩ := J1.out.head.two
        clear q3 b1
        go_wp2
        obtain ⟨⟨k0, k1⟩, bz⟩ := Kpc.set2 J1.out (Nat.le_refl _) (.slice none 0 0) (.int .i64 0)
        refine bodyPost_ret (v := .tuple #[.agg #[.slice none 0 0, .int .i64 0], .int .i64 a, .bool false, .int .i64 0]) ?_ rfl ?_
        · simp [results, Try.results46, go_sem, k0, k1]
        · rw [HV.out]
          exact givesD_no (by first | exact bz | exact HX.out.2.1)
      · have hd := box_dim hE
        have hol : 0 < (opn R).length := List.length_pos_iff.2 hop
        have hol8 := opn_len hE
        have hne0 : (((opn R).length : Int) == 0) = false := by rw [beq_eq_false_iff_ne]; omega
        obtain ⟨T, rfl⟩ : ∃ T : Nat, t = T := ⟨t.toNat, by omega⟩
        have HCO := Lib.hid (fun p (h : (colD (opn R) (dimR R) l p T).2.2 = 0) => col_of hE hop h)
        have HCX := Lib.hid (fun p (h : ¬ (colD (opn R) (dimR R) l p T).2.2 = 0) => colD_err h)
        have KC := Lib.hid (fun W Ao co p (h : Below w.heap.size w W) (hl1 : Lies W W.heap.size Ao (opn R)) (hp : I64 p) => cut_column Ao A (opn R) l co c (dimR R) p T W hl1 ((hA.below h).mono h.size) hu hl hp hd.2.1 hol8 (fun x hx => by obtain ⟨j, h1, h2, _⟩ := opn_mem hE hx; omega) hol)
        have KB := Lib.hid (fun W Ac cc co p (h : Below w.heap.size w W) (hl1 : Lies W W.heap.size Ac co) (hp : I64 p) (h8 : co.length ≤ 1000) (hcc : co.length ≤ cc) => cut_between Ac Ar A co R l cc cr c p T W hl1 ((hr.below h).mono h.size) hR ((hA.below h).mono h.size) hu hl hp h8 hcc hlr hcr)
        unfold GivesC at KC
        unfold GivesB at KB
        have HAX : Hid (∀ p, axs (opn R) (dimR R) R l p T = if (colD (opn R) (dimR R) l p T).2.2 = 0 then btw (colD (opn R) (dimR R) l p T).1 R l (colD (opn R) (dimR R) l p T).2.1 T else noD (colD (opn R) (dimR R) l p T).2.2) := fun p => rfl
        by_cases hk : k = 1
        · subst hk
          have HV : Hid (drw 1 R l a T = axs (opn R) (dimR R) R l a T) := by
            show _ = _
            unfold drw; rw [if_pos (show AskD _ _ _ from hask), if_pos hE, if_neg hop, if_neg (by decide)]
          generalize drw 1 R l a T = Z at *
          clear hr hA hR hu hop hE hO hD hC
          go_enter Try.func46, Try.ntmps46
          go_wp2_with fail
          refine (KM.out _).mono ?_
          rintro e1 w1 ⟨rfl, rfl⟩
          go_wp2_with fail
          refine (KO.out _ HX.out.2.1).mono ?_
          rintro e1 w1 ⟨A1, c1, rfl, q1, q2, q3, b1⟩
          have J1 := Lib.hid (HX.out.below b1)
          have H1 := Lib.hid q3
          clear q3 b1
          have KCC := Lib.hid (KC.out w1 A1 c1 a J1.out.2.1 H1.out hat)
          have HA0 := Lib.hid (HV.out.trans (HAX.out a))
          have HO0 := Lib.hid (HCO.out a)
          have HX0 := Lib.hid (HCX.out a)
          generalize colD (opn R) (dimR R) l a T = G at *
          obtain ⟨ds, dp, de⟩ := G
          simp only at HA0 HO0 HX0 KCC
          go_wp2_with fail
          refine KCC.out.mono ?_
          rintro e1 w2 ⟨A2, c2, rfl, s1, s2, s3, s4, b2⟩
          have J2 := Lib.hid (J1.out.below b2)
          have H2 := Lib.hid s3
          have hA2 : ∀ ad, A2 = some ad → w.heap.size < ad.block := fun ad e => Nat.lt_of_lt_of_le J1.out.head.lt (s4 ad e)
          have HNB2 := Lib.hid hA2
          obtain ⟨z0, z1, g0, g1⟩ := J2.out.head.two
          clear s3 s4 b2 hA2
          by_cases hde : de = 0
          · subst hde
            obtain ⟨j, t1, t2, t3, t4, t5, t6⟩ := HO0.out rfl
            have h8d : ds.length ≤ 1000 := by rw [t3, unitC_len]; omega
            have hpd : I64 dp := by have := hask.2.1; skip; unfold I64; omega
            have hpdc : c2 ≤ 9223372036854775807 := by unfold maxLen at s2; omega
            have HZ0 : Hid (Z = btw ds R l dp T) := HA0.out.trans (if_pos rfl)
            clear t3
            have KBB := Lib.hid (KB.out w2 A2 c2 ds dp J2.out.2.1 H2.out hpd h8d s1)
            have HZB := Lib.hid HZ0.out
            generalize btw ds R l dp T = Y at *
            obtain ⟨yc, yn, yp, yb, ye⟩ := Y
            simp only at KBB
            go_wp2_with fail
            refine KBB.out.mono ?_
            rintro e1 w3 ⟨b3, hh⟩
            have J3 := Lib.hid (J2.out.below b3)
            have HL3 := Lib.hid ((H2.out.below b3).mono b3.size)
            obtain ⟨x0, x1, f0, f1⟩ := J3.out.head.two
            clear b3
            rcases hh with ⟨hy, rfl⟩ | ⟨hy, hne, rfl⟩
            · have HY := Lib.hid hy
              clear hy
              go_wp2
              obtain ⟨⟨k0, k1⟩, bz⟩ := Kpc.set2 J3.out (Nat.le_refl _) (.slice A2 ds.length c2) (.int .i64 yn)
              refine bodyPost_ret (v := .tuple #[.agg #[.slice A2 ds.length c2, .int .i64 yn], .int .i64 yp, .bool true, .int .i64 0]) ?_ rfl ?_
              · simp [results, Try.results46, go_sem, k0, k1]
              · rw [HZB.out, HY.out]
                exact ⟨A2, c2, rfl, s1, hpdc, (box_off HL3.out HNB2.out).mono (by simp), fun ad e => Nat.le_of_lt (HNB2.out ad e), bz⟩
            · have HY := Lib.hid hy
              clear hy
              go_wp2
              obtain ⟨⟨k0, k1⟩, bz⟩ := Kpc.set2 J3.out (Nat.le_refl _) (.slice none 0 0) (.int .i64 0)
              refine bodyPost_ret (v := .tuple #[.agg #[.slice none 0 0, .int .i64 0], .int .i64 0, .bool false, .int .i64 ye]) ?_ rfl ?_
              · simp [results, Try.results46, go_sem, k0, k1]
              · rw [HZB.out, HY.out]
                exact givesD_no bz
          · have hne : (de != 0) = true := by simpa using hde
            have HZ0 : Hid (Z = noD de) := HA0.out.trans (if_neg hde)
            go_wp2
            obtain ⟨⟨k0, k1⟩, bz⟩ := Kpc.set2 J2.out (Nat.le_refl _) (.slice none 0 0) (.int .i64 0)
            refine bodyPost_ret (v := .tuple #[.agg #[.slice none 0 0, .int .i64 0], .int .i64 0, .bool false, .int .i64 de]) ?_ rfl ?_
            · simp [results, Try.results46, go_sem, k0, k1]
            · rw [HZ0.out]
              exact givesD_no (by first | exact bz | exact HX.out.2.1)
        · obtain rfl : k = 2 := by omega
          have KP := Lib.hid (fun W (h : Below w.heap.size w W) => pick_Coefs_go A l c (dimR R) T a W ((hA.below h).mono h.size) hu hl hd.1 hd.2.1 hask.2.1 (by unfold I64 at hat; omega) (by omega) (by omega))
          unfold GivesC at KP
          have hcy : cof l a (dimR R) T = trs l (dimR R) T T a := by rw [cof_yes (by omega)]; simp
          have HCP := Lib.hid (fun (h : (cof l a (dimR R) T).2.2 = 0) => cof_pos h)
          have HCA := Lib.hid (fun (h : (cof l a (dimR R) T).2.2 = 0) => cof_at hl hask.2.1 h)
          have HRE := Lib.hid (fun co (h : partsV co (dimR R) = true) => reach_of hE h)
          have HV : Hid (drw 2 R l a T = pln R l a T) := by
            show _ = _
            unfold drw; rw [if_pos (show AskD _ _ _ from hask), if_pos hE, if_neg hop, if_pos rfl]
          have HPL : Hid (pln R l a T = if (cof l a (dimR R) T).2.2 = 0 then (if reachLo (cof l a (dimR R) T).1 R < reachHi (cof l a (dimR R) T).1 R then btw (cof l a (dimR R) T).1 R l (cof l a (dimR R) T).2.1 T else axs (opn R) (dimR R) R l (cof l a (dimR R) T).2.1 T) else noD (cof l a (dimR R) T).2.2) := rfl
          rw [← hcy] at KP
          have KR := Lib.hid (fun W Ac cc co (h : Below w.heap.size w W) (hl1 : Lies W W.heap.size Ac co) (h8 : co.length ≤ 1000) (hcc : co.length ≤ cc) => vec_Reach Ac Ar co R cc cr W hl1 ((hr.below h).mono h.size) hR (by omega) hlr hcc hcr)
          generalize drw 2 R l a T = Z at *
          generalize pln R l a T = Z2 at *
          generalize cof l a (dimR R) T = F at *
          obtain ⟨cs, p, e⟩ := F
          simp only at HCP HCA HPL
          clear hr hA hR hu hop hE hO hD hC hcy
          go_enter Try.func46, Try.ntmps46
          go_wp2_with fail
          refine (KM.out _).mono ?_
          rintro e1 w1 ⟨rfl, rfl⟩
          go_wp2_with fail
          refine (KO.out _ HX.out.2.1).mono ?_
          rintro e1 w1 ⟨A1, c1, rfl, q1, q2, q3, b1⟩
          have J1 := Lib.hid (HX.out.below b1)
          have H1 := Lib.hid q3
          clear q3 b1
          go_wp2_with fail
          refine (KP.out _ J1.out.2.1).mono ?_
          rintro e1 w2 ⟨A2, c2, rfl, r1, r2, r3, r4, b2⟩
          have J2 := Lib.hid (J1.out.below b2)
          have H1b := Lib.hid ((H1.out.below b2).mono b2.size)
          try simp only at r1 r3
          have H2 := Lib.hid r3
          have HN2 := Lib.hid (r4.mono J1.out.2.2)
          have hA2 : ∀ ad, A2 = some ad → w.heap.size < ad.block := fun ad e => Nat.lt_of_lt_of_le J1.out.head.lt (r4 ad e)
          have HNB := Lib.hid hA2
          obtain ⟨z0, z1, g0, g1⟩ := J2.out.head.two
          clear r3 r4 b2 hA2
          by_cases he : e = 0
          · subst he
            obtain ⟨p1, p2, p3, p4⟩ := HCP.out rfl
            have p5 := HCA.out rfl
            obtain ⟨v1, v2, v3, _⟩ := partsV_iff.1 p4
            have hRE := HRE.out cs p4
            have hR0 := reachC_0 hRE
            have h8 : cs.length ≤ 1000 := by omega
            have hbd := reach_bd hRE
            have KRR := Lib.hid (KR.out w2 A2 c2 cs J2.out.2.1 H2.out h8 r1)
            rw [hR0] at KRR
            have HZ2 : Hid (Z2 = if reachLo cs R < reachHi cs R then btw cs R l p T else axs (opn R) (dimR R) R l p T) := HPL.out.trans (if_pos rfl)
            generalize reachLo cs R = lo at *
            generalize reachHi cs R = hi at *
            clear hRE hR0
            go_wp2_with fail
            refine KRR.out.mono ?_
            rintro e1 w3 ⟨rfl, b3⟩
            have J3 := Lib.hid (J2.out.below b3)
            have H1c := Lib.hid ((H1b.out.below b3).mono b3.size)
            have H2c := Lib.hid ((H2.out.below b3).mono b3.size)
            obtain ⟨y0, y1, _, _⟩ := J3.out.head.two
            clear b3
            by_cases hlt : lo < hi
            · have HZ3 : Hid (Z = btw cs R l p T) := HV.out.trans (HZ2.out.trans (if_pos hlt))
              have hp3 : I64 p := by unfold I64; omega
              have hp3c : c2 ≤ 9223372036854775807 := by unfold maxLen at r2; omega
              have KBB := Lib.hid (KB.out w3 A2 c2 cs p J3.out.2.1 H2c.out hp3 h8 r1)
              have HZB := Lib.hid HZ3.out
              generalize btw cs R l p T = Y at *
              obtain ⟨yc, yn, yp, yb, ye⟩ := Y
              simp only at KBB
              go_wp2_with fail
              refine KBB.out.mono ?_
              rintro e1 w4 ⟨b4, hh⟩
              have J4 := Lib.hid (J3.out.below b4)
              have HL4 := Lib.hid ((H2c.out.below b4).mono b4.size)
              obtain ⟨x0, x1, f0, f1⟩ := J4.out.head.two
              clear b4
              rcases hh with ⟨hy, rfl⟩ | ⟨hy, hne, rfl⟩
              · have HY := Lib.hid hy
                clear hy
                go_wp2
                obtain ⟨⟨k0, k1⟩, bz⟩ := Kpc.set2 J4.out (Nat.le_refl _) (.slice A2 cs.length c2) (.int .i64 yn)
                refine bodyPost_ret (v := .tuple #[.agg #[.slice A2 cs.length c2, .int .i64 yn], .int .i64 yp, .bool true, .int .i64 0]) ?_ rfl ?_
                · simp [results, Try.results46, go_sem, k0, k1]
                · rw [HZB.out, HY.out]
                  exact ⟨A2, c2, rfl, r1, hp3c, (box_off HL4.out HNB.out).mono (by simp), fun ad e => Nat.le_of_lt (HNB.out ad e), bz⟩
              · have HY := Lib.hid hy
                clear hy
                go_wp2
                obtain ⟨⟨k0, k1⟩, bz⟩ := Kpc.set2 J4.out (Nat.le_refl _) (.slice none 0 0) (.int .i64 0)
                refine bodyPost_ret (v := .tuple #[.agg #[.slice none 0 0, .int .i64 0], .int .i64 0, .bool false, .int .i64 ye]) ?_ rfl ?_
                · simp [results, Try.results46, go_sem, k0, k1]
                · rw [HZB.out, HY.out]
                  exact givesD_no bz
            · have HV2 : Hid (Z = axs (opn R) (dimR R) R l p T) := HV.out.trans (HZ2.out.trans (if_neg hlt))
              have hp3 : I64 p := by unfold I64; omega
              have KCC := Lib.hid (KC.out w3 A1 c1 p J3.out.2.1 H1c.out hp3)
              have HA0 := Lib.hid (HV2.out.trans (HAX.out p))
              have HO0 := Lib.hid (HCO.out p)
              have HX0 := Lib.hid (HCX.out p)
              generalize colD (opn R) (dimR R) l p T = G at *
              obtain ⟨ds, dp, de⟩ := G
              simp only at HA0 HO0 HX0 KCC
              go_wp2_with fail
              refine KCC.out.mono ?_
              rintro e1 w4 ⟨A4, c4, rfl, s1, s2, s3, s4, b4⟩
              have J4 := Lib.hid (J3.out.below b4)
              have H4 := Lib.hid s3
              have hA4 : ∀ ad, A4 = some ad → w.heap.size < ad.block := fun ad e => Nat.lt_of_lt_of_le J3.out.head.lt (s4 ad e)
              have HNB4 := Lib.hid hA4
              obtain ⟨z0, z1, g0, g1⟩ := J4.out.head.two
              clear s3 s4 b4 hA4
              by_cases hde : de = 0
              · subst hde
                obtain ⟨j, t1, t2, t3, t4, t5, t6⟩ := HO0.out rfl
                have h8d : ds.length ≤ 1000 := by rw [t3, unitC_len]; omega
                have hpd : I64 dp := by have := hask.2.1; have := p5.1; unfold I64; omega
                have hpdc : c4 ≤ 9223372036854775807 := by unfold maxLen at s2; omega
                have HZ0 : Hid (Z = btw ds R l dp T) := HA0.out.trans (if_pos rfl)
                clear t3
                have KBB := Lib.hid (KB.out w4 A4 c4 ds dp J4.out.2.1 H4.out hpd h8d s1)
                have HZB := Lib.hid HZ0.out
                generalize btw ds R l dp T = Y at *
                obtain ⟨yc, yn, yp, yb, ye⟩ := Y
                simp only at KBB
                go_wp2_with fail
                refine KBB.out.mono ?_
                rintro e1 w5 ⟨b5, hh⟩
                have J5 := Lib.hid (J4.out.below b5)
                have HL5 := Lib.hid ((H4.out.below b5).mono b5.size)
                obtain ⟨x0, x1, f0, f1⟩ := J5.out.head.two
                clear b5
                rcases hh with ⟨hy, rfl⟩ | ⟨hy, hne, rfl⟩
                · have HY := Lib.hid hy
                  clear hy
                  go_wp2
                  obtain ⟨⟨k0, k1⟩, bz⟩ := Kpc.set2 J5.out (Nat.le_refl _) (.slice A4 ds.length c4) (.int .i64 yn)
                  refine bodyPost_ret (v := .tuple #[.agg #[.slice A4 ds.length c4, .int .i64 yn], .int .i64 yp, .bool true, .int .i64 0]) ?_ rfl ?_
                  · simp [results, Try.results46, go_sem, k0, k1]
                  · rw [HZB.out, HY.out]
                    exact ⟨A4, c4, rfl, s1, hpdc, (box_off HL5.out HNB4.out).mono (by simp), fun ad e => Nat.le_of_lt (HNB4.out ad e), bz⟩
                · have HY := Lib.hid hy
                  clear hy
                  go_wp2
                  obtain ⟨⟨k0, k1⟩, bz⟩ := Kpc.set2 J5.out (Nat.le_refl _) (.slice none 0 0) (.int .i64 0)
                  refine bodyPost_ret (v := .tuple #[.agg #[.slice none 0 0, .int .i64 0], .int .i64 0, .bool false, .int .i64 ye]) ?_ rfl ?_
                  · simp [results, Try.results46, go_sem, k0, k1]
                  · rw [HZB.out, HY.out]
                    exact givesD_no bz
              · have hne : (de != 0) = true := by simpa using hde
                have HZ0 : Hid (Z = noD de) := HA0.out.trans (if_neg hde)
                go_wp2
                obtain ⟨⟨k0, k1⟩, bz⟩ := Kpc.set2 J4.out (Nat.le_refl _) (.slice none 0 0) (.int .i64 0)
                refine bodyPost_ret (v := .tuple #[.agg #[.slice none 0 0, .int .i64 0], .int .i64 0, .bool false, .int .i64 de]) ?_ rfl ?_
                · simp [results, Try.results46, go_sem, k0, k1]
                · rw [HZ0.out]
                  exact givesD_no (by first | exact bz | exact HX.out.2.1)
          · have hne : (e != 0) = true := by simpa using he
            have HZ2 : Hid (Z = noD e) := HV.out.trans (HPL.out.trans (if_neg he))
            go_wp2
            obtain ⟨⟨k0, k1⟩, bz⟩ := Kpc.set2 J2.out (Nat.le_refl _) (.slice none 0 0) (.int .i64 0)
            refine bodyPost_ret (v := .tuple #[.agg #[.slice none 0 0, .int .i64 0], .int .i64 0, .bool false, .int .i64 e]) ?_ rfl ?_
            · simp [results, Try.results46, go_sem, k0, k1]
            · rw [HZ2.out]
              exact givesD_no (by first | exact bz | exact HX.out.2.1)
    · have hO : opnD R = [] := by unfold opnD; rw [if_neg hE]
      have hD : dimD R = 0 := by unfold dimD; rw [if_neg hE]
      have hC : boxC R (dimR R) = 80 := by unfold boxC; rw [if_neg hE]
      rw [hO, hD, hC] at KO
      have HV : Hid (drw k R l a t = noD 80) := by
        show _ = _
        unfold drw; rw [if_pos (show AskD _ _ _ from hask), if_neg hE]
      generalize drw k R l a t = Z at *
      clear hr hA hR hu hE hO hD hC
      go_enter Try.func46, Try.ntmps46
      go_wp2_with fail
      refine (KM.out _).mono ?_
      rintro e1 w1 ⟨rfl, rfl⟩
      go_wp2_with fail
      refine (KO.out _ HX.out.2.1).mono ?_
      rintro e1 w1 ⟨A1, c1, rfl, q1, q2, q3, b1⟩
      have J1 := Lib.hid (HX.out.below b1)
      obtain ⟨z0, z1, g0, g1⟩ := J1.out.head.two
      clear q3 b1
      go_wp2
      obtain ⟨⟨k0, k1⟩, bz⟩ := Kpc.set2 J1.out (Nat.le_refl _) (.slice none 0 0) (.int .i64 0)
      refine bodyPost_ret (v := .tuple #[.agg #[.slice none 0 0, .int .i64 0], .int .i64 0, .bool false, .int .i64 80]) ?_ rfl ?_
      · simp [results, Try.results46, go_sem, k0, k1]
      · rw [HV.out]
        exact givesD_no (by first | exact bz | exact HX.out.2.1)
  · rw [decide_eq_false hask] at KM
    have HV : Hid (drw k R l a t = noD 1) := by
      show _ = _
      unfold drw; rw [if_neg (show ¬ AskD _ _ _ from hask)]
    generalize drw k R l a t = Z at *
    clear hr hA hR hu
    obtain ⟨z0, z1, g0, g1⟩ := HX.out.head.two
    go_enter Try.func46, Try.ntmps46
    go_wp2_with fail
    refine (KM.out _).mono ?_
    rintro e1 w1 ⟨rfl, rfl⟩
    go_wp2
    obtain ⟨⟨k0, k1⟩, bz⟩ := Kpc.set2 HX.out (Nat.le_refl _) (.slice none 0 0) (.int .i64 0)
    refine bodyPost_ret (v := .tuple #[.agg #[.slice none 0 0, .int .i64 0], .int .i64 0, .bool false, .int .i64 1]) ?_ rfl ?_
    · simp [results, Try.results46, go_sem, k0, k1]
    · rw [HV.out]
      exact givesD_no (by first | exact bz | exact HX.out.2.1)
end Go.Proofs.Ytkkeejbgaaodeaa
/-! The reference of layer 9: level, Draw. -/
namespace Go.Proofs.Ytkkeejbgaaodeaa
open Go.RowKit
set_option linter.unusedVariables false
set_option linter.unusedSimpArgs false

set_option maxHeartbeats 1000000 in
theorem ref_level (Ac Ar A : Option Addr) (co : List Int) (R : List Row) (l : List Int) (cc cr c : Nat) (a t : Int) (w : World) (hc : Lies w w.heap.size Ac co) (hr : LiesR w w.heap.size Ar R) (hA : LiesU w w.heap.size A l) (hu : ∀ x ∈ l, U64 x) (hl : (l.length : Int) ≤ 9223372036854775807)
    (hat : I64 a) (hlr : (R.length : Int) ≤ 9223372036854775807) (hE : reachE co R = true) (hne : ¬ reachLo co R = reachHi co R) :
    Calls Try.prog 107 #[.slice Ac co.length cc, .slice Ar R.length cr, .slice A l.length c, .int .i64 a, .int .i64 t] w (GivesB co Ac cc (btw co R l a t) w) := by
  have K1 := Lib.hid (fun W (h : Below w.heap.size w W) => ref_Reach Ac Ar co R cc cr w.heap.size W (hc.below h) (hr.below h) hlr)
  have HX := Lib.hid ((Kpc.start w).alloc #[.slice none 0 0, .int .i64 0] 37)
  have hb := reach_bd hE
  have hC := reachC_0 hE
  have KR := Lib.hid (fun W (h : Below w.heap.size w W) => ref_range6 A l c a (reachLo co R + 1) (reachHi co R) t W ((hA.below h).mono h.size) hu hl (by unfold I64; omega) (by unfold I64; omega) hat)
  have HV : Hid (btw co R l a t = if (rng l a (reachLo co R + 1) (reachHi co R) t).2.2 = 0 then (co, (rng l a (reachLo co R + 1) (reachHi co R) t).1, (rng l a (reachLo co R + 1) (reachHi co R) t).2.1, true, 0) else noD (rng l a (reachLo co R + 1) (reachHi co R) t).2.2) := by
    show _ = _
    unfold btw; rw [if_pos hC]
  rw [hC] at K1
  generalize btw co R l a t = Z at *
  generalize rng l a (reachLo co R + 1) (reachHi co R) t = G at *
  generalize reachLo co R = lo at *
  generalize reachHi co R = hi at *
  obtain ⟨n, p, e⟩ := G
  simp only at HV
  clear hc hr hA hE hu
  have hwr : wrap64 (lo + 1) = lo + 1 := by unfold wrap64; omega
  have hlh : (lo == hi) = false := by simpa using hne
  obtain ⟨y0, y1, f0, f1⟩ := HX.out.head.two
  go_enter Try.func107, Try.ntmps107
  go_wp2_with fail
  refine (K1.out _ HX.out.2.1).mono ?_
  rintro e1 w1 ⟨rfl, hw⟩
  have J1 := Lib.hid (HX.out.below (qdb hw))
  clear hw
  go_wp2_with fail
  refine (KR.out _ J1.out.2.1).mono ?_
  rintro e1 w2 ⟨rfl, b2⟩
  have J2 := Lib.hid (J1.out.below b2)
  obtain ⟨z0, z1, g0, g1⟩ := J2.out.head.two
  clear b2
  by_cases he : e = 0
  · subst he
    go_wp2
    obtain ⟨⟨k0, k1⟩, bz⟩ := Kpc.set2 J2.out (Nat.le_refl _) (.slice Ac co.length cc) (.int .i64 n)
    refine bodyPost_ret (v := .tuple #[.agg #[.slice Ac co.length cc, .int .i64 n], .int .i64 p, .bool true, .int .i64 0]) ?_ rfl ?_
    · simp [results, Try.results107, go_sem, k0, k1]
    · rw [show Z = (co, n, p, true, 0) from HV.out.trans (if_pos trivial)]
      exact ⟨bz, .inl ⟨rfl, rfl⟩⟩
  · have hne : (e != 0) = true := by simpa using he
    go_wp2
    obtain ⟨⟨k0, k1⟩, bz⟩ := Kpc.set2 J2.out (Nat.le_refl _) (.slice none 0 0) (.int .i64 0)
    refine bodyPost_ret (v := .tuple #[.agg #[.slice none 0 0, .int .i64 0], .int .i64 0, .bool false, .int .i64 e]) ?_ rfl ?_
    · simp [results, Try.results107, go_sem, k0, k1]
    · rw [show Z = noD e from HV.out.trans (if_neg he)]
      exact ⟨bz, .inr ⟨rfl, he, rfl⟩⟩
set_option maxHeartbeats 1000000 in
theorem ref_level_no (Ac Ar A : Option Addr) (co : List Int) (R : List Row) (l : List Int) (cc cr c : Nat) (a t : Int) (w : World) (hc : Lies w w.heap.size Ac co) (hr : LiesR w w.heap.size Ar R)
    (hlr : (R.length : Int) ≤ 9223372036854775807) (hE : reachE co R = true) (heq : reachLo co R = reachHi co R) :
    Calls Try.prog 107 #[.slice Ac co.length cc, .slice Ar R.length cr, .slice A l.length c, .int .i64 a, .int .i64 t] w fun e w' => e = .returned (.tuple #[.agg #[.slice none 0 0, .int .i64 0], .int .i64 a, .bool false, .int .i64 0]) ∧ Below w.heap.size w w' := by
  have K1 := Lib.hid (fun W (h : Below w.heap.size w W) => ref_Reach Ac Ar co R cc cr w.heap.size W (hc.below h) (hr.below h) hlr)
  have HX := Lib.hid ((Kpc.start w).alloc #[.slice none 0 0, .int .i64 0] 37)
  rw [reachC_0 hE, heq] at K1
  generalize reachHi co R = hi at *
  clear hc hr hE heq
  have hlh : (hi == hi) = true := by simp
  obtain ⟨y0, y1, f0, f1⟩ := HX.out.head.two
  go_enter Try.func107, Try.ntmps107
  go_wp2_with fail
  refine (K1.out _ HX.out.2.1).mono ?_
  rintro e1 w1 ⟨rfl, hw⟩
  have J1 := Lib.hid (HX.out.below (qdb hw))
  obtain ⟨z0, z1, g0, g1⟩ := J1.out.head.two
  clear hw
  go_wp2
  obtain ⟨⟨k0, k1⟩, bz⟩ := Kpc.set2 J1.out (Nat.le_refl _) (.slice none 0 0) (.int .i64 0)
  refine bodyPost_ret (v := .tuple #[.agg #[.slice none 0 0, .int .i64 0], .int .i64 a, .bool false, .int .i64 0]) ?_ rfl ⟨rfl, bz⟩
  simp [results, Try.results107, go_sem, k0, k1]
set_option maxRecDepth 100000 in
set_option maxHeartbeats 8000000 in
theorem ref_Draw (Ar A : Option Addr) (R : List Row) (l : List Int) (cr c : Nat) (k a t : Int) (w : World) (hr : LiesR w w.heap.size Ar R) (hA : LiesU w w.heap.size A l) (hu : ∀ x ∈ l, U64 x) (hl : (l.length : Int) ≤ 9223372036854775807)
    (hat : I64 a) (hlr : (R.length : Int) ≤ 9223372036854775807) :
    Calls Try.prog 79 #[.int .i64 k, .slice Ar R.length cr, .slice A l.length c, .int .i64 a, .int .i64 t] w (GivesD (drw k R l a t) w) := by
  have KM := Lib.hid (ref_asked a t)
  have HX := Lib.hid ((Kpc.start w).alloc #[.slice none 0 0, .int .i64 0] 37)
  by_cases hk : k = 1 ∨ k = 2
  · by_cases hask' : 0 ≤ a ∧ 1 ≤ t ∧ t ≤ 64
    · have hask : (k = 1 ∨ k = 2) ∧ 0 ≤ a ∧ 1 ≤ t ∧ t ≤ 64 := ⟨hk, hask'⟩
      rw [decide_eq_true hask'] at KM
      have hk1 : ¬ k < 1 := by omega
      have hk2 : ¬ 2 < k := by omega
      have KA := Lib.hid (fun W (h : Below w.heap.size w W) => ref_All Ar R cr w.heap.size (dimR R) W (hr.below h) hlr)
      have hbE : (allV R (dimR R) && decide (0 < R.length)) = boxE R (dimR R) := rfl
      rw [hbE] at KA
      rcases Nat.eq_zero_or_pos R.length with h0 | h0
      · have hE : ¬ boxE R (dimR R) = true := by rw [boxE_iff]; omega
        have HV : Hid (drw k R l a t = noD 80) := by
          show _ = _
          unfold drw; rw [if_pos (show AskD _ _ _ from hask), if_neg hE]
        generalize drw k R l a t = Z at *
        clear hr hA hu hE hbE KA
        rw [h0]
        obtain ⟨z0, z1, g0, g1⟩ := HX.out.head.two
        go_enter Try.func79, Try.ntmps79
        go_wp2_with fail
        refine (KM.out _).mono ?_
        rintro e1 w1 ⟨rfl, rfl⟩
        go_wp2
        obtain ⟨⟨k0, k1⟩, bz⟩ := Kpc.set2 HX.out (Nat.le_refl _) (.slice none 0 0) (.int .i64 0)
        refine bodyPost_ret (v := .tuple #[.agg #[.slice none 0 0, .int .i64 0], .int .i64 0, .bool false, .int .i64 80]) ?_ rfl ?_
        · simp [results, Try.results79, go_sem, k0, k1]
        · rw [HV.out]
          exact givesD_no (by first | exact bz | exact HX.out.2.1)
      · obtain ⟨ad, rfl, hadb, hcell, hlies⟩ := hr.at (k := 0) h0
        have hcell' : w.cell? ad = some (.slice (R.getD 0 row0).a (dimR R) (R.getD 0 row0).c) := by rw [add_zero'] at hcell; exact hcell
        have hcellx : (w.alloc (.cells #[.slice none 0 0, .int .i64 0] 37)).cell? ad = some (.slice (R.getD 0 row0).a (dimR R) (R.getD 0 row0).c) := (HX.out.2.1.cell hadb).trans hcell'
        have hg1 : (0 : Int) < (R.length : Int) := by omega
        have hz : ((R.length : Int) == 0) = false := by rw [beq_eq_false_iff_ne]; omega
        by_cases hE : boxE R (dimR R) = true
        · rw [hE] at KA
          have hd := box_dim hE
          have hll := box_lens hE
          have hC : boxC R (dimR R) = 0 := by unfold boxC; rw [if_pos hE]
          have KX := Lib.hid (fun W (h : Below w.heap.size w W) => ref_Box (some ad) R cr (dimR R) W ((hr.below h).mono h.size) hlr)
          unfold GivesBox at KX
          rw [hC] at KX
          have KO := Lib.hid (fun W A1 A2 c1 c2 (h1 : Lies W W.heap.size A1 (boxLo R (dimR R))) (h2 : Lies W W.heap.size A2 (boxHi R (dimR R))) => ref_Open A1 A2 (boxLo R (dimR R)) (boxHi R (dimR R)) c1 c2 W h1 h2 (by omega) (by omega))
          unfold GivesI at KO
          rw [show openL (boxLo R (dimR R)) (boxHi R (dimR R)) = opn R from rfl] at KO
          rw [hll.1, hll.2] at KX KO
          have HOM := Lib.hid (fun k (hk : k < (opn R).length) => opn_mem hE (mem_getD hk))
          have HUO := Lib.hid (fun j (h1 : j < dimR R) h2 => unit_open hE h1 h2)
          have hdr : boxLo R (dimR R) = boxLo R (dimR R) := rfl
          by_cases hop : opn R = []
          · have HV : Hid (drw k R l a t = ([], 0, a, false, 0)) := by
              show _ = _
              unfold drw; rw [if_pos (show AskD _ _ _ from hask), if_pos hE, if_pos hop]
            rw [hop] at KO
            generalize drw k R l a t = Z at *
            clear hr hA hu hop hE hlies hbE HOM HUO
            generalize dimR R = D at *
            generalize boxLo R D = LO at *
            generalize boxHi R D = HI at *
            go_enter Try.func79, Try.ntmps79
            go_wp2_with fail
            refine (KM.out _).mono ?_
            rintro e1 w1 ⟨rfl, rfl⟩
            go_wp2_with fail
            refine (KA.out _ HX.out.2.1).mono ?_
            rintro e1 w1 ⟨rfl, rfl⟩
            go_wp2_with fail
            refine (KX.out _ HX.out.2.1).mono ?_
            rintro e1 w1 ⟨A1, c1, A2, c2, rfl, q1, q2, q3, q4, b1⟩
            have J1 := Lib.hid (HX.out.below b1)
            have HLO := Lib.hid q3
            have HHI := Lib.hid q4
            clear q3 q4 b1
            go_wp2_with fail
            refine (KO.out _ _ _ _ _ HLO.out HHI.out).mono ?_
            rintro e1 w2 ⟨A3, c3, rfl, r1, r2, r3, b2⟩
            have J2 := Lib.hid (J1.out.below b2)
            have HOP := Lib.hid r3
            clear r3 b2 HLO HHI
            obtain ⟨z0, z1, g0, g1⟩ := J2.out.head.two
            go_wp2
            obtain ⟨⟨k0, k1⟩, bz⟩ := Kpc.set2 J2.out (Nat.le_refl _) (.slice none 0 0) (.int .i64 0)
            refine bodyPost_ret (v := .tuple #[.agg #[.slice none 0 0, .int .i64 0], .int .i64 a, .bool false, .int .i64 0]) ?_ rfl ?_
            · simp [results, Try.results79, go_sem, k0, k1]
            · rw [HV.out]
              exact givesD_no (by first | exact bz | exact HX.out.2.1)
          · have hol : 0 < (opn R).length := List.length_pos_iff.2 hop
            have hol8 := opn_len hE
            have hne0 : (((opn R).length : Int) == 0) = false := by rw [beq_eq_false_iff_ne]; omega
            have hwo : IntKind.u64.wrap ((opn R).length : Int) = ((opn R).length : Int) := by simp only [u64w]; omega
            obtain ⟨T, rfl⟩ : ∃ T : Nat, t = T := ⟨t.toNat, by omega⟩
            have HCO := Lib.hid (fun p (h : (colD (opn R) (dimR R) l p T).2.2 = 0) => col_of hE hop h)
            have HBL0 := Lib.hid (fun p => bnd_lt (l := l) (a := p) (n := (opn R).length) (t := T) (by omega))
            have KB := Lib.hid (fun W p (h : Below w.heap.size w W) (hp : I64 p) => ref_bound6 A l c p (opn R).length T W ((hA.below h).mono h.size) hu hl (by unfold U64; omega) hp)
            have KL := Lib.hid (fun W Ac cc co p (h : Below w.heap.size w W) (hl1 : Lies W W.heap.size Ac co) (hp : I64 p) (h8 : reachE co R = true) (hn : ¬ reachLo co R = reachHi co R) => ref_level Ac (some ad) A co R l cc cr c p T W hl1 ((hr.below h).mono h.size) ((hA.below h).mono h.size) hu hl hp hlr h8 hn)
            have KN := Lib.hid (fun W Ac cc co p (h : Below w.heap.size w W) (hl1 : Lies W W.heap.size Ac co) (h8 : reachE co R = true) (hn : reachLo co R = reachHi co R) => ref_level_no Ac (some ad) A co R l cc cr c p T W hl1 ((hr.below h).mono h.size) hlr h8 hn)
            unfold GivesB at KL
            have HAX : Hid (∀ p, axs (opn R) (dimR R) R l p T = if (colD (opn R) (dimR R) l p T).2.2 = 0 then btw (colD (opn R) (dimR R) l p T).1 R l (colD (opn R) (dimR R) l p T).2.1 T else noD (colD (opn R) (dimR R) l p T).2.2) := fun p => rfl
            by_cases hk3 : k = 1
            · subst hk3
              have HV : Hid (drw 1 R l a T = axs (opn R) (dimR R) R l a T) := by
                show _ = _
                unfold drw; rw [if_pos (show AskD _ _ _ from hask), if_pos hE, if_neg hop, if_neg (by decide)]
              generalize drw 1 R l a T = Z at *
              clear hr hA hu hop hE hlies hbE
              go_enter Try.func79, Try.ntmps79
              go_wp2_with fail
              refine (KM.out _).mono ?_
              rintro e1 w1 ⟨rfl, rfl⟩
              go_wp2_with fail
              refine (KA.out _ HX.out.2.1).mono ?_
              rintro e1 w1 ⟨rfl, rfl⟩
              go_wp2_with fail
              refine (KX.out _ HX.out.2.1).mono ?_
              rintro e1 w1 ⟨A1, c1, A2, c2, rfl, q1, q2, q3, q4, b1⟩
              have J1 := Lib.hid (HX.out.below b1)
              have HLO := Lib.hid q3
              have HHI := Lib.hid q4
              clear q3 q4 b1
              go_wp2_with fail
              refine (KO.out _ _ _ _ _ HLO.out HHI.out).mono ?_
              rintro e1 w2 ⟨A3, c3, rfl, r1, r2, r3, b2⟩
              have J2 := Lib.hid (J1.out.below b2)
              have HOP := Lib.hid r3
              clear r3 b2 HLO HHI
              have KCC := Lib.hid (KB.out w2 a J2.out.2.1 hat)
              have HA0 := Lib.hid (HV.out.trans (HAX.out a))
              have HO0 := Lib.hid (HCO.out a)
              have HBL := Lib.hid (HBL0.out a)
              have HCD : Hid (colD (opn R) (dimR R) l a T = if (bnd l a (opn R).length T).2.2 = 0 then (unitC (dimR R) ((opn R).getD (bnd l a (opn R).length T).1.toNat 0).toNat, (bnd l a (opn R).length T).2.1, 0) else ([], 0, (bnd l a (opn R).length T).2.2)) := rfl
              generalize colD (opn R) (dimR R) l a T = G at *
              generalize bnd l a (opn R).length T = G2 at *
              obtain ⟨bx, bp, be⟩ := G2
              simp only at HCD HBL
              go_wp2_with fail
              refine KCC.out.mono ?_
              rintro e1 wn ⟨rfl, hbn⟩
              have bn := qdb hbn
              have Jn := Lib.hid (J2.out.below bn)
              have HOPn := Lib.hid ((HOP.out.below bn).mono bn.size)
              clear bn hbn
              by_cases hbe : be = 0
              · subst hbe
                have hG : G = (unitC (dimR R) ((opn R).getD bx.toNat 0).toNat, bp, 0) := HCD.out.trans (if_pos (by first | trivial | rfl))
                obtain ⟨j, t1, t2, t3, t4, t5, t6⟩ := HO0.out (by rw [hG])
                have hbl := HBL.out
                obtain ⟨k, rfl⟩ : ∃ k : Nat, bx = k := ⟨bx.toNat, by omega⟩
                have hk : k < (opn R).length := by omega
                obtain ⟨ad, rfl, hb0, hc0⟩ := HOPn.out.at (k := k) hk
                obtain ⟨j2, hj2, hj3, hj4⟩ := HOM.out k hk
                rw [hj3] at hc0
                rw [show ((k : Int)).toNat = k from by omega, hj3, show ((j2 : Int)).toNat = j2 from by omega] at hG
                have hU := HUO.out j2 hj2 hj4
                have hHA := HA0.out
                rw [hG] at hHA t4 t5
                simp only at hHA t4 t5
                have HZ0 : Hid (Z = btw (unitC (dimR R) j2) R l bp T) := hHA.trans (if_pos (by first | trivial | rfl))
                have hul := unitC_len (dimR R) j2
                have hug : unitC (dimR R) j2 = (List.replicate (dimR R) 0).set j2 1 := rfl
                clear HA0 hHA hG t3 HO0 HCD t1 t2
                generalize unitC (dimR R) j2 = us at *
                have hkl : (k : Int) < ((opn R).length : Int) := by omega
                have hjd : (j2 : Int) < (dimR R : Int) := by omega
                have hpd : I64 bp := by have := hask.2.1; skip; unfold I64; omega
                have HKL := Lib.hid (fun W A1 (h : Below w.heap.size w W) (hl1 : Lies W W.heap.size A1 us) => KL.out W A1 (dimR R) us bp h hl1 hpd hU.1 (by have := hU.2; omega))
                rw [hul] at HKL
                go_wp2_with (at_make; refine make_ints rfl (.tmp 126) (.tmp 126) rfl (dimR R) rfl rfl (by omega) ?_; intro wm ho2 hb2; have hc2 := (hb2.cell (by rw [add_block]; exact hb0)).trans hc0; have hfr := ho2.free j2; have hcl := ho2.cell (k := j2) (by simp; omega); have HO2 := Lib.hid ho2; have HB2 := Lib.hid hb2; clear ho2 hb2)
                have ho3 := HO2.out.set (k := j2) (by simp; omega) 1
                rw [← hug] at ho3
                have hbs := HB2.out.setCell (p := ⟨wn.heap.size, j2, none⟩) (Nat.le_refl _) (.int .i64 1)
                have JM := Lib.hid (Jn.out.below hbs)
                have HLM := Lib.hid ho3.lies
                have hNB : ∀ ad, some (⟨wn.heap.size, 0, none⟩ : Addr) = some ad → w.heap.size < ad.block := fun ad e => by cases e; exact Jn.out.head.lt
                have HNB := Lib.hid hNB
                clear ho3 hbs hNB
                refine (HKL.out _ _ JM.out.2.1 HLM.out).mono ?_
                rintro e1 wz ⟨bz, hh⟩
                have JZ := Lib.hid (JM.out.below bz)
                have HLZ := Lib.hid ((HLM.out.below bz).mono bz.size)
                obtain ⟨x0, x1, f0, f1⟩ := JZ.out.head.two
                clear bz
                generalize btw us R l bp T = Y at *
                obtain ⟨yc, yn, yp, yb, ye⟩ := Y
                simp only at hh
                rcases hh with ⟨hy, rfl⟩ | ⟨hy, hne, rfl⟩
                · have HY := Lib.hid hy
                  clear hy
                  go_wp2
                  obtain ⟨⟨k0, k1⟩, bz⟩ := Kpc.set2 JZ.out (Nat.le_refl _) (.slice (some ⟨wn.heap.size, 0, none⟩) (dimR R) (dimR R)) (.int .i64 yn)
                  refine bodyPost_ret (v := .tuple #[.agg #[.slice (some ⟨wn.heap.size, 0, none⟩) (dimR R) (dimR R), .int .i64 yn], .int .i64 yp, .bool true, .int .i64 0]) ?_ rfl ?_
                  · simp [results, Try.results79, go_sem, k0, k1]
                  · rw [HZ0.out, HY.out]
                    exact ⟨_, dimR R, by first | (rw [show (us, yn, yp, true, (0 : Int)).1.length = dimR R from hul]; done) | (rw [show (us, yn, yp, true, (0 : Int)).1.length = dimR R from hul]; rfl), by first | omega | (simp only; omega), by omega, (box_off HLZ.out HNB.out).mono (by simp), fun ad e => Nat.le_of_lt (HNB.out ad e), bz⟩
                · have HY := Lib.hid hy
                  clear hy
                  go_wp2
                  obtain ⟨⟨k0, k1⟩, bz⟩ := Kpc.set2 JZ.out (Nat.le_refl _) (.slice none 0 0) (.int .i64 0)
                  refine bodyPost_ret (v := .tuple #[.agg #[.slice none 0 0, .int .i64 0], .int .i64 0, .bool false, .int .i64 ye]) ?_ rfl ?_
                  · simp [results, Try.results79, go_sem, k0, k1]
                  · rw [HZ0.out, HY.out]
                    exact givesD_no bz
              · have hG : G = ([], 0, be) := HCD.out.trans (if_neg hbe)
                have hne : (be != 0) = true := by simpa using hbe
                obtain ⟨z0, z1, g0, g1⟩ := Jn.out.head.two
                have hHA := HA0.out
                rw [hG] at hHA
                have HZ0 : Hid (Z = noD be) := hHA.trans (if_neg hbe)
                clear HA0 hHA hG HO0 HCD
                go_wp2
                obtain ⟨⟨k0, k1⟩, bz⟩ := Kpc.set2 Jn.out (Nat.le_refl _) (.slice none 0 0) (.int .i64 0)
                refine bodyPost_ret (v := .tuple #[.agg #[.slice none 0 0, .int .i64 0], .int .i64 0, .bool false, .int .i64 be]) ?_ rfl ?_
                · simp [results, Try.results79, go_sem, k0, k1]
                · rw [HZ0.out]
                  exact givesD_no bz
            · obtain rfl : k = 2 := by omega
              have KP := Lib.hid (fun W (h : Below w.heap.size w W) => ref_Coefs_go A l c (dimR R) T a W ((hA.below h).mono h.size) hu hl hd.1 hd.2.1 hask.2.1 (by unfold I64 at hat; omega) (by omega) (by omega))
              unfold GivesC at KP
              have hcy : cof l a (dimR R) T = trs l (dimR R) T T a := by rw [cof_yes (by omega)]; simp
              have HCP := Lib.hid (fun (h : (cof l a (dimR R) T).2.2 = 0) => cof_pos h)
              have HCA := Lib.hid (fun (h : (cof l a (dimR R) T).2.2 = 0) => cof_at hl hask.2.1 h)
              have HRE := Lib.hid (fun co (h : partsV co (dimR R) = true) => reach_of hE h)
              have HV : Hid (drw 2 R l a T = pln R l a T) := by
                show _ = _
                unfold drw; rw [if_pos (show AskD _ _ _ from hask), if_pos hE, if_neg hop, if_pos rfl]
              have HPL : Hid (pln R l a T = if (cof l a (dimR R) T).2.2 = 0 then (if reachLo (cof l a (dimR R) T).1 R < reachHi (cof l a (dimR R) T).1 R then btw (cof l a (dimR R) T).1 R l (cof l a (dimR R) T).2.1 T else axs (opn R) (dimR R) R l (cof l a (dimR R) T).2.1 T) else noD (cof l a (dimR R) T).2.2) := rfl
              rw [← hcy] at KP
              generalize drw 2 R l a T = Z at *
              generalize pln R l a T = Z2 at *
              generalize cof l a (dimR R) T = G0 at *
              obtain ⟨cs, p, e⟩ := G0
              simp only at HCP HCA HPL
              clear hr hA hu hop hE hcy hlies hbE
              go_enter Try.func79, Try.ntmps79
              go_wp2_with fail
              refine (KM.out _).mono ?_
              rintro e1 w1 ⟨rfl, rfl⟩
              go_wp2_with fail
              refine (KA.out _ HX.out.2.1).mono ?_
              rintro e1 w1 ⟨rfl, rfl⟩
              go_wp2_with fail
              refine (KX.out _ HX.out.2.1).mono ?_
              rintro e1 w1 ⟨A1, c1, A2, c2, rfl, q1, q2, q3, q4, b1⟩
              have J1 := Lib.hid (HX.out.below b1)
              have HLO := Lib.hid q3
              have HHI := Lib.hid q4
              clear q3 q4 b1
              go_wp2_with fail
              refine (KO.out _ _ _ _ _ HLO.out HHI.out).mono ?_
              rintro e1 w2 ⟨A3, c3, rfl, r1, r2, r3, b2⟩
              have J2 := Lib.hid (J1.out.below b2)
              have HOP := Lib.hid r3
              clear r3 b2 HLO HHI
              go_wp2_with fail
              refine (KP.out _ J2.out.2.1).mono ?_
              rintro e1 w3 ⟨A4, c4, rfl, u1, u2, u3, u4, b3⟩
              have J3 := Lib.hid (J2.out.below b3)
              have HOP3 := Lib.hid ((HOP.out.below b3).mono b3.size)
              try simp only at u1 u3
              have H4 := Lib.hid u3
              have hA4 : ∀ ad, A4 = some ad → w.heap.size < ad.block := fun ad e => Nat.lt_of_lt_of_le J2.out.head.lt (u4 ad e)
              have HNB := Lib.hid hA4
              obtain ⟨z0, z1, g0, g1⟩ := J3.out.head.two
              clear u3 u4 b3 hA4
              by_cases he : e = 0
              · subst he
                obtain ⟨p1, p2, p3, p4⟩ := HCP.out rfl
                have p5 := HCA.out rfl
                obtain ⟨v1, v2, v3, _⟩ := partsV_iff.1 p4
                have hRE := HRE.out cs p4
                have hbd := reach_bd hRE
                have hp3 : I64 p := by unfold I64; omega
                have HZ2 : Hid (Z2 = if reachLo cs R < reachHi cs R then btw cs R l p T else axs (opn R) (dimR R) R l p T) := HPL.out.trans (if_pos rfl)
                by_cases hlt : reachLo cs R < reachHi cs R
                · have HZ3 : Hid (Z = btw cs R l p T) := HV.out.trans (HZ2.out.trans (if_pos hlt))
                  have KBB := Lib.hid (KL.out w3 A4 c4 cs p J3.out.2.1 H4.out hp3 hRE (by omega))
                  clear hRE hbd hlt HZ2
                  generalize btw cs R l p T = Y at *
                  obtain ⟨yc, yn, yp, yb, ye⟩ := Y
                  simp only at KBB
                  go_wp2_with fail
                  refine KBB.out.mono ?_
                  rintro e1 w4 ⟨b4, hh⟩
                  have J4 := Lib.hid (J3.out.below b4)
                  have HL4 := Lib.hid ((H4.out.below b4).mono b4.size)
                  clear b4
                  rcases hh with ⟨hy, rfl⟩ | ⟨hy, hne, rfl⟩
                  · have HY := Lib.hid hy
                    clear hy
                    have JJ := Lib.hid (J4.out.alloc #[.slice A4 cs.length c4, .int .i64 yn] 37)
                    obtain ⟨v0, v1, i0, i1⟩ := JJ.out.head.two
                    obtain ⟨x0, x1, f0, f1⟩ := JJ.out.tail.head.two
                    have bS : Below w4.heap.size w4 (w4.alloc (.cells #[.slice A4 cs.length c4, .int .i64 yn] 37)) := (Below.refl _ _).alloc (Nat.le_refl _) _
                    have JS := Lib.hid (J4.out.below bS)
                    have HLS := Lib.hid ((HL4.out.below bS).mono bS.size)
                    clear bS
                    go_wp2
                    obtain ⟨⟨k0, k1⟩, bz⟩ := Kpc.set2 JS.out (Nat.le_refl _) (.slice A4 cs.length c4) (.int .i64 yn)
                    refine bodyPost_ret (v := .tuple #[.agg #[.slice A4 cs.length c4, .int .i64 yn], .int .i64 yp, .bool true, .int .i64 0]) ?_ rfl ?_
                    · simp [results, Try.results79, go_sem, k0, k1]
                    · rw [HZ3.out, HY.out]
                      exact ⟨A4, c4, rfl, u1, by unfold maxLen at u2; omega, (box_off HLS.out HNB.out).mono (by simp), fun ad e => Nat.le_of_lt (HNB.out ad e), bz⟩
                  · have HY := Lib.hid hy
                    have hye : (ye != 0) = true := by simpa using hne
                    clear hy
                    have JJ := Lib.hid (J4.out.alloc #[.slice none 0 0, .int .i64 0] 37)
                    obtain ⟨v0, v1, i0, i1⟩ := JJ.out.head.two
                    obtain ⟨x0, x1, f0, f1⟩ := JJ.out.tail.head.two
                    have bS : Below w4.heap.size w4 (w4.alloc (.cells #[.slice none 0 0, .int .i64 0] 37)) := (Below.refl _ _).alloc (Nat.le_refl _) _
                    have JS := Lib.hid (J4.out.below bS)
                    obtain ⟨x2, x3, f2, f3⟩ := JS.out.head.two
                    clear bS
                    go_wp2
                    obtain ⟨⟨k0, k1⟩, bz⟩ := Kpc.set2 JS.out (Nat.le_refl _) (.slice none 0 0) (.int .i64 0)
                    refine bodyPost_ret (v := .tuple #[.agg #[.slice none 0 0, .int .i64 0], .int .i64 0, .bool false, .int .i64 ye]) ?_ rfl ?_
                    · simp [results, Try.results79, go_sem, k0, k1]
                    · rw [HZ3.out, HY.out]
                      exact givesD_no bz
                · have HV2 : Hid (Z = axs (opn R) (dimR R) R l p T) := HV.out.trans (HZ2.out.trans (if_neg hlt))
                  have KBB := Lib.hid (KN.out w3 A4 c4 cs p J3.out.2.1 H4.out hRE (by omega))
                  clear hRE hbd hlt HZ2
                  go_wp2_with fail
                  refine KBB.out.mono ?_
                  rintro e1 w4 ⟨rfl, b4⟩
                  have J4 := Lib.hid (J3.out.below b4)
                  have HOP4 := Lib.hid ((HOP3.out.below b4).mono b4.size)
                  clear b4
                  have JJ := Lib.hid (J4.out.alloc #[.slice none 0 0, .int .i64 0] 37)
                  obtain ⟨v0, v1, i0, i1⟩ := JJ.out.head.two
                  obtain ⟨x0, x1, f0, f1⟩ := JJ.out.tail.head.two
                  have bS : Below w4.heap.size w4 (w4.alloc (.cells #[.slice none 0 0, .int .i64 0] 37)) := (Below.refl _ _).alloc (Nat.le_refl _) _
                  have JS := Lib.hid (J4.out.below bS)
                  obtain ⟨x2, x3, f2, f3⟩ := JS.out.head.two
                  have HOP5 := Lib.hid ((HOP4.out.below bS).mono bS.size)
                  clear bS HNB
                  have KCC := Lib.hid (KB.out _ p JS.out.2.1 hp3)
                  have HA0 := Lib.hid (HV2.out.trans (HAX.out p))
                  have HO0 := Lib.hid (HCO.out p)
                  have HBL := Lib.hid (HBL0.out p)
                  have HCD : Hid (colD (opn R) (dimR R) l p T = if (bnd l p (opn R).length T).2.2 = 0 then (unitC (dimR R) ((opn R).getD (bnd l p (opn R).length T).1.toNat 0).toNat, (bnd l p (opn R).length T).2.1, 0) else ([], 0, (bnd l p (opn R).length T).2.2)) := rfl
                  generalize colD (opn R) (dimR R) l p T = G at *
                  generalize bnd l p (opn R).length T = G2 at *
                  obtain ⟨bx, bp, be⟩ := G2
                  simp only at HCD HBL
                  go_wp2_with fail
                  refine KCC.out.mono ?_
                  rintro e1 wn ⟨rfl, hbn⟩
                  have bn := qdb hbn
                  have Jn := Lib.hid (JS.out.below bn)
                  have HOPn := Lib.hid ((HOP5.out.below bn).mono bn.size)
                  clear bn hbn
                  by_cases hbe : be = 0
                  · subst hbe
                    have hG : G = (unitC (dimR R) ((opn R).getD bx.toNat 0).toNat, bp, 0) := HCD.out.trans (if_pos (by first | trivial | rfl))
                    obtain ⟨j, t1, t2, t3, t4, t5, t6⟩ := HO0.out (by rw [hG])
                    have hbl := HBL.out
                    obtain ⟨k, rfl⟩ : ∃ k : Nat, bx = k := ⟨bx.toNat, by omega⟩
                    have hk : k < (opn R).length := by omega
                    obtain ⟨ad, rfl, hb0, hc0⟩ := HOPn.out.at (k := k) hk
                    obtain ⟨j2, hj2, hj3, hj4⟩ := HOM.out k hk
                    rw [hj3] at hc0
                    rw [show ((k : Int)).toNat = k from by omega, hj3, show ((j2 : Int)).toNat = j2 from by omega] at hG
                    have hU := HUO.out j2 hj2 hj4
                    have hHA := HA0.out
                    rw [hG] at hHA t4 t5
                    simp only at hHA t4 t5
                    have HZ0 : Hid (Z = btw (unitC (dimR R) j2) R l bp T) := hHA.trans (if_pos (by first | trivial | rfl))
                    have hul := unitC_len (dimR R) j2
                    have hug : unitC (dimR R) j2 = (List.replicate (dimR R) 0).set j2 1 := rfl
                    clear HA0 hHA hG t3 HO0 HCD t1 t2
                    generalize unitC (dimR R) j2 = us at *
                    have hkl : (k : Int) < ((opn R).length : Int) := by omega
                    have hjd : (j2 : Int) < (dimR R : Int) := by omega
                    have hpd : I64 bp := by have := hask.2.1; have := p5.1; unfold I64; omega
                    have HKL := Lib.hid (fun W A1 (h : Below w.heap.size w W) (hl1 : Lies W W.heap.size A1 us) => KL.out W A1 (dimR R) us bp h hl1 hpd hU.1 (by have := hU.2; omega))
                    rw [hul] at HKL
                    go_wp2_with (at_make; refine make_ints rfl (.tmp 126) (.tmp 126) rfl (dimR R) rfl rfl (by omega) ?_; intro wm ho2 hb2; have hc2 := (hb2.cell (by rw [add_block]; exact hb0)).trans hc0; have hfr := ho2.free j2; have hcl := ho2.cell (k := j2) (by simp; omega); have HO2 := Lib.hid ho2; have HB2 := Lib.hid hb2; clear ho2 hb2)
                    have ho3 := HO2.out.set (k := j2) (by simp; omega) 1
                    rw [← hug] at ho3
                    have hbs := HB2.out.setCell (p := ⟨wn.heap.size, j2, none⟩) (Nat.le_refl _) (.int .i64 1)
                    have JM := Lib.hid (Jn.out.below hbs)
                    have HLM := Lib.hid ho3.lies
                    have hNB : ∀ ad, some (⟨wn.heap.size, 0, none⟩ : Addr) = some ad → w.heap.size < ad.block := fun ad e => by cases e; exact Jn.out.head.lt
                    have HNB := Lib.hid hNB
                    clear ho3 hbs hNB
                    refine (HKL.out _ _ JM.out.2.1 HLM.out).mono ?_
                    rintro e1 wz ⟨bz, hh⟩
                    have JZ := Lib.hid (JM.out.below bz)
                    have HLZ := Lib.hid ((HLM.out.below bz).mono bz.size)
                    obtain ⟨x0, x1, f0, f1⟩ := JZ.out.head.two
                    clear bz
                    generalize btw us R l bp T = Y at *
                    obtain ⟨yc, yn, yp, yb, ye⟩ := Y
                    simp only at hh
                    rcases hh with ⟨hy, rfl⟩ | ⟨hy, hne, rfl⟩
                    · have HY := Lib.hid hy
                      clear hy
                      go_wp2
                      obtain ⟨⟨k0, k1⟩, bz⟩ := Kpc.set2 JZ.out (Nat.le_refl _) (.slice (some ⟨wn.heap.size, 0, none⟩) (dimR R) (dimR R)) (.int .i64 yn)
                      refine bodyPost_ret (v := .tuple #[.agg #[.slice (some ⟨wn.heap.size, 0, none⟩) (dimR R) (dimR R), .int .i64 yn], .int .i64 yp, .bool true, .int .i64 0]) ?_ rfl ?_
                      · simp [results, Try.results79, go_sem, k0, k1]
                      · rw [HZ0.out, HY.out]
                        exact ⟨_, dimR R, by first | (rw [show (us, yn, yp, true, (0 : Int)).1.length = dimR R from hul]; done) | (rw [show (us, yn, yp, true, (0 : Int)).1.length = dimR R from hul]; rfl), by first | omega | (simp only; omega), by omega, (box_off HLZ.out HNB.out).mono (by simp), fun ad e => Nat.le_of_lt (HNB.out ad e), bz⟩
                    · have HY := Lib.hid hy
                      clear hy
                      go_wp2
                      obtain ⟨⟨k0, k1⟩, bz⟩ := Kpc.set2 JZ.out (Nat.le_refl _) (.slice none 0 0) (.int .i64 0)
                      refine bodyPost_ret (v := .tuple #[.agg #[.slice none 0 0, .int .i64 0], .int .i64 0, .bool false, .int .i64 ye]) ?_ rfl ?_
                      · simp [results, Try.results79, go_sem, k0, k1]
                      · rw [HZ0.out, HY.out]
                        exact givesD_no bz
                  · have hG : G = ([], 0, be) := HCD.out.trans (if_neg hbe)
                    have hne : (be != 0) = true := by simpa using hbe
                    obtain ⟨z0, z1, g0, g1⟩ := Jn.out.head.two
                    have hHA := HA0.out
                    rw [hG] at hHA
                    have HZ0 : Hid (Z = noD be) := hHA.trans (if_neg hbe)
                    clear HA0 hHA hG HO0 HCD
                    go_wp2
                    obtain ⟨⟨k0, k1⟩, bz⟩ := Kpc.set2 Jn.out (Nat.le_refl _) (.slice none 0 0) (.int .i64 0)
                    refine bodyPost_ret (v := .tuple #[.agg #[.slice none 0 0, .int .i64 0], .int .i64 0, .bool false, .int .i64 be]) ?_ rfl ?_
                    · simp [results, Try.results79, go_sem, k0, k1]
                    · rw [HZ0.out]
                      exact givesD_no bz
              · have hne : (e != 0) = true := by simpa using he
                have HZ2 : Hid (Z = noD e) := HV.out.trans (HPL.out.trans (if_neg he))
                go_wp2
                obtain ⟨⟨k0, k1⟩, bz⟩ := Kpc.set2 J3.out (Nat.le_refl _) (.slice none 0 0) (.int .i64 0)
                refine bodyPost_ret (v := .tuple #[.agg #[.slice none 0 0, .int .i64 0], .int .i64 0, .bool false, .int .i64 e]) ?_ rfl ?_
                · simp [results, Try.results79, go_sem, k0, k1]
                · rw [HZ2.out]
                  exact givesD_no (by first | exact bz | exact HX.out.2.1)
        · have hE2 : boxE R (dimR R) = false := by simpa using hE
          rw [hE2] at KA
          have HV : Hid (drw k R l a t = noD 80) := by
            show _ = _
            unfold drw; rw [if_pos (show AskD _ _ _ from hask), if_neg hE]
          generalize drw k R l a t = Z at *
          clear hr hA hu hE hlies hbE hE2
          generalize dimR R = D at *
          obtain ⟨z0, z1, g0, g1⟩ := HX.out.head.two
          go_enter Try.func79, Try.ntmps79
          go_wp2_with fail
          refine (KM.out _).mono ?_
          rintro e1 w1 ⟨rfl, rfl⟩
          go_wp2_with fail
          refine (KA.out _ HX.out.2.1).mono ?_
          rintro e1 w1 ⟨rfl, rfl⟩
          go_wp2
          obtain ⟨⟨k0, k1⟩, bz⟩ := Kpc.set2 HX.out (Nat.le_refl _) (.slice none 0 0) (.int .i64 0)
          refine bodyPost_ret (v := .tuple #[.agg #[.slice none 0 0, .int .i64 0], .int .i64 0, .bool false, .int .i64 80]) ?_ rfl ?_
          · simp [results, Try.results79, go_sem, k0, k1]
          · rw [HV.out]
            exact givesD_no (by first | exact bz | exact HX.out.2.1)
    · rw [decide_eq_false hask'] at KM
      have hk1 : ¬ k < 1 := by omega
      have hk2 : ¬ 2 < k := by omega
      have HV : Hid (drw k R l a t = noD 1) := by
        show _ = _
        unfold drw; rw [if_neg (show ¬ AskD _ _ _ from fun h => hask' h.2)]
      generalize drw k R l a t = Z at *
      clear hr hA hu
      obtain ⟨z0, z1, g0, g1⟩ := HX.out.head.two
      go_enter Try.func79, Try.ntmps79
      go_wp2_with fail
      refine (KM.out _).mono ?_
      rintro e1 w1 ⟨rfl, rfl⟩
      go_wp2
      obtain ⟨⟨k0, k1⟩, bz⟩ := Kpc.set2 HX.out (Nat.le_refl _) (.slice none 0 0) (.int .i64 0)
      refine bodyPost_ret (v := .tuple #[.agg #[.slice none 0 0, .int .i64 0], .int .i64 0, .bool false, .int .i64 1]) ?_ rfl ?_
      · simp [results, Try.results79, go_sem, k0, k1]
      · rw [HV.out]
        exact givesD_no (by first | exact bz | exact HX.out.2.1)
  · have HV : Hid (drw k R l a t = noD 1) := by
      show _ = _
      unfold drw; rw [if_neg (show ¬ AskD _ _ _ from fun h => hk h.1)]
    generalize drw k R l a t = Z at *
    clear hr hA hu KM
    obtain ⟨z0, z1, g0, g1⟩ := HX.out.head.two
    by_cases hk1 : k < 1
    · go_enter Try.func79, Try.ntmps79
      go_wp2
      obtain ⟨⟨k0, k1⟩, bz⟩ := Kpc.set2 HX.out (Nat.le_refl _) (.slice none 0 0) (.int .i64 0)
      refine bodyPost_ret (v := .tuple #[.agg #[.slice none 0 0, .int .i64 0], .int .i64 0, .bool false, .int .i64 1]) ?_ rfl ?_
      · simp [results, Try.results79, go_sem, k0, k1]
      · rw [HV.out]
        exact givesD_no (by first | exact bz | exact HX.out.2.1)
    · have hk2 : 2 < k := by omega
      go_enter Try.func79, Try.ntmps79
      go_wp2
      obtain ⟨⟨k0, k1⟩, bz⟩ := Kpc.set2 HX.out (Nat.le_refl _) (.slice none 0 0) (.int .i64 0)
      refine bodyPost_ret (v := .tuple #[.agg #[.slice none 0 0, .int .i64 0], .int .i64 0, .bool false, .int .i64 1]) ?_ rfl ?_
      · simp [results, Try.results79, go_sem, k0, k1]
      · rw [HV.out]
        exact givesD_no (by first | exact bz | exact HX.out.2.1)
end Go.Proofs.Ytkkeejbgaaodeaa
/-! Layer 9: Split. -/
namespace Go.Proofs.Ytkkeejbgaaodeaa
open Go.RowKit
set_option linter.unusedVariables false
set_option linter.unusedSimpArgs false

theorem Kpc.drew {B : Nat} {W w : World} {l : List (Nat × Array Value × TypeId)} (h : Kpc B W l w) : Kpc B W l w.drew := ⟨fun x hx => h.1 x hx, h.2.1.drew, h.2.2⟩
theorem Kpc.below1 {B B1 : Nat} {W w w' : World} {l : List (Nat × Array Value × TypeId)} (h : Kpc B W l w) (hb : Below B1 w w') (hB : B ≤ B1) (hl : ∀ x ∈ l, x.1 < B1) : Kpc B W l w' :=
  ⟨fun x hx => (h.1 x hx).below hb (hl x hx), h.2.1.trans (hb.mono hB), Nat.le_trans h.2.2 hb.size⟩
theorem Two.below {B : Nat} {w w' : World} {v1 v2 : Value} {l1 l2 : List Int} (h : Two B w v1 l1 v2 l2) (hb : Below w.heap.size w w') : Two B w' v1 l1 v2 l2 := ⟨ownI_below h.1 hb, ownI_below h.2.1 hb, h.2.2⟩
theorem new_own1 {w w' : World} {v : Value} {l : List Int} {A : Option Addr} {n c : Nat} {e : TypeId} (h : w'.ownsRow (w.heap.size + 1) e 1 v l.length (litI l)) (hv : v = .slice A n c) : New w A := fun ad e => by
  subst hv; subst e
  rcases h.2 with ⟨h1, _⟩ | ⟨g, cap, cur, h1, hb, _⟩
  · cases h1
  · cases h1; exact Nat.le_of_succ_le hb
/-- two lists of indices and an error -/
def GivesS (c : List Int) (p : Int) (R : List Row) (w : World) (e : Ending) (w' : World) : Prop :=
  ∃ A1 c1 A2 c2, e = .returned (.tuple #[.slice A1 (lft c p R).length c1, .slice A2 (rgt c p R).length c2, .int .i64 (splC c p R)]) ∧ (lft c p R).length ≤ c1 ∧ c1 ≤ maxLen ∧ (rgt c p R).length ≤ c2 ∧ c2 ≤ maxLen ∧ Lies w' w'.heap.size A1 (lft c p R) ∧ Lies w' w'.heap.size A2 (rgt c p R) ∧ New w A1 ∧ New w A2 ∧ Below w.heap.size w w'
theorem givesS_intro {c : List Int} {p : Int} {R : List Row} {w : World} (A1 : Option Addr) (c1 : Nat) (A2 : Option Addr) (c2 : Nat) (w' : World) (h1 : (lft c p R).length ≤ c1) (h2 : c1 ≤ maxLen) (h3 : (rgt c p R).length ≤ c2) (h4 : c2 ≤ maxLen) (h5 : Lies w' w'.heap.size A1 (lft c p R)) (h6 : Lies w' w'.heap.size A2 (rgt c p R)) (h7 : New w A1) (h8 : New w A2) (h9 : Below w.heap.size w w') :
    GivesS c p R w (.returned (.tuple #[.slice A1 (lft c p R).length c1, .slice A2 (rgt c p R).length c2, .int .i64 (splC c p R)])) w' := ⟨A1, c1, A2, c2, rfl, h1, h2, h3, h4, h5, h6, h7, h8, h9⟩
theorem givesS_no {c : List Int} {p : Int} {R : List Row} {w : World} {x : Int} (hx : ¬ x = 0) (h1 : splC c p R = x) (h2 : lft c p R = []) (h3 : rgt c p R = []) (w' : World) (h : Below w.heap.size w w') :
    GivesS c p R w (.returned (.tuple #[.slice none 0 0, .slice none 0 0, .int .i64 x])) w' := by
  refine ⟨none, 0, none, 0, ?_, ?_, by unfold maxLen; omega, ?_, by unfold maxLen; omega, ?_, ?_, (fun _ e => by cases e), (fun _ e => by cases e), h⟩
  · rw [h1, h2, h3]; rfl
  · rw [h2]; exact Nat.le_refl _
  · rw [h3]; exact Nat.le_refl _
  · rw [h2]; exact fun h1 => absurd h1 (by simp)
  · rw [h3]; exact fun h1 => absurd h1 (by simp)

set_option maxHeartbeats 4000000 in
theorem cut_Split (A Ar : Option Addr) (a : List Int) (R : List Row) (c cr : Nat) (p : Int) (w : World) (hA : Lies w w.heap.size A a) (hr : LiesR w w.heap.size Ar R) (hR : OkR R) (hla : (a.length : Int) ≤ 9223372036854775807) (hca : a.length ≤ c) (hlr : R.length ≤ 1000000) :
    Calls Try.prog 77 #[.agg #[.slice A a.length c, .int .i64 p], .slice Ar R.length cr] w (GivesS a p R w) := by
  have HX := Lib.hid ((Kpc.start w).alloc #[.slice A a.length c, .int .i64 p] 37)
  have HB0 := Lib.hid (show (w.alloc (.cells #[.slice A a.length c, .int .i64 p] 37)).heap.size = w.heap.size + 1 from alloc_size' _ _)
  have KI := Lib.hid (fun W (h : Below w.heap.size w W) => cut_Is A a c w.heap.size p a.length W (hA.below h) h.size hla hca)
  obtain ⟨y0, y1, _, _⟩ := HX.out.head.two
  by_cases hC : isC a p a.length = true
  · rw [hC] at KI
    have hLC : ∀ x, lefC a p x = dotC a x := fun x => by unfold lefC; rw [if_pos hC]
    have KL := Lib.hid (fun W (h : Below w.heap.size w W) k (hk : k < R.length) => cut_Left A (R.getD k row0).a a (R.getD k row0).l c (R.getD k row0).c w.heap.size p W (hA.below h) ((hr.below h).2 _ (getD_mem hk)) h.size hla (by have := hR _ (getD_mem hk); omega) hca (hR _ (getD_mem hk)).1)
    have HE : Hid (∀ k, k < R.length → dotE a (R.getD k row0).l = true → lefC a p (R.getD k row0).l = 0 ∧ lefB a p (R.getD k row0).l = goesL a p R k) := fun k hk h => by
      have h1 : lefC a p (R.getD k row0).l = 0 := by rw [hLC]; unfold dotC; rw [if_pos h]
      exact ⟨h1, by unfold lefB goesL; rw [h1]; simp⟩
    have HN : Hid (∀ k, k < R.length → dotE a (R.getD k row0).l = false → lefC a p (R.getD k row0).l = 80 ∧ splC a p R = 80 ∧ lft a p R = [] ∧ rgt a p R = []) := fun k hk h => by
      have h2 : splC a p R = 80 := by unfold splC; rw [if_pos hC, splE_no hk h]; rfl
      refine ⟨by rw [hLC]; unfold dotC; rw [h]; rfl, h2, by unfold lft; rw [h2, if_neg (by decide)], by unfold rgt; rw [h2, if_neg (by decide)]⟩
    have HF : Hid ((∀ j, j < R.length → dotE a (R.getD j row0).l = true) → splC a p R = 0 ∧ lft a p R = pcK (goesL a p R) R.length ∧ rgt a p R = pcK (fun j => !goesL a p R j) R.length) := fun h => by
      have h2 : splC a p R = 0 := by unfold splC; rw [if_pos hC, splE_iff.2 h]; rfl
      exact ⟨h2, by unfold lft; rw [if_pos h2], by unfold rgt; rw [if_pos h2]⟩
    have HAT := Lib.hid (fun W (h : Below w.heap.size w W) k (hk : k < R.length) => (hr.below h).at (k := k) hk)
    have HG := Lib.hid (@givesS_intro a p R w)
    have HGN := Lib.hid (fun (x : Int) => @givesS_no a p R w x)
    generalize hlf : lft a p R = lf at *
    generalize hrg : rgt a p R = rg at *
    generalize hsp : splC a p R = sp at *
    generalize GivesS a p R w = Q at *
    clear hA hr hlf hrg hsp hC hLC
    generalize hM : R.length = M at *
    have HM := Lib.hid hM
    clear hM
    go_enter Try.func77, Try.ntmps77
    go_wp2_with fail
    refine (KI.out _ HX.out.2.1).mono ?_
    rintro e w1 ⟨rfl, b1⟩
    have J1 := Lib.hid (HX.out.below b1)
    have hs1 : w.heap.size + 1 ≤ w1.heap.size := by rw [← HB0.out]; exact b1.size
    clear b1
    go_wp2
    go_loopw [7, 8, 21] (fun v1 v2 i wr => ∃ (k : Nat), k ≤ M ∧ i = .int .i64 k ∧ Hid (Two (w.heap.size + 1) wr v1 (pcK (goesL a p R) k) v2 (pcK (fun j => !goesL a p R j) k)) ∧ Hid (∀ j, j < k → dotE a (R.getD j row0).l = true) ∧ Hid (Kpc w.heap.size w [(w.heap.size, #[.slice A a.length c, .int .i64 p], 37)] wr) ∧ Hid (w.heap.size + 1 ≤ wr.heap.size)) (fun _ _ i _ => M - (intOf i).toNat)
    case atStart => exact ⟨0, by omega, rfl, ⟨World.ownsRow_nil _ _ _ _, World.ownsRow_nil _ _ _ _, .inl rfl⟩, fun j hj => absurd hj (by omega), J1.out, hs1⟩
    case round =>
      obtain ⟨k, hk, rfl, HT, HD, HJ, HS⟩ := hrel
      by_cases hlt : k < M
      · obtain ⟨ad, hAr, hadb, hcell, hlies⟩ := HAT.out wr HJ.out.2.1 k hlt
        have HCK : Hid (∀ W, Below w.heap.size w W → W.cell? (ad.add k) = some (.slice (R.getD k row0).a (R.getD k row0).l.length (R.getD k row0).c)) := fun W h => by
          obtain ⟨ad2, e2, _, hc2, _⟩ := HAT.out W h k hlt
          rw [hAr] at e2; cases e2; exact hc2
        subst hAr
        obtain ⟨x0, x1, _, _⟩ := HJ.out.head.two
        have K := Lib.hid (fun W (h : Below w.heap.size w W) => KL.out W h k hlt)
        have HE1 := Lib.hid (HE.out k hlt)
        have HN1 := Lib.hid (HN.out k hlt)
        have HPS : Hid (pcK (goesL a p R) (k + 1) = if goesL a p R k then pcK (goesL a p R) k ++ [(k : Int)] else pcK (goesL a p R) k) := rfl
        have HQS : Hid (pcK (fun j => !goesL a p R j) (k + 1) = if !goesL a p R k then pcK (fun j => !goesL a p R j) k ++ [(k : Int)] else pcK (fun j => !goesL a p R j) k) := rfl
        have hl1 := pcK_len (goesL a p R) k
        have hl2 := pcK_len (fun j => !goesL a p R j) k
        have HDX : Hid (dotE a (R.getD k row0).l = true → ∀ j, j < k + 1 → dotE a (R.getD j row0).l = true) := fun h j hj => by
          rcases Nat.lt_or_ge j k with g | g
          · exact HD.out j g
          · rw [show j = k from by omega]; exact h
        generalize R.getD k row0 = r at *
        obtain ⟨ra, rl, rc⟩ := r
        simp only at hcell K HE1 HN1 HDX HCK
        generalize lefC a p rl = lc at *
        generalize lefB a p rl = lb at *
        generalize goesL a p R k = gl at *
        generalize pcK (goesL a p R) k = P1 at *
        generalize pcK (fun j => !goesL a p R j) k = P2 at *
        have HL1 : Hid (P1.length + 1 ≤ 1000000000) := by show _ ≤ _; omega
        have HL2 : Hid (P2.length + 1 ≤ 1000000000) := by show _ ≤ _; omega
        clear hlies hl1 hl2
        have hlg : (k : Int) < (M : Int) := by omega
        cases hq : dotE a rl
        · obtain ⟨n1, n2, n3, n4⟩ := HN1.out hq
          subst n1
          go_wp2_with fail
          refine (K.out _ HJ.out.2.1).mono ?_
          rintro e w2 ⟨rfl, b2⟩
          have J2 := Lib.hid (HJ.out.below b2)
          clear b2
          go_wp2
          go_ret3
          exact HGN.out _ (by omega) n2 n3 n4 _ J2.out.2.1
        · obtain ⟨n1, n2⟩ := HE1.out hq
          subst n1
          subst n2
          have HDY := Lib.hid (HDX.out hq)
          clear hq HE1 HN1 HDX
          go_wp2_with fail
          refine (K.out _ HJ.out.2.1).mono ?_
          rintro e w2 ⟨rfl, b2⟩
          have J2 := Lib.hid (HJ.out.below b2)
          have HT2 := Lib.hid (HT.out.below b2)
          have HS2 : Hid (w.heap.size + 1 ≤ w2.heap.size) := Nat.le_trans HS.out b2.size
          obtain ⟨x2, x3, _, _⟩ := J2.out.head.two
          clear b2
          cases lb
          · go_wp2_with (at_builtin; refine app_int_at rfl (.tmp 40) (.tmp 42) rfl _ P2 k _ P1 rfl HT2.out.b HT2.out.a HT2.out.swap.c rfl HS2.out HL2.out ?_; intro v' w4 htw hb4)
            refine ⟨⟨k + 1, by omega, by go_num, (by show Two _ _ _ _ _ _; rw [HPS.out, HQS.out]; exact htw.swap), HDY.out, J2.out.below1 hb4 (by omega) (fun x hx => by rw [List.mem_singleton.1 hx]; omega), Nat.le_trans HS2.out hb4.size⟩, by first | (simp [intOf]; done) | (simp [intOf]; omega)⟩
          · go_wp2_with (at_builtin; refine app_int_at rfl (.tmp 36) (.tmp 38) rfl _ P1 k _ P2 rfl HT2.out.a HT2.out.b HT2.out.c rfl HS2.out HL1.out ?_; intro v' w4 htw hb4)
            refine ⟨⟨k + 1, by omega, by go_num, (by show Two _ _ _ _ _ _; rw [HPS.out, HQS.out]; exact htw), HDY.out, J2.out.below1 hb4 (by omega) (fun x hx => by rw [List.mem_singleton.1 hx]; omega), Nat.le_trans HS2.out hb4.size⟩, by first | (simp [intOf]; done) | (simp [intOf]; omega)⟩
      · obtain rfl : k = M := by omega
        have HTW := Lib.hid HT.out
        obtain ⟨f1, f2, f3⟩ := HF.out HD.out
        obtain ⟨A1, c1, rfl, g1, g2, g3⟩ := lies_ownI HTW.out.a
        obtain ⟨A2, c2, rfl, i1, i2, i3⟩ := lies_ownI HTW.out.b
        have n1 := new_own1 HTW.out.a rfl
        have n2 := new_own1 HTW.out.b rfl
        have HFin := Lib.hid (HG.out A1 c1 A2 c2 wr (by rw [f2]; exact g1) g2 (by rw [f3]; exact i1) i2 (by rw [f2]; exact g3) (by rw [f3]; exact i3) n1 n2 HJ.out.2.1)
        rw [f1, f2, f3] at HFin
        clear g3 i3 n1 n2
        go_wp2
        go_ret3
        exact HFin.out
  · have hC2 : isC a p a.length = false := by simpa using hC
    rw [hC2] at KI
    have hsp : splC a p R = 90 := by unfold splC; rw [hC2]; rfl
    have hlf : lft a p R = [] := by unfold lft; rw [hsp, if_neg (by decide)]
    have hrg : rgt a p R = [] := by unfold rgt; rw [hsp, if_neg (by decide)]
    have HGN := Lib.hid (fun (x : Int) => @givesS_no a p R w x)
    generalize lft a p R = lf at *
    generalize rgt a p R = rg at *
    generalize splC a p R = sp at *
    generalize GivesS a p R w = Q at *
    clear hA hr hC hC2
    go_enter Try.func77, Try.ntmps77
    go_wp2_with fail
    refine (KI.out _ HX.out.2.1).mono ?_
    rintro e w1 ⟨rfl, b1⟩
    have J1 := Lib.hid (HX.out.below b1)
    clear b1
    go_wp2
    go_ret3
    subst hsp
    exact HGN.out _ (by decide) rfl hlf hrg _ J1.out.2.1

set_option maxHeartbeats 4000000 in
theorem ref_Split (A Ar : Option Addr) (a : List Int) (R : List Row) (c cr : Nat) (p : Int) (w : World) (hA : Lies w w.heap.size A a) (hr : LiesR w w.heap.size Ar R) (hlr : R.length ≤ 1000000) :
    Calls Try.prog 80 #[.agg #[.slice A a.length c, .int .i64 p], .slice Ar R.length cr] w (GivesS a p R w) := by
  have HX := Lib.hid ((Kpc.start w).alloc #[.slice A a.length c, .int .i64 p] 37)
  have HB0 := Lib.hid (show (w.alloc (.cells #[.slice A a.length c, .int .i64 p] 37)).heap.size = w.heap.size + 1 from alloc_size' _ _)
  have KI := Lib.hid (fun W (h : Below w.heap.size w W) => ref_Is9 A a c w.heap.size p a.length W (hA.below h) h.size)
  obtain ⟨y0, y1, _, _⟩ := HX.out.head.two
  by_cases hC : isC a p a.length = true
  · rw [hC] at KI
    have hLC : ∀ x, lefC a p x = dotC a x := fun x => by unfold lefC; rw [if_pos hC]
    have KL := Lib.hid (fun W (h : Below w.heap.size w W) k (hk : k < R.length) => ref_Left9 A (R.getD k row0).a a (R.getD k row0).l c (R.getD k row0).c w.heap.size p W (hA.below h) ((hr.below h).2 _ (getD_mem hk)) h.size)
    have HE : Hid (∀ k, k < R.length → dotE a (R.getD k row0).l = true → lefC a p (R.getD k row0).l = 0 ∧ lefB a p (R.getD k row0).l = goesL a p R k) := fun k hk h => by
      have h1 : lefC a p (R.getD k row0).l = 0 := by rw [hLC]; unfold dotC; rw [if_pos h]
      exact ⟨h1, by unfold lefB goesL; rw [h1]; simp⟩
    have HN : Hid (∀ k, k < R.length → dotE a (R.getD k row0).l = false → lefC a p (R.getD k row0).l = 80 ∧ splC a p R = 80 ∧ lft a p R = [] ∧ rgt a p R = []) := fun k hk h => by
      have h2 : splC a p R = 80 := by unfold splC; rw [if_pos hC, splE_no hk h]; rfl
      refine ⟨by rw [hLC]; unfold dotC; rw [h]; rfl, h2, by unfold lft; rw [h2, if_neg (by decide)], by unfold rgt; rw [h2, if_neg (by decide)]⟩
    have HF : Hid ((∀ j, j < R.length → dotE a (R.getD j row0).l = true) → splC a p R = 0 ∧ lft a p R = pcK (goesL a p R) R.length ∧ rgt a p R = pcK (fun j => !goesL a p R j) R.length) := fun h => by
      have h2 : splC a p R = 0 := by unfold splC; rw [if_pos hC, splE_iff.2 h]; rfl
      exact ⟨h2, by unfold lft; rw [if_pos h2], by unfold rgt; rw [if_pos h2]⟩
    have HAT := Lib.hid (fun W (h : Below w.heap.size w W) k (hk : k < R.length) => (hr.below h).at (k := k) hk)
    have HG := Lib.hid (@givesS_intro a p R w)
    have HGN := Lib.hid (fun (x : Int) => @givesS_no a p R w x)
    generalize hlf : lft a p R = lf at *
    generalize hrg : rgt a p R = rg at *
    generalize hsp : splC a p R = sp at *
    generalize GivesS a p R w = Q at *
    clear hA hr hlf hrg hsp hC hLC
    generalize hM : R.length = M at *
    have HM := Lib.hid hM
    clear hM
    go_enter Try.func80, Try.ntmps80
    go_wp2_with fail
    refine (KI.out _ HX.out.2.1).mono ?_
    rintro e w1 ⟨rfl, b1⟩
    have J1 := Lib.hid (HX.out.below b1)
    have hs1 : w.heap.size + 1 ≤ w1.heap.size := by rw [← HB0.out]; exact b1.size
    clear b1
    go_wp2
    go_loopw [7, 8, 9] (fun v1 v2 i wr => ∃ (k : Nat), k ≤ M ∧ i = .int .i64 k ∧ Hid (Two (w.heap.size + 1) wr v1 (pcK (goesL a p R) k) v2 (pcK (fun j => !goesL a p R j) k)) ∧ Hid (∀ j, j < k → dotE a (R.getD j row0).l = true) ∧ Hid (Kpc w.heap.size w [(w.heap.size, #[.slice A a.length c, .int .i64 p], 37)] wr) ∧ Hid (w.heap.size + 1 ≤ wr.heap.size)) (fun _ _ i _ => M - (intOf i).toNat)
    case atStart => exact ⟨0, by omega, rfl, ⟨World.ownsRow_nil _ _ _ _, World.ownsRow_nil _ _ _ _, .inl rfl⟩, fun j hj => absurd hj (by omega), J1.out, hs1⟩
    case round =>
      obtain ⟨k, hk, rfl, HT, HD, HJ, HS⟩ := hrel
      by_cases hlt : k < M
      · obtain ⟨ad, hAr, hadb, hcell, hlies⟩ := HAT.out wr HJ.out.2.1 k hlt
        have HCK : Hid (∀ W, Below w.heap.size w W → W.cell? (ad.add k) = some (.slice (R.getD k row0).a (R.getD k row0).l.length (R.getD k row0).c)) := fun W h => by
          obtain ⟨ad2, e2, _, hc2, _⟩ := HAT.out W h k hlt
          rw [hAr] at e2; cases e2; exact hc2
        subst hAr
        obtain ⟨x0, x1, _, _⟩ := HJ.out.head.two
        have K := Lib.hid (fun W (h : Below w.heap.size w W) => KL.out W h k hlt)
        have HE1 := Lib.hid (HE.out k hlt)
        have HN1 := Lib.hid (HN.out k hlt)
        have HPS : Hid (pcK (goesL a p R) (k + 1) = if goesL a p R k then pcK (goesL a p R) k ++ [(k : Int)] else pcK (goesL a p R) k) := rfl
        have HQS : Hid (pcK (fun j => !goesL a p R j) (k + 1) = if !goesL a p R k then pcK (fun j => !goesL a p R j) k ++ [(k : Int)] else pcK (fun j => !goesL a p R j) k) := rfl
        have hl1 := pcK_len (goesL a p R) k
        have hl2 := pcK_len (fun j => !goesL a p R j) k
        have HDX : Hid (dotE a (R.getD k row0).l = true → ∀ j, j < k + 1 → dotE a (R.getD j row0).l = true) := fun h j hj => by
          rcases Nat.lt_or_ge j k with g | g
          · exact HD.out j g
          · rw [show j = k from by omega]; exact h
        generalize R.getD k row0 = r at *
        obtain ⟨ra, rl, rc⟩ := r
        simp only at hcell K HE1 HN1 HDX HCK
        generalize lefC a p rl = lc at *
        generalize lefB a p rl = lb at *
        generalize goesL a p R k = gl at *
        generalize pcK (goesL a p R) k = P1 at *
        generalize pcK (fun j => !goesL a p R j) k = P2 at *
        have HL1 : Hid (P1.length + 1 ≤ 1000000000) := by show _ ≤ _; omega
        have HL2 : Hid (P2.length + 1 ≤ 1000000000) := by show _ ≤ _; omega
        clear hlies hl1 hl2
        have hlg : (k : Int) < (M : Int) := by omega
        cases hq : dotE a rl
        · obtain ⟨n1, n2, n3, n4⟩ := HN1.out hq
          subst n1
          go_wp2
          have JD := Lib.hid HJ.out.drew
          have HT2 := Lib.hid (HT.out.below (Below.refl _ _).drew)
          have HS2 : Hid (w.heap.size + 1 ≤ wr.drew.heap.size) := HS.out
          obtain ⟨x0, x1, _, _⟩ := JD.out.head.two
          have hcd : wr.drew.cell? (ad.add k) = some (.slice ra rl.length rc) := hcell
          go_region_held3 (fun W => W.cell? ⟨w.heap.size, 0, none⟩ = some (.slice A a.length c) ∧ W.cell? ⟨w.heap.size, 1, none⟩ = some (.int .i64 p) ∧ W.cell? (ad.add k) = some (.slice ra rl.length rc)) (first | assumption | exact hcd | go_keep)
            (first
              | (go_at_call 85; ((refine (K.out _ JD.out.2.1).mono ?_); rintro e w2 ⟨rfl, b2⟩; have J2 := Lib.hid (JD.out.below b2); have HT2 := Lib.hid (HT2.out.below b2); have HS2 := Lib.hid (show w.heap.size + 1 ≤ w2.heap.size from Nat.le_trans HS2.out b2.size); have hcx := HCK.out _ J2.out.2.1; obtain ⟨x2, x3, _, _⟩ := J2.out.head.two; clear b2)))
          go_wp2
          go_ret3
          exact HGN.out _ (by omega) n2 n3 n4 _ J2.out.2.1
        · obtain ⟨n1, n2⟩ := HE1.out hq
          subst n1
          subst n2
          have HDY := Lib.hid (HDX.out hq)
          clear hq HE1 HN1 HDX
          go_wp2
          have JD := Lib.hid HJ.out.drew
          have HT2 := Lib.hid (HT.out.below (Below.refl _ _).drew)
          have HS2 : Hid (w.heap.size + 1 ≤ wr.drew.heap.size) := HS.out
          obtain ⟨x0, x1, _, _⟩ := JD.out.head.two
          have hcd : wr.drew.cell? (ad.add k) = some (.slice ra rl.length rc) := hcell
          go_region_held3 (fun W => W.cell? ⟨w.heap.size, 0, none⟩ = some (.slice A a.length c) ∧ W.cell? ⟨w.heap.size, 1, none⟩ = some (.int .i64 p) ∧ W.cell? (ad.add k) = some (.slice ra rl.length rc)) (first | assumption | exact hcd | go_keep)
            (first
              | (go_at_call 85; ((refine (K.out _ JD.out.2.1).mono ?_); rintro e w2 ⟨rfl, b2⟩; have J2 := Lib.hid (JD.out.below b2); have HT2 := Lib.hid (HT2.out.below b2); have HS2 := Lib.hid (show w.heap.size + 1 ≤ w2.heap.size from Nat.le_trans HS2.out b2.size); have hcx := HCK.out _ J2.out.2.1; obtain ⟨x2, x3, _, _⟩ := J2.out.head.two; clear b2)))
          cases lb
          · go_wp2_with (at_builtin; refine app_int_at rfl (.tmp 41) (.tmp 43) rfl _ P2 k _ P1 rfl HT2.out.b HT2.out.a HT2.out.swap.c rfl HS2.out HL2.out ?_; intro v' w4 htw hb4)
            refine ⟨⟨k + 1, by omega, by go_num, (by show Two _ _ _ _ _ _; rw [HPS.out, HQS.out]; exact htw.swap), HDY.out, J2.out.below1 hb4 (by omega) (fun x hx => by rw [List.mem_singleton.1 hx]; omega), Nat.le_trans HS2.out hb4.size⟩, by first | (simp [intOf]; done) | (simp [intOf]; omega)⟩
          · go_wp2_with (at_builtin; refine app_int_at rfl (.tmp 37) (.tmp 39) rfl _ P1 k _ P2 rfl HT2.out.a HT2.out.b HT2.out.c rfl HS2.out HL1.out ?_; intro v' w4 htw hb4)
            refine ⟨⟨k + 1, by omega, by go_num, (by show Two _ _ _ _ _ _; rw [HPS.out, HQS.out]; exact htw), HDY.out, J2.out.below1 hb4 (by omega) (fun x hx => by rw [List.mem_singleton.1 hx]; omega), Nat.le_trans HS2.out hb4.size⟩, by first | (simp [intOf]; done) | (simp [intOf]; omega)⟩
      · obtain rfl : k = M := by omega
        have HTW := Lib.hid HT.out
        obtain ⟨f1, f2, f3⟩ := HF.out HD.out
        obtain ⟨A1, c1, rfl, g1, g2, g3⟩ := lies_ownI HTW.out.a
        obtain ⟨A2, c2, rfl, i1, i2, i3⟩ := lies_ownI HTW.out.b
        have n1 := new_own1 HTW.out.a rfl
        have n2 := new_own1 HTW.out.b rfl
        have HFin := Lib.hid (HG.out A1 c1 A2 c2 wr (by rw [f2]; exact g1) g2 (by rw [f3]; exact i1) i2 (by rw [f2]; exact g3) (by rw [f3]; exact i3) n1 n2 HJ.out.2.1)
        rw [f1, f2, f3] at HFin
        clear g3 i3 n1 n2
        go_wp2
        go_ret3
        exact HFin.out
  · have hC2 : isC a p a.length = false := by simpa using hC
    rw [hC2] at KI
    have hsp : splC a p R = 90 := by unfold splC; rw [hC2]; rfl
    have hlf : lft a p R = [] := by unfold lft; rw [hsp, if_neg (by decide)]
    have hrg : rgt a p R = [] := by unfold rgt; rw [hsp, if_neg (by decide)]
    have HGN := Lib.hid (fun (x : Int) => @givesS_no a p R w x)
    generalize lft a p R = lf at *
    generalize rgt a p R = rg at *
    generalize splC a p R = sp at *
    generalize GivesS a p R w = Q at *
    clear hA hr hC hC2
    go_enter Try.func80, Try.ntmps80
    go_wp2_with fail
    refine (KI.out _ HX.out.2.1).mono ?_
    rintro e w1 ⟨rfl, b1⟩
    have J1 := Lib.hid (HX.out.below b1)
    clear b1
    go_wp2
    go_ret3
    subst hsp
    exact HGN.out _ (by decide) rfl hlf hrg _ J1.out.2.1

end Go.Proofs.Ytkkeejbgaaodeaa
