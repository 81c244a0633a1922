/- BigN BigW BigP BigQ BigT BigI BigF BigZ BigA -/
import Derived.WalkKit
import Derived.Test.YteenemdiokajbaaBase
import Derived.Deep.RegionHeld3

/-! Plain arithmetic of digits of base 65536, the lowest first: no Go in sight. -/
namespace Go.Proofs.Yteenemdiokajbaa

/-- the digits of a number from 0 on, without noughts at the top -/
def digs (n : Int) : List Int := if h : n ≤ 0 then [] else n % 65536 :: digs (n / 65536)
termination_by n.toNat
decreasing_by omega
/-- what digits say -/
def val : List Int → Int
  | [] => 0
  | d :: l => d + 65536 * val l
def Dig (l : List Int) : Prop := ∀ d ∈ l, 0 ≤ d ∧ d < 65536
def pw (k : Nat) : Int := 65536 ^ k

theorem digs_0 {n : Int} (h : n ≤ 0) : digs n = [] := by rw [digs, dif_pos h]
theorem digs_s {n : Int} (h : 0 < n) : digs n = n % 65536 :: digs (n / 65536) := by rw [digs, dif_neg (by omega)]
theorem val_digs (n : Int) (h : 0 ≤ n) : val (digs n) = n := by
  by_cases h0 : n = 0
  · subst h0; rw [digs_0 (by omega)]; rfl
  · rw [digs_s (by omega), val, val_digs (n / 65536) (by omega)]; omega
termination_by n.toNat
decreasing_by omega
theorem dig_digs (n : Int) : Dig (digs n) := by
  by_cases h0 : n ≤ 0
  · rw [digs_0 h0]; intro d hd; cases hd
  · rw [digs_s (by omega)]
    intro d hd
    rcases List.mem_cons.1 hd with rfl | hd
    · omega
    · exact dig_digs (n / 65536) d hd
termination_by n.toNat
decreasing_by omega
theorem pw_0 : pw 0 = 1 := rfl
theorem pw_s (k : Nat) : pw (k + 1) = pw k * 65536 := by unfold pw; rw [Int.pow_succ]
theorem pw_pos (k : Nat) : 0 < pw k := by
  induction k with
  | zero => decide
  | succ k ih => rw [pw_s]; omega
theorem pw_mono {a b : Nat} (h : a ≤ b) : pw a ≤ pw b := by
  induction b with
  | zero => rw [Nat.le_zero.1 h]; exact Int.le_refl _
  | succ b ih =>
    rcases Nat.lt_or_ge b a with h1 | h1
    · rw [show a = b + 1 from by omega]; exact Int.le_refl _
    · have := ih h1
      have := pw_pos b
      rw [pw_s b]; omega
theorem val_nonneg {l : List Int} (h : Dig l) : 0 ≤ val l := by
  induction l with
  | nil => exact Int.le_refl _
  | cons d l ih =>
    have := ih fun x hx => h x (List.mem_cons_of_mem _ hx)
    have := (h d List.mem_cons_self).1
    rw [val]; omega
theorem val_lt {l : List Int} (h : Dig l) : val l < pw l.length := by
  induction l with
  | nil => decide
  | cons d l ih =>
    have := ih fun x hx => h x (List.mem_cons_of_mem _ hx)
    have := (h d List.mem_cons_self).2
    rw [val, List.length_cons, pw_s]; omega
theorem val_append (a b : List Int) : val (a ++ b) = val a + pw a.length * val b := by
  induction a with
  | nil => simp [val, pw]
  | cons d a ih =>
    rw [List.cons_append, val, val, ih, List.length_cons, pw_s]
    grind
theorem val_snoc (a : List Int) (d : Int) : val (a ++ [d]) = val a + pw a.length * d := by
  rw [val_append]; simp [val]
theorem val_take (l : List Int) (k : Nat) (h : k < l.length) : val (l.take (k + 1)) = val (l.take k) + pw k * l.getD k 0 := by
  rw [List.take_succ_eq_append_getElem h, val_snoc, List.length_take, Nat.min_eq_left (by omega)]
  simp [List.getD, h]
theorem val_drop (l : List Int) (k : Nat) (h : k < l.length) : val (l.drop k) = l.getD k 0 + 65536 * val (l.drop (k + 1)) := by
  rw [List.drop_eq_getElem_cons h, val]
  simp [List.getD, h]
theorem val_drop_ge (l : List Int) (k : Nat) (h : l.length ≤ k) : val (l.drop k) = 0 := by
  rw [List.drop_eq_nil_of_le h]; rfl
theorem dig_take {l : List Int} (h : Dig l) (k : Nat) : Dig (l.take k) := fun d hd => h d (List.mem_of_mem_take hd)
theorem dig_drop {l : List Int} (h : Dig l) (k : Nat) : Dig (l.drop k) := fun d hd => h d (List.mem_of_mem_drop hd)
theorem dig_snoc {l : List Int} (h : Dig l) {d : Int} (h0 : 0 ≤ d) (h1 : d < 65536) : Dig (l ++ [d]) := fun x hx => by
  rcases List.mem_append.1 hx with h2 | h2
  · exact h x h2
  · rw [List.mem_singleton.1 h2]; exact ⟨h0, h1⟩
theorem dig_getD {l : List Int} (h : Dig l) (k : Nat) : 0 ≤ l.getD k 0 ∧ l.getD k 0 < 65536 := by
  by_cases hk : k < l.length
  · rw [List.getD_eq_getElem?_getD, List.getElem?_eq_getElem hk]; exact h _ (List.getElem_mem _)
  · rw [List.getD_eq_getElem?_getD, List.getElem?_eq_none (by omega)]; simp
/-- digits without a nought at the top are the digits of what they say -/
theorem digs_val {l : List Int} (h : Dig l) (ht : l = [] ∨ l.getD (l.length - 1) 0 ≠ 0) : digs (val l) = l := by
  induction l with
  | nil => rw [val, digs_0 (by omega)]
  | cons d l ih =>
    have hd := h d List.mem_cons_self
    have hl : Dig l := fun x hx => h x (List.mem_cons_of_mem _ hx)
    have hv := val_nonneg hl
    cases l with
    | nil =>
      have h0 : d ≠ 0 := by
        rcases ht with ht | ht
        · cases ht
        · simpa using ht
      rw [val, val, digs_s (by omega)]
      have e1 : (d + 65536 * 0) % 65536 = d := by omega
      have e2 : (d + 65536 * 0) / 65536 = 0 := by omega
      rw [e1, e2, digs_0 (by omega)]
    | cons e m =>
      have ih' := ih hl (.inr (by
        rcases ht with ht | ht
        · cases ht
        · simpa [List.length_cons] using ht))
      have hp : 0 < val (e :: m) := by
        rcases Int.lt_or_le 0 (val (e :: m)) with h0 | h0
        · exact h0
        · rw [digs_0 h0] at ih'; cases ih'
      rw [val, digs_s (by omega)]
      have e1 : (d + 65536 * val (e :: m)) % 65536 = d := by omega
      have e2 : (d + 65536 * val (e :: m)) / 65536 = val (e :: m) := by omega
      rw [e1, e2, ih']
/-- at the top of digits there is no nought -/
theorem digs_top (n : Int) (h : 0 < n) : (digs n).getD ((digs n).length - 1) 0 ≠ 0 := by
  rw [digs_s h]
  by_cases h1 : n / 65536 = 0
  · rw [h1, digs_0 (by omega)]; simp; omega
  · have ih := digs_top (n / 65536) (by omega)
    have hne : (digs (n / 65536)).length ≠ 0 := by
      intro h2
      rw [List.length_eq_zero_iff] at h2
      rw [digs_s (by omega)] at h2
      cases h2
    have : (n % 65536 :: digs (n / 65536)).length - 1 = ((digs (n / 65536)).length - 1) + 1 := by rw [List.length_cons]; omega
    rw [this, List.getD_cons_succ]
    exact ih
termination_by n.toNat
decreasing_by omega
theorem digs_len (n : Int) (k : Nat) (h : n < pw k) : (digs n).length ≤ k := by
  induction k generalizing n with
  | zero => rw [digs_0 (by rw [pw_0] at h; omega)]; exact Nat.le_refl _
  | succ k ih =>
    by_cases h0 : n ≤ 0
    · rw [digs_0 h0]; exact Nat.zero_le _
    · rw [digs_s (by omega), List.length_cons]
      have := ih (n / 65536) (by rw [pw_s] at h; omega)
      omega
theorem digs_len_ge (n : Int) (k : Nat) (h : pw k ≤ n) : k < (digs n).length := by
  have h1 := val_lt (dig_digs n)
  rw [val_digs n (by have := pw_pos k; omega)] at h1
  rcases Nat.lt_or_ge k (digs n).length with h2 | h2
  · exact h2
  · have h3 : pw (digs n).length ≤ pw k := pw_mono h2
    omega
end Go.Proofs.Yteenemdiokajbaa

/-! Contracts of package copseref01: digits of base 65536 in memory. -/
namespace Go.Proofs.Yteenemdiokajbaa
open Go.RowKit

def lits (l : List Int) : List Value := l.map (Value.int .i64)
theorem lits_len (l : List Int) : (lits l).length = l.length := by simp [lits]
theorem lits_snoc (l : List Int) (d : Int) : lits l ++ [Value.int .i64 d] = lits (l ++ [d]) := by simp [lits]
theorem lits_get (l : List Int) (j : Nat) (h : j < l.length) : (lits l)[j]? = some (.int .i64 (l.getD j 0)) := by
  simp [lits, List.getD, h]
/-- a row of the call's own lies as a list -/
theorem lies_own {w : World} {base : Nat} {e : TypeId} {v : Value} {l : List Int} (h : w.ownsRow base e 1 v l.length (lits l)) :
    ∃ A c, v = .slice A l.length c ∧ l.length ≤ c ∧ c ≤ maxLen ∧ Lies w w.heap.size A l := by
  rcases h.2 with ⟨rfl, h0⟩ | ⟨g, cap, cur, rfl, hb, hh, hnc, hm, hsz, hx⟩
  · rw [h0]
    exact ⟨none, 0, rfl, by omega, by unfold maxLen; omega, fun h1 => absurd h1 (by omega)⟩
  · refine ⟨_, cap, rfl, hnc, hm, fun _ => ⟨⟨g, 0, none⟩, rfl, ?_, fun j hj => ?_⟩⟩
    · rcases Nat.lt_or_ge g w.heap.size with hlt | hge
      · exact hlt
      · rw [Array.getElem?_eq_none hge] at hh; cases hh
    · have h1 : (⟨g, 0, none⟩ : Addr).add j = ⟨g, j, none⟩ := by unfold Addr.add; split <;> simp_all
      rw [h1]
      refine (cell_of_row w g j _ _ (0, 0) hh).trans ?_
      rw [← lits_get l j hj, ← hx, List.getElem?_take]
      simp
      intro h2; omega

/-- it gives the digits of n -/
def Gives (n : Int) (w : World) (e : Ending) (w' : World) : Prop :=
  ∃ A c, e = .returned (.slice A (digs n).length c) ∧ (digs n).length ≤ c ∧ c ≤ maxLen ∧ Lies w' w'.heap.size A (digs n) ∧ Below w.heap.size w w'

theorem info_int : (Try.prog.info? 3).map (fun i => (i.zero, i.size, i.bytes)) = some (some (.int .i64 0), 1, 8) := by kernel_rfl

theorem lies_at {w : World} {B : Nat} {A : Option Addr} {l : List Int} (h : Lies w B A l) {k : Nat} (hk : k < l.length) :
    ∃ ad : Addr, A = some ad ∧ ad.block < B ∧ w.cell? (ad.add k) = some (.int .i64 (l.getD k 0)) := by
  obtain ⟨ad, e, hb, hc⟩ := h (by omega)
  exact ⟨ad, e, hb, hc k hk⟩
end Go.Proofs.Yteenemdiokajbaa

/-! Contracts of copseref01: digit, trim, Plus. -/
namespace Go.Proofs.Yteenemdiokajbaa
open Go.RowKit

/-- the digits of what l says, in the front of where l lies -/
def Trims (l : List Int) (c B : Nat) (w : World) (e : Ending) (w' : World) : Prop :=
  ∃ A, e = .returned (.slice A (digs (val l)).length c) ∧ (digs (val l)).length ≤ c ∧ Lies w B A (digs (val l)) ∧ w = w'
theorem lies_take {w : World} {B : Nat} {A : Option Addr} {l : List Int} (h : Lies w B A l) (k : Nat) : Lies w B A (l.take k) := fun h0 => by
  rw [List.length_take] at h0
  obtain ⟨ad, e, hb, hc⟩ := h (by omega)
  refine ⟨ad, e, hb, fun j hj => ?_⟩
  rw [List.length_take] at hj
  rw [hc j (by omega), List.getD_eq_getElem?_getD, List.getD_eq_getElem?_getD, List.getElem?_take, if_pos (by omega)]
theorem trims_mk {A : Option Addr} {l : List Int} {c B k : Nat} {w : World} (hA : Lies w B A l) (hk : k ≤ l.length) (hd : Dig l) (hc : l.length ≤ c) (hv : val (l.take k) = val l) (ht : k = 0 ∨ l.getD (k - 1) 0 ≠ 0) :
    Trims l c B w (.returned (.slice A k c)) w := by
  have he : digs (val l) = l.take k := by
    rw [← hv]
    refine digs_val (dig_take hd k) ?_
    rcases ht with rfl | ht
    · exact .inl (List.take_zero)
    · rcases Nat.eq_zero_or_pos k with rfl | h0
      · exact .inl (List.take_zero)
      · refine .inr ?_
        rw [List.length_take, Nat.min_eq_left hk, List.getD_eq_getElem?_getD, List.getElem?_take, if_pos (by omega), ← List.getD_eq_getElem?_getD]
        exact ht
  have hl : (digs (val l)).length = k := by rw [he, List.length_take, Nat.min_eq_left hk]
  refine ⟨A, by rw [hl], by omega, by rw [he]; exact lies_take hA k, rfl⟩
theorem plus_step (k : Nat) (l : List Int) (c x y X Y T : Int) (hl : l.length = k) (h : val l + pw k * (c + (x + 65536 * X) + (y + 65536 * Y)) = T) :
    val (l ++ [(x + y + c) % 65536]) + pw (k + 1) * ((x + y + c) / 65536 + X + Y) = T := by
  rw [val_snoc, hl, pw_s, ← h]
  have e : x + y + c = (x + y + c) / 65536 * 65536 + (x + y + c) % 65536 := by omega
  generalize (x + y + c) / 65536 = q at *
  generalize (x + y + c) % 65536 = r at *
  have : c + (x + 65536 * X) + (y + 65536 * Y) = (q * 65536 + r) + 65536 * X + 65536 * Y := by omega
  rw [this]
  grind

end Go.Proofs.Yteenemdiokajbaa

/-! Contracts of copseref01: Minus, Order. -/
namespace Go.Proofs.Yteenemdiokajbaa
open Go.RowKit

theorem minus_step (k : Nat) (l : List Int) (b x y X Y T r b' : Int) (hl : l.length = k) (h : val l - pw k * b + pw k * ((x + 65536 * X) - (y + 65536 * Y)) = T) (hr : x - y - b = r - 65536 * b') :
    val (l ++ [r]) - pw (k + 1) * b' + pw (k + 1) * (X - Y) = T := by
  rw [val_snoc, hl, pw_s, ← h]
  have e : r = x - y - b + 65536 * b' := by omega
  rw [e]
  grind
theorem minus_end (k : Nat) (l : List Int) (b Y T : Int) (hl : l.length = k) (hd : Dig l) (hb : 0 ≤ b) (hY : 0 ≤ Y) (hT : 0 ≤ T) (h : val l - pw k * b + pw k * (0 - Y) = T) : val l = T := by
  have h1 := val_lt hd
  rw [hl] at h1
  have hp := pw_pos k
  have h2 : pw k * (b + Y) < pw k * 1 := by
    rw [Int.mul_add, Int.mul_one]
    rw [Int.mul_sub, Int.mul_zero] at h
    omega
  have h3 : b + Y < 1 := by
    exact Int.lt_of_mul_lt_mul_left h2 (by omega)
  have h4 : b = 0 := by omega
  have h5 : Y = 0 := by omega
  rw [h4, h5] at h
  simpa using h

theorem owns_drewN {w : World} {b : Nat} {e : TypeId} {s : Nat} {v : Value} {n : Nat} {xs : List Value} (h : w.ownsRow b e s v n xs) (q : Nat) : (w.drewN q).ownsRow b e s v n xs := h
theorem below_drewN {B : Nat} {a w : World} (h : Below B a w) (n : Nat) : Below B a (w.drewN n) := ⟨h.os, h.tape, h.output, h.size, h.block⟩
/-- below, equal, above -/
def cmpI (x y : Int) : Int := if x < y then -1 else if x = y then 0 else 1
theorem len_mono {x y : Int} (hx : 0 ≤ x) (h : (digs x).length < (digs y).length) : x < y := by
  rcases Int.lt_or_le x y with h1 | h1
  · exact h1
  · have h2 := val_lt (dig_digs x)
    rw [val_digs x hx] at h2
    have := digs_len y (digs x).length (by omega)
    omega
theorem top_split (l : List Int) (k : Nat) (h : k < l.length) : val l = val (l.take k) + pw k * (l.getD k 0) + pw (k + 1) * val (l.drop (k + 1)) := by
  have h1 : l = l.take (k + 1) ++ l.drop (k + 1) := (List.take_append_drop _ _).symm
  have h2 : val l = val (l.take (k + 1)) + pw (k + 1) * val (l.drop (k + 1)) := by
    conv => lhs; rw [h1]
    rw [val_append, List.length_take, Nat.min_eq_left (by omega)]
  rw [h2, val_take l k h]
theorem top_lt (la lb : List Int) (k : Nat) (ha : k < la.length) (hb : k < lb.length) (da : Dig la) (hd : Dig lb) (he : la.drop (k + 1) = lb.drop (k + 1)) (h : la.getD k 0 < lb.getD k 0) : val la < val lb := by
  rw [top_split la k ha, top_split lb k hb, he]
  have h1 := val_lt (dig_take da k)
  rw [List.length_take, Nat.min_eq_left (by omega)] at h1
  have h2 := val_nonneg (dig_take hd k)
  have h3 : pw k * (la.getD k 0 + 1) ≤ pw k * lb.getD k 0 := Int.mul_le_mul_of_nonneg_left (by omega) (by have := pw_pos k; omega)
  rw [Int.mul_add, Int.mul_one] at h3
  omega

def Cmps (x y : Int) (w : World) (e : Ending) (w' : World) : Prop := e = .returned (.int .i64 (cmpI x y)) ∧ ∃ n, w' = w.drewN n
theorem drews2 (w : World) (a b : Nat) : ∃ n, (w.drewN a).drewN b = w.drewN n := ⟨_, World.drewN_drewN _ _ _⟩
theorem drews3 (w : World) (a b c : Nat) : ∃ n, ((w.drewN a).drewN b).drewN c = w.drewN n := by
  rw [World.drewN_drewN, World.drewN_drewN]; exact ⟨_, rfl⟩
end Go.Proofs.Yteenemdiokajbaa

/-! The contract of copseref01.Times. -/
namespace Go.Proofs.Yteenemdiokajbaa
open Go.RowKit

theorem val_zeros (n : Nat) : val (List.replicate n 0) = 0 := by
  induction n with
  | zero => rfl
  | succ n ih => rw [List.replicate_succ, val, ih]; rfl
theorem dig_zeros (n : Nat) : Dig (List.replicate n 0) := fun d hd => by
  rw [List.eq_of_mem_replicate hd]; omega
theorem made_zeros (n : Nat) : (madeCells (Value.int .i64 0).cells (n * 1)).toList = lits (List.replicate n 0) := by
  rw [Nat.mul_one]
  refine (toList_madeCells_one _ n).trans ?_
  simp [lits]
theorem times_step (i k : Nat) (l : List Int) (a y c T : Int) (hl : l.length = i + k) (h : val l + pw (i + k) * c = pw i * (a * T)) :
    val (l ++ [(a * y + c) % 65536]) + pw (i + (k + 1)) * ((a * y + c) / 65536) = pw i * (a * (T + pw k * y)) := by
  rw [val_snoc, hl, show i + (k + 1) = (i + k) + 1 from rfl, pw_s]
  have e : a * y + c = (a * y + c) / 65536 * 65536 + (a * y + c) % 65536 := by omega
  have ep : pw (i + k) = pw i * pw k := by unfold pw; rw [Int.pow_add]
  generalize (a * y + c) / 65536 = q at *
  generalize (a * y + c) % 65536 = r at *
  rw [ep] at h ⊢
  grind
theorem prod_bd16 (x y : Int) (hx : 0 ≤ x ∧ x < 65536) (hy : 0 ≤ y ∧ y < 65536) : 0 ≤ x * y ∧ x * y ≤ 4294836225 := by
  refine ⟨Int.mul_nonneg hx.1 hy.1, ?_⟩
  have := Int.mul_le_mul (by omega : x ≤ 65535) (by omega : y ≤ 65535) hy.1 (by omega : (0 : Int) ≤ 65535)
  simpa using this

def TrimsO (l : List Int) (w : World) (e : Ending) (w' : World) : Prop :=
  ∃ A c, e = .returned (.slice A (digs (val l)).length c) ∧ (digs (val l)).length ≤ c ∧ c ≤ maxLen ∧ Lies w w.heap.size A (digs (val l)) ∧ w = w'
theorem mul_lt_pw {a b : Int} {i m : Nat} (ha : 0 ≤ a) (ha' : a < pw i) (hb' : b < pw m) : a * b < pw (i + m) := by
  have e : pw (i + m) = pw i * pw m := by unfold pw; rw [Int.pow_add]
  rw [e]
  have h1 : a * b ≤ a * pw m := Int.mul_le_mul_of_nonneg_left (by omega) ha
  have h2 : a * pw m < pw i * pw m := Int.mul_lt_mul_of_pos_right ha' (pw_pos m)
  omega
end Go.Proofs.Yteenemdiokajbaa

/-! Contracts of copseref01: Int, Turn, Both, Product, Fits: numbers of any size, with their sign. -/
namespace Go.Proofs.Yteenemdiokajbaa
open Go.RowKit

/-- it gives the number of that sign and that size -/
def GivesW (neg : Bool) (m : Int) (w : World) (e : Ending) (w' : World) : Prop :=
  ∃ A c, e = .returned (.agg #[.bool neg, .slice A (digs m).length c]) ∧ (digs m).length ≤ c ∧ c ≤ maxLen ∧ Lies w' w'.heap.size A (digs m) ∧ Below w.heap.size w w'

theorem Box.drew {w : World} {g : Nat} {cs : Array Value} {t : TypeId} (h : Box w g cs t) : Box w.drew g cs t := h
theorem alloc_size (w : World) (o : Obj) : (w.alloc o).heap.size = w.heap.size + 1 := by simp
theorem drew_size (w : World) : w.drew.heap.size = w.heap.size := rfl
theorem setCell_size (w : World) (p : Addr) (u : Value) : (w.setCell p u).heap.size = w.heap.size := by simp [World.setCell]
/-- how a function ends that stores its result, a Whole, into the result's box -/
theorem gives_stored {neg : Bool} {m : Int} {w w' W : World} {g : Nat} {A A2 : Option Addr} {c n2 c2 : Nat} {b : Bool} {t : TypeId} (hc : (digs m).length ≤ c) (hm : c ≤ maxLen) (hL : Lies w' w'.heap.size A (digs m))
    (hx : Box w' g #[.bool b, .slice A2 n2 c2] t) (hb : Below w.heap.size w w') (hg : w.heap.size ≤ g) (hW : W = (w'.setCell ⟨g, 0, none⟩ (.bool neg)).setCell ⟨g, 1, none⟩ (.slice A (digs m).length c)) :
    GivesW neg m w (.returned (.agg #[.bool neg, .slice A (digs m).length c])) W := by
  subst hW
  refine ⟨A, c, rfl, hc, hm, ?_, ?_⟩
  · rw [setCell_size, setCell_size]; exact hL.stored hx _ _
  · exact (hb.setCell (p := ⟨g, 0, none⟩) hg _).setCell (p := ⟨g, 1, none⟩) hg _

/-! ### Both -/
theorem below_of_drew {W w' : World} (h : Below W.drew.heap.size W.drew w') : Below W.heap.size W w' := ⟨h.os, h.tape, h.output, h.size, h.block⟩
theorem below_of_drewN {W w' : World} (q : Nat) (h : Below (W.drewN q).drew.heap.size (W.drewN q).drew w') : Below W.heap.size W w' := ⟨h.os, h.tape, h.output, h.size, h.block⟩
end Go.Proofs.Yteenemdiokajbaa

/-! The contract of copseref01.Fits. -/
namespace Go.Proofs.Yteenemdiokajbaa
open Go.RowKit

def top : Int := 9223372036854775808
theorem val_drop_le {l : List Int} (h : Dig l) (k : Nat) : val (l.drop k) ≤ val l := by
  induction k generalizing l with
  | zero => rw [List.drop_zero]; exact Int.le_refl _
  | succ k ih =>
    cases l with
    | nil => simp
    | cons d l =>
      have hl : Dig l := fun x hx => h x (List.mem_cons_of_mem _ hx)
      have h1 := ih hl
      have h2 := (h d List.mem_cons_self).1
      have h3 := val_nonneg hl
      rw [List.drop_succ_cons, val]; omega

end Go.Proofs.Yteenemdiokajbaa

/-! Contracts of copseref01 by signed value: Both, Product, Turn, Int; Fits. -/
namespace Go.Proofs.Yteenemdiokajbaa
open Go.RowKit

/-- it is the sign of n (a nought may bear either) -/
def SgnOf (neg : Bool) (n : Int) : Prop := n ≠ 0 → neg = decide (n < 0)
def GivesZ (n : Int) (w : World) (e : Ending) (w' : World) : Prop :=
  ∃ neg A c, e = .returned (.agg #[.bool neg, .slice A (digs n.natAbs).length c]) ∧ SgnOf neg n ∧ Lies w' w'.heap.size A (digs n.natAbs) ∧ Below w.heap.size w w'
theorem givesZ_of {neg : Bool} {m n : Int} {w w' : World} {e : Ending} (h : GivesW neg m w e w') (hm : m = n.natAbs) (hs : SgnOf neg n) : GivesZ n w e w' := by
  obtain ⟨A, c, he, hc, _, hL, hb⟩ := h
  rw [hm] at he hL
  exact ⟨neg, A, c, he, hs, hL, hb⟩

end Go.Proofs.Yteenemdiokajbaa

/-! Contracts of copseref01: Add, Sub, Mul. -/
namespace Go.Proofs.Yteenemdiokajbaa
open Go.RowKit

theorem len_i64 {a : Int} (h : I64 a) : (digs a.natAbs).length ≤ 4 := digs_len _ 4 (by unfold I64 at h; unfold pw; omega)
theorem len_sum {a b : Int} (h : I64 a) (g : I64 b) : (digs (a + b).natAbs).length ≤ 5 := digs_len _ 5 (by unfold I64 at h g; unfold pw; omega)
theorem len_prod {a b : Int} (h : I64 a) (g : I64 b) : (digs (a * b).natAbs).length ≤ 8 := digs_len _ 8 (by have := mul_bd a b h g; unfold pw; omega)

end Go.Proofs.Yteenemdiokajbaa
