/- BigN BigW BigP BigQ BigT BigI BigF BigZ BigA -/
import Derived.WalkKit
import Derived.Test.YtaeodkpkgbjaeaaBase
import Derived.Deep.RegionHeld3

/-! Plain arithmetic of digits of base 65536, the lowest first: no Go in sight. -/
namespace Go.Proofs.Ytaeodkpkgbjaeaa

/-- the digits of a number from 0 on, without noughts at the top -/
def digs (n : Int) : List Int := if h : n ≤ 0 then [] else n % 65536 :: digs (n / 65536)
termination_by n.toNat
decreasing_by omega
/-- what digits say -/
def val : List Int → Int
  | [] => 0
  | d :: l => d + 65536 * val l
def Dig (l : List Int) : Prop := ∀ d ∈ l, 0 ≤ d ∧ d < 65536
def pw (k : Nat) : Int := 65536 ^ k

theorem digs_0 {n : Int} (h : n ≤ 0) : digs n = [] := by rw [digs, dif_pos h]
theorem digs_s {n : Int} (h : 0 < n) : digs n = n % 65536 :: digs (n / 65536) := by rw [digs, dif_neg (by omega)]
theorem val_digs (n : Int) (h : 0 ≤ n) : val (digs n) = n := by
  by_cases h0 : n = 0
  · subst h0; rw [digs_0 (by omega)]; rfl
  · rw [digs_s (by omega), val, val_digs (n / 65536) (by omega)]; omega
termination_by n.toNat
decreasing_by omega
theorem dig_digs (n : Int) : Dig (digs n) := by
  by_cases h0 : n ≤ 0
  · rw [digs_0 h0]; intro d hd; cases hd
  · rw [digs_s (by omega)]
    intro d hd
    rcases List.mem_cons.1 hd with rfl | hd
    · omega
    · exact dig_digs (n / 65536) d hd
termination_by n.toNat
decreasing_by omega
theorem pw_0 : pw 0 = 1 := rfl
theorem pw_s (k : Nat) : pw (k + 1) = pw k * 65536 := by unfold pw; rw [Int.pow_succ]
theorem pw_pos (k : Nat) : 0 < pw k := by
  induction k with
  | zero => decide
  | succ k ih => rw [pw_s]; omega
theorem pw_mono {a b : Nat} (h : a ≤ b) : pw a ≤ pw b := by
  induction b with
  | zero => rw [Nat.le_zero.1 h]; exact Int.le_refl _
  | succ b ih =>
    rcases Nat.lt_or_ge b a with h1 | h1
    · rw [show a = b + 1 from by omega]; exact Int.le_refl _
    · have := ih h1
      have := pw_pos b
      rw [pw_s b]; omega
theorem val_nonneg {l : List Int} (h : Dig l) : 0 ≤ val l := by
  induction l with
  | nil => exact Int.le_refl _
  | cons d l ih =>
    have := ih fun x hx => h x (List.mem_cons_of_mem _ hx)
    have := (h d List.mem_cons_self).1
    rw [val]; omega
theorem val_lt {l : List Int} (h : Dig l) : val l < pw l.length := by
  induction l with
  | nil => decide
  | cons d l ih =>
    have := ih fun x hx => h x (List.mem_cons_of_mem _ hx)
    have := (h d List.mem_cons_self).2
    rw [val, List.length_cons, pw_s]; omega
theorem val_append (a b : List Int) : val (a ++ b) = val a + pw a.length * val b := by
  induction a with
  | nil => simp [val, pw]
  | cons d a ih =>
    rw [List.cons_append, val, val, ih, List.length_cons, pw_s]
    grind
theorem val_snoc (a : List Int) (d : Int) : val (a ++ [d]) = val a + pw a.length * d := by
  rw [val_append]; simp [val]
theorem val_take (l : List Int) (k : Nat) (h : k < l.length) : val (l.take (k + 1)) = val (l.take k) + pw k * l.getD k 0 := by
  rw [List.take_succ_eq_append_getElem h, val_snoc, List.length_take, Nat.min_eq_left (by omega)]
  simp [List.getD, h]
theorem val_drop (l : List Int) (k : Nat) (h : k < l.length) : val (l.drop k) = l.getD k 0 + 65536 * val (l.drop (k + 1)) := by
  rw [List.drop_eq_getElem_cons h, val]
  simp [List.getD, h]
theorem val_drop_ge (l : List Int) (k : Nat) (h : l.length ≤ k) : val (l.drop k) = 0 := by
  rw [List.drop_eq_nil_of_le h]; rfl
theorem dig_take {l : List Int} (h : Dig l) (k : Nat) : Dig (l.take k) := fun d hd => h d (List.mem_of_mem_take hd)
theorem dig_drop {l : List Int} (h : Dig l) (k : Nat) : Dig (l.drop k) := fun d hd => h d (List.mem_of_mem_drop hd)
theorem dig_snoc {l : List Int} (h : Dig l) {d : Int} (h0 : 0 ≤ d) (h1 : d < 65536) : Dig (l ++ [d]) := fun x hx => by
  rcases List.mem_append.1 hx with h2 | h2
  · exact h x h2
  · rw [List.mem_singleton.1 h2]; exact ⟨h0, h1⟩
theorem dig_getD {l : List Int} (h : Dig l) (k : Nat) : 0 ≤ l.getD k 0 ∧ l.getD k 0 < 65536 := by
  by_cases hk : k < l.length
  · rw [List.getD_eq_getElem?_getD, List.getElem?_eq_getElem hk]; exact h _ (List.getElem_mem _)
  · rw [List.getD_eq_getElem?_getD, List.getElem?_eq_none (by omega)]; simp
/-- digits without a nought at the top are the digits of what they say -/
theorem digs_val {l : List Int} (h : Dig l) (ht : l = [] ∨ l.getD (l.length - 1) 0 ≠ 0) : digs (val l) = l := by
  induction l with
  | nil => rw [val, digs_0 (by omega)]
  | cons d l ih =>
    have hd := h d List.mem_cons_self
    have hl : Dig l := fun x hx => h x (List.mem_cons_of_mem _ hx)
    have hv := val_nonneg hl
    cases l with
    | nil =>
      have h0 : d ≠ 0 := by
        rcases ht with ht | ht
        · cases ht
        · simpa using ht
      rw [val, val, digs_s (by omega)]
      have e1 : (d + 65536 * 0) % 65536 = d := by omega
      have e2 : (d + 65536 * 0) / 65536 = 0 := by omega
      rw [e1, e2, digs_0 (by omega)]
    | cons e m =>
      have ih' := ih hl (.inr (by
        rcases ht with ht | ht
        · cases ht
        · simpa [List.length_cons] using ht))
      have hp : 0 < val (e :: m) := by
        rcases Int.lt_or_le 0 (val (e :: m)) with h0 | h0
        · exact h0
        · rw [digs_0 h0] at ih'; cases ih'
      rw [val, digs_s (by omega)]
      have e1 : (d + 65536 * val (e :: m)) % 65536 = d := by omega
      have e2 : (d + 65536 * val (e :: m)) / 65536 = val (e :: m) := by omega
      rw [e1, e2, ih']
/-- at the top of digits there is no nought -/
theorem digs_top (n : Int) (h : 0 < n) : (digs n).getD ((digs n).length - 1) 0 ≠ 0 := by
  rw [digs_s h]
  by_cases h1 : n / 65536 = 0
  · rw [h1, digs_0 (by omega)]; simp; omega
  · have ih := digs_top (n / 65536) (by omega)
    have hne : (digs (n / 65536)).length ≠ 0 := by
      intro h2
      rw [List.length_eq_zero_iff] at h2
      rw [digs_s (by omega)] at h2
      cases h2
    have : (n % 65536 :: digs (n / 65536)).length - 1 = ((digs (n / 65536)).length - 1) + 1 := by rw [List.length_cons]; omega
    rw [this, List.getD_cons_succ]
    exact ih
termination_by n.toNat
decreasing_by omega
theorem digs_len (n : Int) (k : Nat) (h : n < pw k) : (digs n).length ≤ k := by
  induction k generalizing n with
  | zero => rw [digs_0 (by rw [pw_0] at h; omega)]; exact Nat.le_refl _
  | succ k ih =>
    by_cases h0 : n ≤ 0
    · rw [digs_0 h0]; exact Nat.zero_le _
    · rw [digs_s (by omega), List.length_cons]
      have := ih (n / 65536) (by rw [pw_s] at h; omega)
      omega
theorem digs_len_ge (n : Int) (k : Nat) (h : pw k ≤ n) : k < (digs n).length := by
  have h1 := val_lt (dig_digs n)
  rw [val_digs n (by have := pw_pos k; omega)] at h1
  rcases Nat.lt_or_ge k (digs n).length with h2 | h2
  · exact h2
  · have h3 : pw (digs n).length ≤ pw k := pw_mono h2
    omega
end Go.Proofs.Ytaeodkpkgbjaeaa

/-! Contracts of package copseref01: digits of base 65536 in memory. -/
namespace Go.Proofs.Ytaeodkpkgbjaeaa
open Go.RowKit

def lits (l : List Int) : List Value := l.map (Value.int .i64)
theorem lits_len (l : List Int) : (lits l).length = l.length := by simp [lits]
theorem lits_snoc (l : List Int) (d : Int) : lits l ++ [Value.int .i64 d] = lits (l ++ [d]) := by simp [lits]
theorem lits_get (l : List Int) (j : Nat) (h : j < l.length) : (lits l)[j]? = some (.int .i64 (l.getD j 0)) := by
  simp [lits, List.getD, h]
/-- a row of the call's own lies as a list -/
theorem lies_own {w : World} {base : Nat} {e : TypeId} {v : Value} {l : List Int} (h : w.ownsRow base e 1 v l.length (lits l)) :
    ∃ A c, v = .slice A l.length c ∧ l.length ≤ c ∧ c ≤ maxLen ∧ Lies w w.heap.size A l := by
  rcases h.2 with ⟨rfl, h0⟩ | ⟨g, cap, cur, rfl, hb, hh, hnc, hm, hsz, hx⟩
  · rw [h0]
    exact ⟨none, 0, rfl, by omega, by unfold maxLen; omega, fun h1 => absurd h1 (by omega)⟩
  · refine ⟨_, cap, rfl, hnc, hm, fun _ => ⟨⟨g, 0, none⟩, rfl, ?_, fun j hj => ?_⟩⟩
    · rcases Nat.lt_or_ge g w.heap.size with hlt | hge
      · exact hlt
      · rw [Array.getElem?_eq_none hge] at hh; cases hh
    · have h1 : (⟨g, 0, none⟩ : Addr).add j = ⟨g, j, none⟩ := by unfold Addr.add; split <;> simp_all
      rw [h1]
      refine (cell_of_row w g j _ _ (0, 0) hh).trans ?_
      rw [← lits_get l j hj, ← hx, List.getElem?_take]
      simp
      intro h2; omega

/-- it gives the digits of n -/
def Gives (n : Int) (w : World) (e : Ending) (w' : World) : Prop :=
  ∃ A c, e = .returned (.slice A (digs n).length c) ∧ (digs n).length ≤ c ∧ c ≤ maxLen ∧ Lies w' w'.heap.size A (digs n) ∧ Below w.heap.size w w'

theorem info_int : (Try.prog.info? 3).map (fun i => (i.zero, i.size, i.bytes)) = some (some (.int .i64 0), 1, 8) := by kernel_rfl

theorem lies_at {w : World} {B : Nat} {A : Option Addr} {l : List Int} (h : Lies w B A l) {k : Nat} (hk : k < l.length) :
    ∃ ad : Addr, A = some ad ∧ ad.block < B ∧ w.cell? (ad.add k) = some (.int .i64 (l.getD k 0)) := by
  obtain ⟨ad, e, hb, hc⟩ := h (by omega)
  exact ⟨ad, e, hb, hc k hk⟩
/-- one number more onto a row of the call's own -/
theorem app_one {B : Nat} {wr : World} {ops : Array Oper} {rest : List Oper} {o : Oper} {a : Act} {Q : Exit → Act → World → Prop} (hgd : o.guard = none) (s x : Operand)
    (ho : o.op = .call { callee := .builtin .append, args := #[s, x], argTypes := #[251, 251] })
    (v : Value) (l : List Int) (d : Int) (hs : a.eval s = v) (hown : wr.ownsRow B 3 1 v l.length (lits l)) (hx : a.eval x = .slice (some ⟨wr.heap.size, 0, none⟩) 1 1)
    (hB : B ≤ wr.heap.size) (hn : l.length + 1 ≤ 1000000000)
    (h : ∀ v' w', w'.ownsRow B 3 1 v' (l ++ [d]).length (lits (l ++ [d])) → Below B wr w' → wpList Try.prog ops Q rest (a.put o.dst v') w') :
    wpList Try.prog ops Q (o :: rest) a (wr.alloc (.cells #[.int .i64 d] 3)) := by
  obtain ⟨i0, hi, hz0, hz1, hz2⟩ := info_parts info_int
  refine wpList_append_own _ hgd s x 251 ho B 3 i0 (.int .i64 0) 1 8 Try.underlying251 hi hz0 hz1 hz2 rfl (by decide) v l.length (lits l) hs (hown.alloc _) ⟨wr.heap.size, 0, none⟩ 1 1 [.int .i64 d] hx rfl ?_ ?_ ?_ ?_ ?_ ?_
  · intro j u hj
    cases j with
    | zero =>
      simp only [List.getElem?_cons_zero] at hj
      rw [← hj]
      exact cell_of_row _ _ 0 _ _ (0, 0) (heap_alloc_new wr _)
    | succ j => simp at hj
  · intro u hu; rw [List.mem_singleton.1 hu]; rfl
  · unfold maxLen; omega
  · omega
  · simp; omega
  · intro v' w' h1 h2 _
    refine h v' w' ?_ ?_
    · rw [List.length_append, ← lits_snoc]; exact h1
    · refine ((Below.refl _ _).alloc hB _).grown h2 (by simp; omega) fun k hk => ?_
      rcases hown.2 with ⟨rfl, _⟩ | ⟨g, cap, cur, rfl, hg, _⟩
      · simp [Value.ownBlock] at hk
      · simp only [Value.ownBlock, Option.some.injEq] at hk; omega

theorem ref_of (n : Int) (hn : U64 n) (w : World) : Calls Try.prog 222 #[.int .u64 n] w (Gives n w) := by
  have hlen : (digs n).length ≤ 4 := digs_len n 4 (by unfold U64 at hn; unfold pw; omega)
  obtain ⟨hn0, hn1⟩ := hn
  go_enter Try.func222, Try.ntmps222
  go_wp2
  go_loopw [0, 3] (fun nv v wr => ∃ (m : Int) (l : List Int), nv = .int .u64 m ∧ 0 ≤ m ∧ m < 18446744073709551616 ∧ Hid (digs n = l ++ digs m) ∧ l.length ≤ 4 ∧ wr.ownsRow w.heap.size 3 1 v l.length (lits l) ∧ Below w.heap.size w wr) (fun nv _ _ => (intOf nv).toNat)
  case atStart => exact ⟨n, [], rfl, hn0, hn1, rfl, by simp, ⟨by simp [lits], .inl ⟨rfl, rfl⟩⟩, Below.refl _ _⟩
  case round =>
    obtain ⟨m, l, rfl, hm0, hm1, HD, hl4, hown, hb⟩ := hrel
    by_cases h0 : 0 < m
    · have HD' : Hid (digs n = (l ++ [m % 65536]) ++ digs (m / 65536)) := by
        have h := HD.out
        rw [digs_s h0] at h
        show _ = _
        rw [h, List.append_assoc]; rfl
      have hl5 : (l ++ [m % 65536]).length ≤ 4 := by
        have h := congrArg List.length HD'.out
        rw [List.length_append] at h
        omega
      have hbs := hb.size
      have hr0 : 0 ≤ m % 65536 := by omega
      have hr1 : m % 65536 < 65536 := by omega
      go_wp2_with (at_builtin; refine app_one rfl (.tmp 6) (.tmp 10) rfl _ l (m % 65536) rfl hown rfl hbs (by omega) ?_; intro v' w1 hown' hb1)
      exact ⟨⟨_, _, rfl, by omega, by omega, HD', hl5, hown', hb.trans hb1⟩, by simp [intOf]; omega⟩
    · have HD' : Hid (digs n = l) := by
        have h := HD.out
        rw [digs_0 (n := m) (by omega), List.append_nil] at h
        exact h
      go_wp2
      go_ret
      obtain ⟨A, c, rfl, hc, hm, hL⟩ := lies_own hown
      rw [← HD'.out] at hc hL ⊢
      exact ⟨A, c, rfl, hc, hm, hL, hb⟩
end Go.Proofs.Ytaeodkpkgbjaeaa

/-! Contracts of copseref01: digit, trim, Plus. -/
namespace Go.Proofs.Ytaeodkpkgbjaeaa
open Go.RowKit

theorem ref_digit (A : Option Addr) (l : List Int) (c i B : Nat) (w : World) (hA : Lies w B A l) :
    Calls Try.prog 250 #[.slice A l.length c, .int .i64 i] w fun e w' => e = .returned (.int .i64 (l.getD i 0)) ∧ w = w' := by
  by_cases h : i < l.length
  · obtain ⟨ad, rfl, hb, hc⟩ := lies_at hA h
    clear hA
    generalize l.getD i 0 = x at *
    generalize l.length = n at *
    go_enter Try.func250, Try.ntmps250
    go_wp2
    go_ret
    exact ⟨rfl, rfl⟩
  · have h0 : Hid (l.getD i 0 = 0) := by
      show _ = _
      rw [List.getD_eq_getElem?_getD, List.getElem?_eq_none (by omega)]; rfl
    generalize l.length = n at *
    clear hA
    go_enter Try.func250, Try.ntmps250
    go_wp2
    go_ret
    exact ⟨ret1i h0.out.symm, rfl⟩

/-- the digits of what l says, in the front of where l lies -/
def Trims (l : List Int) (c B : Nat) (w : World) (e : Ending) (w' : World) : Prop :=
  ∃ A, e = .returned (.slice A (digs (val l)).length c) ∧ (digs (val l)).length ≤ c ∧ Lies w B A (digs (val l)) ∧ w = w'
theorem lies_take {w : World} {B : Nat} {A : Option Addr} {l : List Int} (h : Lies w B A l) (k : Nat) : Lies w B A (l.take k) := fun h0 => by
  rw [List.length_take] at h0
  obtain ⟨ad, e, hb, hc⟩ := h (by omega)
  refine ⟨ad, e, hb, fun j hj => ?_⟩
  rw [List.length_take] at hj
  rw [hc j (by omega), List.getD_eq_getElem?_getD, List.getD_eq_getElem?_getD, List.getElem?_take, if_pos (by omega)]
theorem trims_mk {A : Option Addr} {l : List Int} {c B k : Nat} {w : World} (hA : Lies w B A l) (hk : k ≤ l.length) (hd : Dig l) (hc : l.length ≤ c) (hv : val (l.take k) = val l) (ht : k = 0 ∨ l.getD (k - 1) 0 ≠ 0) :
    Trims l c B w (.returned (.slice A k c)) w := by
  have he : digs (val l) = l.take k := by
    rw [← hv]
    refine digs_val (dig_take hd k) ?_
    rcases ht with rfl | ht
    · exact .inl (List.take_zero)
    · rcases Nat.eq_zero_or_pos k with rfl | h0
      · exact .inl (List.take_zero)
      · refine .inr ?_
        rw [List.length_take, Nat.min_eq_left hk, List.getD_eq_getElem?_getD, List.getElem?_take, if_pos (by omega), ← List.getD_eq_getElem?_getD]
        exact ht
  have hl : (digs (val l)).length = k := by rw [he, List.length_take, Nat.min_eq_left hk]
  refine ⟨A, by rw [hl], by omega, by rw [he]; exact lies_take hA k, rfl⟩
theorem ref_trim (A : Option Addr) (l : List Int) (c B : Nat) (w : World) (hA : Lies w B A l) (hd : Dig l) (hl : l.length ≤ 1000000000) (hc : l.length ≤ c) :
    Calls Try.prog 251 #[.slice A l.length c] w (Trims l c B w) := by
  have HD := Lib.hid hd
  clear hd
  generalize hN : l.length = N at *
  have HN := Lib.hid hN
  clear hN
  go_enter Try.func251, Try.ntmps251
  go_wp2
  go_loop [3] (fun i => ∃ k : Nat, k ≤ N ∧ i = .int .i64 k ∧ Hid (val (l.take k) = val l)) (fun i => (intOf i).toNat)
  case atStart => exact ⟨N, by omega, rfl, by have := HN.out; show _ = _; rw [List.take_of_length_le (by omega)]⟩
  case round =>
    obtain ⟨k, hk, rfl, HV⟩ := hrel
    rcases Nat.eq_zero_or_pos k with rfl | hk0
    · go_wp2
      go_ret
      exact trims_mk hA (by omega) HD.out (by have := HN.out; omega) HV.out (.inl rfl)
    · obtain ⟨j, rfl⟩ : ∃ j, k = j + 1 := ⟨k - 1, by omega⟩
      obtain ⟨ad, rfl, hb, hcell⟩ := lies_at hA (k := j) (by have := HN.out; omega)
      by_cases hz : l.getD j 0 = 0
      · have HV' : Hid (val (l.take j) = val l) := by
          have := HV.out
          rw [val_take l j (by have := HN.out; omega), hz] at this
          show _ = _
          omega
        rw [hz] at hcell
        clear hz
        go_wp2
        exact ⟨⟨j, by omega, rfl, HV'⟩, by simp [intOf]⟩
      · have HZ := Lib.hid hz
        have hz2 : (l.getD j 0 == 0) = false := by simpa using hz
        clear hz
        generalize l.getD j 0 = x at hcell hz2
        go_wp2
        go_ret
        exact trims_mk (k := j + 1) hA (by have := HN.out; omega) HD.out (by have := HN.out; omega) HV.out (.inr (by simpa using HZ.out))

theorem plus_step (k : Nat) (l : List Int) (c x y X Y T : Int) (hl : l.length = k) (h : val l + pw k * (c + (x + 65536 * X) + (y + 65536 * Y)) = T) :
    val (l ++ [(x + y + c) % 65536]) + pw (k + 1) * ((x + y + c) / 65536 + X + Y) = T := by
  rw [val_snoc, hl, pw_s, ← h]
  have e : x + y + c = (x + y + c) / 65536 * 65536 + (x + y + c) % 65536 := by omega
  generalize (x + y + c) / 65536 = q at *
  generalize (x + y + c) % 65536 = r at *
  have : c + (x + 65536 * X) + (y + 65536 * Y) = (q * 65536 + r) + 65536 * X + 65536 * Y := by omega
  rw [this]
  grind

theorem ref_plus (A A2 : Option Addr) (la lb : List Int) (ca cb : Nat) (w : World) (hA : Lies w w.heap.size A la) (hB : Lies w w.heap.size A2 lb) (da : Dig la) (db : Dig lb) (hl : la.length + lb.length ≤ 100000000) :
    Calls Try.prog 224 #[.slice A la.length ca, .slice A2 lb.length cb] w (Gives (val la + val lb) w) := by
  have DA := Lib.hid da
  have DB := Lib.hid db
  clear da db
  generalize hN : la.length = N at *
  have HN := Lib.hid hN
  clear hN
  generalize hM : lb.length = M at *
  have HM := Lib.hid hM
  clear hM
  go_enter Try.func224, Try.ntmps224
  go_wp2
  go_loopw [5, 6, 7] (fun v cv iv wr => ∃ (k : Nat) (l : List Int) (c : Int), iv = .int .i64 k ∧ cv = .int .i64 c ∧ 0 ≤ c ∧ c ≤ 1 ∧ (k : Int) + c ≤ N + M + 1 ∧ Hid (l.length = k) ∧ Dig l ∧ Hid (val l + pw k * (c + val (la.drop k) + val (lb.drop k)) = val la + val lb) ∧ wr.ownsRow w.heap.size 3 1 v l.length (lits l) ∧ Below w.heap.size w wr)
    (fun _ cv iv _ => 2 * (N + M + 1 - (intOf iv).toNat) + (intOf cv).toNat)
  case atStart => exact ⟨0, [], 0, rfl, rfl, by omega, by omega, by omega, rfl, (fun _ h => by cases h), (by show _ = _; simp [val, pw]), ⟨by simp [lits], .inl ⟨rfl, rfl⟩⟩, Below.refl _ _⟩
  case round =>
    obtain ⟨k, l, c, rfl, rfl, hc0, hc1, hkc, HL, HD, HV, hown, hb⟩ := hrel
    have hbs := hb.size
    have hlk : l.length ≤ 100000002 := by have := HL.out; omega
    by_cases hgo : k < N ∨ k < M ∨ 0 < c
    · have hx := dig_getD DA.out k
      have hy := dig_getD DB.out k
      have HS : Hid (val (l ++ [(la.getD k 0 + lb.getD k 0 + c) % 65536]) + pw (k + 1) * ((la.getD k 0 + lb.getD k 0 + c) / 65536 + val (la.drop (k + 1)) + val (lb.drop (k + 1))) = val la + val lb) := by
        refine plus_step k l c _ _ _ _ _ HL.out ?_
        have e1 : val (la.drop k) = la.getD k 0 + 65536 * val (la.drop (k + 1)) := by
          by_cases h : k < la.length
          · exact val_drop la k h
          · rw [val_drop_ge la k (by omega), val_drop_ge la (k + 1) (by omega), List.getD_eq_getElem?_getD, List.getElem?_eq_none (by omega)]; rfl
        have e2 : val (lb.drop k) = lb.getD k 0 + 65536 * val (lb.drop (k + 1)) := by
          by_cases h : k < lb.length
          · exact val_drop lb k h
          · rw [val_drop_ge lb k (by omega), val_drop_ge lb (k + 1) (by omega), List.getD_eq_getElem?_getD, List.getElem?_eq_none (by omega)]; rfl
        rw [← e1, ← e2]; exact HV.out
      have H1 := Lib.hid (fun w' => ref_digit A la ca k w.heap.size w' )
      have H2 := Lib.hid (fun w' => ref_digit A2 lb cb k w.heap.size w' )
      have HLa := Lib.hid (hA.below hb)
      have HLb := Lib.hid (hB.below hb)
      have hN := HN.out
      have hM := HM.out
      rw [hN] at H1
      rw [hM] at H2
      have HX : Hid (la.getD k 0 = 0 ∨ k < N) := by
        show _ ∨ _
        by_cases h : k < N
        · exact .inr h
        · left; rw [List.getD_eq_getElem?_getD, List.getElem?_eq_none (by omega)]; rfl
      have HY : Hid (lb.getD k 0 = 0 ∨ k < M) := by
        show _ ∨ _
        by_cases h : k < M
        · exact .inr h
        · left; rw [List.getD_eq_getElem?_getD, List.getElem?_eq_none (by omega)]; rfl
      clear hA hB hN hM
      generalize la.getD k 0 = x at *
      generalize lb.getD k 0 = y at *
      have HL' : Hid ((l ++ [(x + y + c) % 65536]).length = k + 1) := by show _ = _; rw [List.length_append, HL.out]; rfl
      have HD' : Dig (l ++ [(x + y + c) % 65536]) := dig_snoc HD (by omega) (by omega)
      by_cases h1 : k < N
      · go_wp2_with (first | (go_at_call 250; ((with_reducible refine (H1.out _ HLa.out).mono ?_); rintro e w' ⟨rfl, rfl⟩)) | (go_at_call 250; ((with_reducible refine (H2.out _ HLb.out).mono ?_); rintro e w' ⟨rfl, rfl⟩)) | (at_builtin; refine app_one rfl (.tmp 34) (.tmp 37) rfl _ l ((x + y + c) % 65536) rfl hown rfl hbs (by omega) ?_; intro v' w1 hown' hb1))
        exact ⟨⟨k + 1, _, _, by go_num, rfl, by omega, by omega, (by have := HX.out; have := HY.out; omega), HL', HD', HS, hown', hb.trans hb1⟩, (by have := HX.out; have := HY.out; simp [intOf]; omega)⟩
      · by_cases h2 : k < M
        · go_wp2_with (first | (go_at_call 250; ((with_reducible refine (H1.out _ HLa.out).mono ?_); rintro e w' ⟨rfl, rfl⟩)) | (go_at_call 250; ((with_reducible refine (H2.out _ HLb.out).mono ?_); rintro e w' ⟨rfl, rfl⟩)) | (at_builtin; refine app_one rfl (.tmp 34) (.tmp 37) rfl _ l ((x + y + c) % 65536) rfl hown rfl hbs (by omega) ?_; intro v' w1 hown' hb1))
          exact ⟨⟨k + 1, _, _, by go_num, rfl, by omega, by omega, (by have := HX.out; have := HY.out; omega), HL', HD', HS, hown', hb.trans hb1⟩, (by have := HX.out; have := HY.out; simp [intOf]; omega)⟩
        · have h3 : 0 < c := by omega
          go_wp2_with (first | (go_at_call 250; ((with_reducible refine (H1.out _ HLa.out).mono ?_); rintro e w' ⟨rfl, rfl⟩)) | (go_at_call 250; ((with_reducible refine (H2.out _ HLb.out).mono ?_); rintro e w' ⟨rfl, rfl⟩)) | (at_builtin; refine app_one rfl (.tmp 34) (.tmp 37) rfl _ l ((x + y + c) % 65536) rfl hown rfl hbs (by omega) ?_; intro v' w1 hown' hb1))
          exact ⟨⟨k + 1, _, _, by go_num, rfl, by omega, by omega, (by have := HX.out; have := HY.out; omega), HL', HD', HS, hown', hb.trans hb1⟩, (by have := HX.out; have := HY.out; simp [intOf]; omega)⟩
    · have h1 : ¬ k < N := by omega
      have h2 : ¬ k < M := by omega
      have h3 : ¬ 0 < c := by omega
      have HE : Hid (val l = val la + val lb) := by
        have h := HV.out
        have hN := HN.out
        have hM := HM.out
        rw [val_drop_ge la k (by omega), val_drop_ge lb k (by omega), show c = 0 from by omega] at h
        show _ = _
        rw [← h]; simp
      obtain ⟨A', c', rfl, hc', hm', hL'⟩ := lies_own hown
      clear hA hB
      go_wp2_with (go_at_call 251; refine (ref_trim A' l c' wr.heap.size _ hL' HD (by omega) hc').mono ?_; rintro e w' ⟨A3, rfl, hc3, hL3, rfl⟩)
      go_ret
      rw [HE.out] at hc3 hL3 ⊢
      exact ⟨A3, c', rfl, hc3, hm', hL3, hb⟩
end Go.Proofs.Ytaeodkpkgbjaeaa

/-! Contracts of copseref01: Minus, Order. -/
namespace Go.Proofs.Ytaeodkpkgbjaeaa
open Go.RowKit

theorem minus_step (k : Nat) (l : List Int) (b x y X Y T r b' : Int) (hl : l.length = k) (h : val l - pw k * b + pw k * ((x + 65536 * X) - (y + 65536 * Y)) = T) (hr : x - y - b = r - 65536 * b') :
    val (l ++ [r]) - pw (k + 1) * b' + pw (k + 1) * (X - Y) = T := by
  rw [val_snoc, hl, pw_s, ← h]
  have e : r = x - y - b + 65536 * b' := by omega
  rw [e]
  grind
theorem minus_end (k : Nat) (l : List Int) (b Y T : Int) (hl : l.length = k) (hd : Dig l) (hb : 0 ≤ b) (hY : 0 ≤ Y) (hT : 0 ≤ T) (h : val l - pw k * b + pw k * (0 - Y) = T) : val l = T := by
  have h1 := val_lt hd
  rw [hl] at h1
  have hp := pw_pos k
  have h2 : pw k * (b + Y) < pw k * 1 := by
    rw [Int.mul_add, Int.mul_one]
    rw [Int.mul_sub, Int.mul_zero] at h
    omega
  have h3 : b + Y < 1 := by
    exact Int.lt_of_mul_lt_mul_left h2 (by omega)
  have h4 : b = 0 := by omega
  have h5 : Y = 0 := by omega
  rw [h4, h5] at h
  simpa using h

theorem owns_drewN {w : World} {b : Nat} {e : TypeId} {s : Nat} {v : Value} {n : Nat} {xs : List Value} (h : w.ownsRow b e s v n xs) (q : Nat) : (w.drewN q).ownsRow b e s v n xs := h
theorem below_drewN {B : Nat} {a w : World} (h : Below B a w) (n : Nat) : Below B a (w.drewN n) := ⟨h.os, h.tape, h.output, h.size, h.block⟩
theorem ref_minus (A A2 : Option Addr) (la lb : List Int) (ca cb : Nat) (w : World) (hA : Lies w w.heap.size A la) (hB : Lies w w.heap.size A2 lb) (da : Dig la) (db : Dig lb) (hl : la.length ≤ 100000000) (hle : val lb ≤ val la) :
    Calls Try.prog 225 #[.slice A la.length ca, .slice A2 lb.length cb] w (Gives (val la - val lb) w) := by
  have DA := Lib.hid da
  have DB := Lib.hid db
  have HLE := Lib.hid hle
  clear da db hle
  generalize hN : la.length = N at *
  have HN := Lib.hid hN
  clear hN
  generalize hM : lb.length = M at *
  have HM := Lib.hid hM
  clear hM
  go_enter Try.func225, Try.ntmps225
  go_wp2
  go_loopw [5, 6, 7] (fun v bv iv wr => ∃ (k : Nat) (l : List Int) (b : Int), iv = .int .i64 k ∧ bv = .int .i64 b ∧ 0 ≤ b ∧ b ≤ 1 ∧ k ≤ N ∧ Hid (l.length = k) ∧ Dig l ∧ Hid (val l - pw k * b + pw k * (val (la.drop k) - val (lb.drop k)) = val la - val lb) ∧ wr.ownsRow w.heap.size 3 1 v l.length (lits l) ∧ Below w.heap.size w wr)
    (fun _ _ iv _ => N - (intOf iv).toNat)
  case atStart => exact ⟨0, [], 0, rfl, rfl, by omega, by omega, by omega, rfl, (fun _ h => by cases h), (by show _ = _; simp [val, pw]), ⟨by simp [lits], .inl ⟨rfl, rfl⟩⟩, Below.refl _ _⟩
  case round =>
    obtain ⟨k, l, b, rfl, rfl, hb0, hb1, hkN, HL, HD, HV, hown, hb⟩ := hrel
    have hbs := hb.size
    have hlk : l.length ≤ 100000002 := by have := HL.out; omega
    by_cases hgo : k < N
    · have hx := dig_getD DA.out k
      have hy := dig_getD DB.out k
      have HS : Hid (∀ r b', la.getD k 0 - lb.getD k 0 - b = r - 65536 * b' → val (l ++ [r]) - pw (k + 1) * b' + pw (k + 1) * (val (la.drop (k + 1)) - val (lb.drop (k + 1))) = val la - val lb) := by
        intro r b' hr
        refine minus_step k l b _ _ _ _ _ r b' HL.out ?_ hr
        have e1 : val (la.drop k) = la.getD k 0 + 65536 * val (la.drop (k + 1)) := val_drop la k (by have := HN.out; omega)
        have e2 : val (lb.drop k) = lb.getD k 0 + 65536 * val (lb.drop (k + 1)) := by
          by_cases h : k < lb.length
          · exact val_drop lb k h
          · rw [val_drop_ge lb k (by omega), val_drop_ge lb (k + 1) (by omega), List.getD_eq_getElem?_getD, List.getElem?_eq_none (by omega)]; rfl
        rw [← e1, ← e2]; exact HV.out
      have H2 := Lib.hid (fun w' => ref_digit A2 lb cb k w.heap.size w')
      have HLb := Lib.hid (hB.below hb)
      obtain ⟨ad, rfl, hadb, hcell⟩ := lies_at (hA.below hb) (k := k) (by have := HN.out; omega)
      rw [HM.out] at H2
      clear hA hB
      generalize la.getD k 0 = x at *
      generalize lb.getD k 0 = y at *
      by_cases hneg : x - y - b < 0
      · have HL' : Hid ((l ++ [x - y - b + 65536]).length = k + 1) := by show _ = _; rw [List.length_append, HL.out]; rfl
        have HD' : Dig (l ++ [x - y - b + 65536]) := dig_snoc HD (by omega) (by omega)
        have HS' := Lib.hid (HS.out (x - y - b + 65536) 1 (by omega))
        clear HS
        go_wp2_with fail
        go_quiet ((go_at_call 250; exact Calls.quiet_of_same (still_of (H2.out _ HLb.out))))
        have hown2 := owns_drewN hown nq
        have hbs2 : w.heap.size ≤ (wr.drewN nq).heap.size := hbs
        go_wp2_with (at_builtin; refine app_one (wr := wr.drewN nq) rfl (.tmp 29) (.tmp 31) rfl _ l (x - y - b + 65536) rfl hown2 rfl hbs2 (by omega) ?_; intro v' w1 hown' hb1)
        exact ⟨⟨k + 1, _, _, by go_num, rfl, by omega, by omega, by omega, HL', HD', HS', hown', (below_drewN hb nq).trans hb1⟩, (by simp [intOf]; omega)⟩
      · have HL' : Hid ((l ++ [x - y - b]).length = k + 1) := by show _ = _; rw [List.length_append, HL.out]; rfl
        have HD' : Dig (l ++ [x - y - b]) := dig_snoc HD (by omega) (by omega)
        have HS' := Lib.hid (HS.out (x - y - b) 0 (by omega))
        clear HS
        go_wp2_with fail
        go_quiet ((go_at_call 250; exact Calls.quiet_of_same (still_of (H2.out _ HLb.out))))
        have hown2 := owns_drewN hown nq
        have hbs2 : w.heap.size ≤ (wr.drewN nq).heap.size := hbs
        go_wp2_with (at_builtin; refine app_one (wr := wr.drewN nq) rfl (.tmp 29) (.tmp 31) rfl _ l (x - y - b) rfl hown2 rfl hbs2 (by omega) ?_; intro v' w1 hown' hb1)
        exact ⟨⟨k + 1, _, _, by go_num, rfl, by omega, by omega, by omega, HL', HD', HS', hown', (below_drewN hb nq).trans hb1⟩, (by simp [intOf]; omega)⟩
    · have HE : Hid (val l = val la - val lb) := by
        have h := HV.out
        have hN := HN.out
        rw [val_drop_ge la k (by omega)] at h
        exact minus_end k l b _ _ HL.out HD hb0 (val_nonneg (dig_drop DB.out k)) (by have := HLE.out; omega) h
      obtain ⟨A', c', rfl, hc', hm', hL'⟩ := lies_own hown
      clear hA hB
      go_wp2_with (go_at_call 251; refine (ref_trim A' l c' wr.heap.size _ hL' HD (by omega) hc').mono ?_; rintro e w' ⟨A3, rfl, hc3, hL3, rfl⟩)
      go_ret
      rw [HE.out] at hc3 hL3 ⊢
      exact ⟨A3, c', rfl, hc3, hm', hL3, hb⟩

/-- below, equal, above -/
def cmpI (x y : Int) : Int := if x < y then -1 else if x = y then 0 else 1
theorem len_mono {x y : Int} (hx : 0 ≤ x) (h : (digs x).length < (digs y).length) : x < y := by
  rcases Int.lt_or_le x y with h1 | h1
  · exact h1
  · have h2 := val_lt (dig_digs x)
    rw [val_digs x hx] at h2
    have := digs_len y (digs x).length (by omega)
    omega
theorem top_split (l : List Int) (k : Nat) (h : k < l.length) : val l = val (l.take k) + pw k * (l.getD k 0) + pw (k + 1) * val (l.drop (k + 1)) := by
  have h1 : l = l.take (k + 1) ++ l.drop (k + 1) := (List.take_append_drop _ _).symm
  have h2 : val l = val (l.take (k + 1)) + pw (k + 1) * val (l.drop (k + 1)) := by
    conv => lhs; rw [h1]
    rw [val_append, List.length_take, Nat.min_eq_left (by omega)]
  rw [h2, val_take l k h]
theorem top_lt (la lb : List Int) (k : Nat) (ha : k < la.length) (hb : k < lb.length) (da : Dig la) (hd : Dig lb) (he : la.drop (k + 1) = lb.drop (k + 1)) (h : la.getD k 0 < lb.getD k 0) : val la < val lb := by
  rw [top_split la k ha, top_split lb k hb, he]
  have h1 := val_lt (dig_take da k)
  rw [List.length_take, Nat.min_eq_left (by omega)] at h1
  have h2 := val_nonneg (dig_take hd k)
  have h3 : pw k * (la.getD k 0 + 1) ≤ pw k * lb.getD k 0 := Int.mul_le_mul_of_nonneg_left (by omega) (by have := pw_pos k; omega)
  rw [Int.mul_add, Int.mul_one] at h3
  omega

def Cmps (x y : Int) (w : World) (e : Ending) (w' : World) : Prop := e = .returned (.int .i64 (cmpI x y)) ∧ ∃ n, w' = w.drewN n
theorem drews2 (w : World) (a b : Nat) : ∃ n, (w.drewN a).drewN b = w.drewN n := ⟨_, World.drewN_drewN _ _ _⟩
theorem drews3 (w : World) (a b c : Nat) : ∃ n, ((w.drewN a).drewN b).drewN c = w.drewN n := by
  rw [World.drewN_drewN, World.drewN_drewN]; exact ⟨_, rfl⟩
theorem ref_order (A A2 : Option Addr) (x y : Int) (ca cb B : Nat) (w : World) (hx : 0 ≤ x) (hy : 0 ≤ y) (hA : Lies w B A (digs x)) (hB : Lies w B A2 (digs y)) (hl : (digs x).length ≤ 100000000) :
    Calls Try.prog 223 #[.slice A (digs x).length ca, .slice A2 (digs y).length cb] w (Cmps x y w) := by
  by_cases hne : (digs x).length = (digs y).length
  · have HNE := Lib.hid hne
    have DA := dig_digs x
    have DB := dig_digs y
    have hvx := Lib.hid (val_digs x hx)
    have hvy := Lib.hid (val_digs y hy)
    generalize digs x = la at *
    generalize digs y = lb at *
    clear HNE
    generalize hN : la.length = N at *
    have HN := Lib.hid hN
    clear hN
    generalize hM : lb.length = M at *
    have HNE := Lib.hid hM
    clear hM
    obtain rfl := hne
    go_enter Try.func223, Try.ntmps223
    go_wp2
    go_loopw [5] (fun iv wr => ∃ (k : Nat) (v : Int), k ≤ N ∧ iv = .int .i64 v ∧ Hid (v = k - 1) ∧ Hid (la.drop k = lb.drop k) ∧ ∃ q, wr = w.drewN q) (fun iv _ => (intOf iv + 1).toNat)
    case atStart => exact ⟨N, _, by omega, rfl, rfl, by have h1 := HN.out; have h2 := HNE.out; show _ = _; rw [List.drop_eq_nil_of_le (by omega), List.drop_eq_nil_of_le (by omega)], 0, rfl⟩
    case round =>
      obtain ⟨k, v, hk, rfl, HV, HD, q, rfl⟩ := hrel
      rcases Nat.eq_zero_or_pos k with rfl | hk0
      · obtain rfl : v = -1 := HV.out
        go_wp2
        go_ret
        refine ⟨ret1i ?_, q, rfl⟩
        have h := HD.out
        rw [List.drop_zero, List.drop_zero] at h
        have h1 := hvx.out
        have h2 := hvy.out
        rw [h] at h1
        unfold cmpI
        rw [if_neg (by omega), if_pos (by omega)]
      · obtain ⟨j, rfl⟩ : ∃ j, k = j + 1 := ⟨k - 1, by omega⟩
        obtain rfl : v = (j : Int) := by have := HV.out; omega
        have hjb : j < lb.length := by have := HN.out; have := HNE.out; omega
        obtain ⟨ad, rfl, hb, hcell⟩ := lies_at hA (k := j) (by have := HN.out; omega)
        obtain ⟨ad2, rfl, hb2, hcell2⟩ := lies_at hB (k := j) hjb
        have hN := HN.out
        have HLT := Lib.hid (top_lt la lb j (by omega) hjb DA DB HD.out)
        have HGT := Lib.hid (top_lt lb la j hjb (by omega) DB DA HD.out.symm)
        have HDR : Hid (la.getD j 0 = lb.getD j 0 → la.drop j = lb.drop j) := by
          intro h
          have h1 := HD.out
          rw [List.getD_eq_getElem?_getD, List.getElem?_eq_getElem (by omega), List.getD_eq_getElem?_getD, List.getElem?_eq_getElem hjb] at h
          simp only [Option.getD_some] at h
          rw [List.drop_eq_getElem_cons (by omega), List.drop_eq_getElem_cons hjb, h1, h]
        rw [hvx.out, hvy.out] at HLT
        rw [hvx.out, hvy.out] at HGT
        clear hN HV HD hA hB
        generalize la.getD j 0 = a at *
        generalize lb.getD j 0 = b at *
        by_cases h1 : a < b
        · have hr : Hid (cmpI x y = -1) := by
            have := HLT.out h1
            show _ = _
            unfold cmpI; rw [if_pos this]
          clear HLT HGT HDR
          go_wp2_with fail
          go_quiet (fail)
          go_wp2
          go_ret
          exact ⟨ret1i hr.out.symm, _, World.drewN_drewN _ _ _⟩
        · by_cases h2 : b < a
          · have hr : Hid (cmpI x y = 1) := by
              have := HGT.out h2
              show _ = _
              unfold cmpI; rw [if_neg (by omega), if_neg (by omega)]
            clear HLT HGT HDR
            go_wp2_with fail
            go_quiet (fail)
            go_wp2_with fail
            go_quiet (fail)
            go_wp2
            go_ret
            exact ⟨ret1i hr.out.symm, (by first | exact drews3 _ _ _ _ | exact drews2 _ _ _ | exact ⟨_, rfl⟩)⟩
          · have hr := Lib.hid (HDR.out (by omega))
            clear HLT HGT HDR
            go_wp2_with fail
            go_quiet (fail)
            go_wp2_with fail
            go_quiet (fail)
            go_wp2
            exact ⟨⟨j, _, by omega, rfl, rfl, hr, (by first | exact drews3 _ _ _ _ | exact drews2 _ _ _ | exact ⟨_, rfl⟩)⟩, by simp [intOf]⟩
  · by_cases hlt : (digs x).length < (digs y).length
    · have hr : Hid (cmpI x y = -1) := by
        have := len_mono hx hlt
        show _ = _
        unfold cmpI; rw [if_pos this]
      have hn2 : (((digs x).length : Int) != (digs y).length) = true := by simp; omega
      clear hne
      generalize (digs x).length = N at *
      generalize (digs y).length = M at *
      clear hA hB
      go_enter Try.func223, Try.ntmps223
      go_wp2
      go_ret
      exact ⟨ret1i hr.out.symm, 0, rfl⟩
    · have hr : Hid (cmpI x y = 1) := by
        have := len_mono (x := y) (y := x) hy (by omega)
        show _ = _
        unfold cmpI; rw [if_neg (by omega), if_neg (by omega)]
      have hn2 : (((digs x).length : Int) != (digs y).length) = true := by simp; omega
      clear hne
      generalize (digs x).length = N at *
      generalize (digs y).length = M at *
      clear hA hB
      go_enter Try.func223, Try.ntmps223
      go_wp2
      go_ret
      exact ⟨ret1i hr.out.symm, 0, rfl⟩
end Go.Proofs.Ytaeodkpkgbjaeaa

/-! The contract of copseref01.Times. -/
namespace Go.Proofs.Ytaeodkpkgbjaeaa
open Go.RowKit

theorem val_zeros (n : Nat) : val (List.replicate n 0) = 0 := by
  induction n with
  | zero => rfl
  | succ n ih => rw [List.replicate_succ, val, ih]; rfl
theorem dig_zeros (n : Nat) : Dig (List.replicate n 0) := fun d hd => by
  rw [List.eq_of_mem_replicate hd]; omega
theorem made_zeros (n : Nat) : (madeCells (Value.int .i64 0).cells (n * 1)).toList = lits (List.replicate n 0) := by
  rw [Nat.mul_one]
  refine (toList_madeCells_one _ n).trans ?_
  simp [lits]
/-- a new row of noughts -/
theorem make_zeros {B : Nat} {wr : World} {ops : Array Oper} {rest : List Oper} {o : Oper} {a : Act} {Q : Exit → Act → World → Prop} (hgd : o.guard = none) (l c : Operand)
    (ho : o.op = Op.makeSlice 251 l c) (n : Nat) (hl : a.eval l = .int .i64 n) (hc : a.eval c = .int .i64 n) (hn : n ≤ 100000000) (hB : B ≤ wr.heap.size)
    (h : ∀ v' w', w'.ownsRow B 3 1 v' (List.replicate n (0 : Int)).length (lits (List.replicate n 0)) → Below B wr w' → wpList Try.prog ops Q rest (a.put o.dst v') w') :
    wpList Try.prog ops Q (o :: rest) a wr := by
  obtain ⟨i0, hi, hz0, hz1, hz2⟩ := info_parts info_int
  refine wpList_make_full wr hgd l c 251 ho B 3 i0 (.int .i64 0) 1 Try.underlying251 hi hz0 hz1 .i64 .i64 n n n hl hc rfl rfl (by rw [hz2]; omega) (by unfold maxLen; omega) hB ?_
  intro w' h1 h2
  refine h _ w' ?_ ?_
  · rw [List.length_replicate, ← made_zeros]; exact h1
  · exact (Below.refl _ _).grown h2 hB (fun k hk => by cases hk)

theorem times_step (i k : Nat) (l : List Int) (a y c T : Int) (hl : l.length = i + k) (h : val l + pw (i + k) * c = pw i * (a * T)) :
    val (l ++ [(a * y + c) % 65536]) + pw (i + (k + 1)) * ((a * y + c) / 65536) = pw i * (a * (T + pw k * y)) := by
  rw [val_snoc, hl, show i + (k + 1) = (i + k) + 1 from rfl, pw_s]
  have e : a * y + c = (a * y + c) / 65536 * 65536 + (a * y + c) % 65536 := by omega
  have ep : pw (i + k) = pw i * pw k := by unfold pw; rw [Int.pow_add]
  generalize (a * y + c) / 65536 = q at *
  generalize (a * y + c) % 65536 = r at *
  rw [ep] at h ⊢
  grind
theorem prod_bd16 (x y : Int) (hx : 0 ≤ x ∧ x < 65536) (hy : 0 ≤ y ∧ y < 65536) : 0 ≤ x * y ∧ x * y ≤ 4294836225 := by
  refine ⟨Int.mul_nonneg hx.1 hy.1, ?_⟩
  have := Int.mul_le_mul (by omega : x ≤ 65535) (by omega : y ≤ 65535) hy.1 (by omega : (0 : Int) ≤ 65535)
  simpa using this

def TrimsO (l : List Int) (w : World) (e : Ending) (w' : World) : Prop :=
  ∃ A c, e = .returned (.slice A (digs (val l)).length c) ∧ (digs (val l)).length ≤ c ∧ c ≤ maxLen ∧ Lies w w.heap.size A (digs (val l)) ∧ w = w'
/-- trim on a row of the call's own -/
theorem trim_own {B : Nat} {v : Value} {l : List Int} {w : World} (hown : w.ownsRow B 3 1 v l.length (lits l)) (hd : Dig l) (hl : l.length ≤ 1000000000) :
    Calls Try.prog 251 #[v] w (TrimsO l w) := by
  obtain ⟨A, c, rfl, hc, hm, hL⟩ := lies_own hown
  exact (ref_trim A l c w.heap.size w hL hd hl hc).mono fun e w' ⟨A3, he, hc3, hL3, hw⟩ => ⟨A3, c, he, hc3, hm, hL3, hw⟩
theorem mul_lt_pw {a b : Int} {i m : Nat} (ha : 0 ≤ a) (ha' : a < pw i) (hb' : b < pw m) : a * b < pw (i + m) := by
  have e : pw (i + m) = pw i * pw m := by unfold pw; rw [Int.pow_add]
  rw [e]
  have h1 : a * b ≤ a * pw m := Int.mul_le_mul_of_nonneg_left (by omega) ha
  have h2 : a * pw m < pw i * pw m := Int.mul_lt_mul_of_pos_right ha' (pw_pos m)
  omega
end Go.Proofs.Ytaeodkpkgbjaeaa

/-! Contracts of copseref01: Int, Turn, Both, Product, Fits: numbers of any size, with their sign. -/
namespace Go.Proofs.Ytaeodkpkgbjaeaa
open Go.RowKit

/-- it gives the number of that sign and that size -/
def GivesW (neg : Bool) (m : Int) (w : World) (e : Ending) (w' : World) : Prop :=
  ∃ A c, e = .returned (.agg #[.bool neg, .slice A (digs m).length c]) ∧ (digs m).length ≤ c ∧ c ≤ maxLen ∧ Lies w' w'.heap.size A (digs m) ∧ Below w.heap.size w w'

theorem Box.drew {w : World} {g : Nat} {cs : Array Value} {t : TypeId} (h : Box w g cs t) : Box w.drew g cs t := h
theorem alloc_size (w : World) (o : Obj) : (w.alloc o).heap.size = w.heap.size + 1 := by simp
theorem drew_size (w : World) : w.drew.heap.size = w.heap.size := rfl
theorem setCell_size (w : World) (p : Addr) (u : Value) : (w.setCell p u).heap.size = w.heap.size := by simp [World.setCell]
/-- how a function ends that stores its result, a Whole, into the result's box -/
theorem gives_stored {neg : Bool} {m : Int} {w w' W : World} {g : Nat} {A A2 : Option Addr} {c n2 c2 : Nat} {b : Bool} {t : TypeId} (hc : (digs m).length ≤ c) (hm : c ≤ maxLen) (hL : Lies w' w'.heap.size A (digs m))
    (hx : Box w' g #[.bool b, .slice A2 n2 c2] t) (hb : Below w.heap.size w w') (hg : w.heap.size ≤ g) (hW : W = (w'.setCell ⟨g, 0, none⟩ (.bool neg)).setCell ⟨g, 1, none⟩ (.slice A (digs m).length c)) :
    GivesW neg m w (.returned (.agg #[.bool neg, .slice A (digs m).length c])) W := by
  subst hW
  refine ⟨A, c, rfl, hc, hm, ?_, ?_⟩
  · rw [setCell_size, setCell_size]; exact hL.stored hx _ _
  · exact (hb.setCell (p := ⟨g, 0, none⟩) hg _).setCell (p := ⟨g, 1, none⟩) hg _

theorem ref_int (n : Int) (hn : I64 n) (w : World) : Calls Try.prog 193 #[.int .i64 n] w (GivesW (decide (n < 0)) n.natAbs w) := by
  obtain ⟨h0, h1⟩ := hn
  have hX := Box.new w #[.bool false, .slice none 0 0] 253
  by_cases h : n < 0
  · have e1 : Hid (-(n + 1) + 1 = (n.natAbs : Int)) := by show _ = _; omega
    have e2 : Hid (decide (n < 0) = true) := by show _ = _; simpa using h
    have hU : U64 (-(n + 1) + 1) := by unfold U64; omega
    have HX := Lib.hid hX
    clear hX
    go_enter Try.func193, Try.ntmps193
    go_wp2_with (go_at_call 222; refine (ref_of (-(n + 1) + 1) hU _).mono ?_; rintro e w' ⟨A, c, rfl, hc, hm, hL, hb⟩; rw [e1.out] at hc hL ⊢; obtain ⟨x0, x1, x2, x3⟩ := (HX.out.below hb (by simp)).two)
    refine bodyPost_ret (v := .agg #[.bool true, .slice A (digs n.natAbs).length c]) (by simp [results, Try.results193, go_sem, x0, x1]) rfl ?_
    rw [e2.out]
    exact gives_stored hc hm hL (HX.out.below hb (by simp)) (((Below.refl _ _).alloc (Nat.le_refl _) _).trans (hb.mono (by simp))) (Nat.le_refl _) rfl
  · have e1 : Hid (n = (n.natAbs : Int)) := by show _ = _; omega
    have e2 : Hid (decide (n < 0) = false) := by show _ = _; simpa using h
    have hU : U64 n := by unfold U64; omega
    have HX := Lib.hid hX
    clear hX
    go_enter Try.func193, Try.ntmps193
    go_wp2_with (go_at_call 222; refine (ref_of n hU _).mono ?_; rintro e w' ⟨A, c, rfl, hc, hm, hL, hb⟩; obtain ⟨x0, x1, x2, x3⟩ := (HX.out.below hb (by simp)).two)
    refine bodyPost_ret (v := .agg #[.bool false, .slice A (digs n).length c]) (by simp [results, Try.results193, go_sem, x0, x1]) rfl ?_
    rw [e2.out, ← e1.out]
    exact gives_stored hc hm hL (HX.out.below hb (by simp)) (((Below.refl _ _).alloc (Nat.le_refl _) _).trans (hb.mono (by simp))) (Nat.le_refl _) rfl

theorem ref_turn (neg : Bool) (A : Option Addr) (m c : Nat) (w : World) :
    Calls Try.prog 194 #[.agg #[.bool neg, .slice A m c]] w fun e w' => e = .returned (.agg #[.bool (!neg), .slice A m c]) ∧ Below w.heap.size w w' := by
  go_enter Try.func194, Try.ntmps194
  go_wp2
  refine bodyPost_ret (v := .agg #[.bool (!neg), .slice A m c]) (by simp [results, Try.results194, go_sem]) rfl ⟨rfl, ?_⟩
  exact ((Below.refl _ _).alloc (Nat.le_refl _) _).alloc (by simp) _

/-! ### Both -/
theorem below_of_drew {W w' : World} (h : Below W.drew.heap.size W.drew w') : Below W.heap.size W w' := ⟨h.os, h.tape, h.output, h.size, h.block⟩
theorem below_of_drewN {W w' : World} (q : Nat) (h : Below (W.drewN q).drew.heap.size (W.drewN q).drew w') : Below W.heap.size W w' := ⟨h.os, h.tape, h.output, h.size, h.block⟩
theorem both_same (na nb : Bool) (x y : Int) (A A2 : Option Addr) (ca cb : Nat) (w : World) (hx : 0 ≤ x) (hy : 0 ≤ y) (hA : Lies w w.heap.size A (digs x)) (hB : Lies w w.heap.size A2 (digs y)) (hl : (digs x).length + (digs y).length ≤ 100000) (hs : (na == nb) = true) :
    Calls Try.prog 192 #[.agg #[.bool na, .slice A (digs x).length ca], .agg #[.bool nb, .slice A2 (digs y).length cb]] w (GivesW na (x + y) w) := by
  have DA := dig_digs x
  have DB := dig_digs y
  have hW : Below w.heap.size w (((w.alloc (.cells #[.bool na, .slice A (digs x).length ca] 253)).alloc (.cells #[.bool nb, .slice A2 (digs y).length cb] 253)).alloc (.cells #[.bool false, .slice none 0 0] 253)) :=
    (((Below.refl _ _).alloc (Nat.le_refl _) _).alloc (by simp) _).alloc (by simp; omega) _
  have HX1 := Lib.hid (((Box.new w #[.bool na, .slice A (digs x).length ca] 253).alloc (.cells #[.bool nb, .slice A2 (digs y).length cb] 253)).alloc (.cells #[.bool false, .slice none 0 0] 253))
  have HX2 := Lib.hid ((Box.new (w.alloc (.cells #[.bool na, .slice A (digs x).length ca] 253)) #[.bool nb, .slice A2 (digs y).length cb] 253).alloc (.cells #[.bool false, .slice none 0 0] 253))
  have HX3 := Lib.hid (Box.new ((w.alloc (.cells #[.bool na, .slice A (digs x).length ca] 253)).alloc (.cells #[.bool nb, .slice A2 (digs y).length cb] 253)) #[.bool false, .slice none 0 0] 253)
  have HT := Lib.hid (fun (W : World) (h : Below w.heap.size w W) => by have h2 := ref_plus A A2 (digs x) (digs y) ca cb W ((hA.below h).mono h.size) ((hB.below h).mono h.size) DA DB (by omega); rw [val_digs x hx, val_digs y hy] at h2; exact h2)
  have HW := Lib.hid hW
  clear hA hB hW DA DB
  generalize (digs x).length = N at *
  generalize (digs y).length = M at *
  have n1 : w.heap.size + 1 + 1 ≠ w.heap.size := by omega
  have n2 : w.heap.size + 1 + 1 ≠ w.heap.size + 1 := by omega
  go_enter Try.func192, Try.ntmps192
  go_wp2
  go_region_held3 (fun w1 => w1.cell? ⟨w.heap.size, 0, none⟩ = some (.bool na) ∧ w1.cell? ⟨w.heap.size, 1, none⟩ = some (.slice A N ca) ∧ w1.cell? ⟨w.heap.size + 1, 0, none⟩ = some (.bool nb) ∧ w1.cell? ⟨w.heap.size + 1, 1, none⟩ = some (.slice A2 M cb)) (go_keep)
    (first | (go_at_call 224; refine (HT.out _ (HW.out.drew)).mono ?_; rintro e w' ⟨A3, c3, rfl, hc3, hm3, hL3, hb3⟩; have hb4 := below_of_drew hb3; obtain ⟨x0, x1, _, _⟩ := (Box.below HX1.out hb4 (by simp only [alloc_size]; omega)).two; obtain ⟨y0, y1, _, _⟩ := (Box.below HX2.out hb4 (by simp only [alloc_size]; omega)).two; obtain ⟨z0, z1, z2, z3⟩ := (Box.below HX3.out hb4 (by simp only [alloc_size]; omega)).two; simp only [alloc_size] at y0 y1 z0 z1 z2 z3))
  have b3 := Box.below HX3.out hb4 (by simp only [alloc_size]; omega)
  simp only [alloc_size] at b3
  go_wp2
  refine bodyPost_ret (v := .agg #[.bool na, .slice A3 (digs (x + y)).length c3]) (by simp [results, Try.results192, go_sem, z0, z1]) rfl ?_
  exact gives_stored hc3 hm3 hL3 b3 (HW.out.trans (hb4.mono (by simp only [alloc_size]; omega))) (by omega) rfl

theorem both_ge (na nb : Bool) (x y : Int) (A A2 : Option Addr) (ca cb : Nat) (w : World) (hx : 0 ≤ x) (hy : 0 ≤ y) (hA : Lies w w.heap.size A (digs x)) (hB : Lies w w.heap.size A2 (digs y)) (hl : (digs x).length + (digs y).length ≤ 100000) (hs : (na == nb) = false) (hxy : y ≤ x) :
    Calls Try.prog 192 #[.agg #[.bool na, .slice A (digs x).length ca], .agg #[.bool nb, .slice A2 (digs y).length cb]] w (GivesW na (x - y) w) := by
  have hcp : 0 ≤ cmpI x y := by unfold cmpI; split <;> first | omega | (split <;> omega)
  have DA := dig_digs x
  have DB := dig_digs y
  have hW : Below w.heap.size w (((w.alloc (.cells #[.bool na, .slice A (digs x).length ca] 253)).alloc (.cells #[.bool nb, .slice A2 (digs y).length cb] 253)).alloc (.cells #[.bool false, .slice none 0 0] 253)) :=
    (((Below.refl _ _).alloc (Nat.le_refl _) _).alloc (by simp) _).alloc (by simp; omega) _
  have HX1 := Lib.hid (((Box.new w #[.bool na, .slice A (digs x).length ca] 253).alloc (.cells #[.bool nb, .slice A2 (digs y).length cb] 253)).alloc (.cells #[.bool false, .slice none 0 0] 253))
  have HX2 := Lib.hid ((Box.new (w.alloc (.cells #[.bool na, .slice A (digs x).length ca] 253)) #[.bool nb, .slice A2 (digs y).length cb] 253).alloc (.cells #[.bool false, .slice none 0 0] 253))
  have HX3 := Lib.hid (Box.new ((w.alloc (.cells #[.bool na, .slice A (digs x).length ca] 253)).alloc (.cells #[.bool nb, .slice A2 (digs y).length cb] 253)) #[.bool false, .slice none 0 0] 253)
  have HT := Lib.hid (fun (W : World) (h : Below w.heap.size w W) => by have h2 := ref_minus A A2 (digs x) (digs y) ca cb W ((hA.below h).mono h.size) ((hB.below h).mono h.size) DA DB (by omega) (by rw [val_digs x hx, val_digs y hy]; exact hxy); rw [val_digs x hx, val_digs y hy] at h2; exact h2)
  have HW := Lib.hid hW
  have HO := Lib.hid (ref_order A A2 x y ca cb w.heap.size _ hx hy (hA.below hW) (hB.below hW) (by omega))
  clear hA hB hW DA DB
  generalize (digs x).length = N at *
  generalize (digs y).length = M at *
  have n1 : w.heap.size + 1 + 1 ≠ w.heap.size := by omega
  have n2 : w.heap.size + 1 + 1 ≠ w.heap.size + 1 := by omega
  go_enter Try.func192, Try.ntmps192
  go_wp2_with (go_at_call 223; refine HO.out.mono ?_; rintro e w' ⟨rfl, q, rfl⟩)
  go_region_held3 (fun w1 => w1.cell? ⟨w.heap.size, 0, none⟩ = some (.bool na) ∧ w1.cell? ⟨w.heap.size, 1, none⟩ = some (.slice A N ca) ∧ w1.cell? ⟨w.heap.size + 1, 0, none⟩ = some (.bool nb) ∧ w1.cell? ⟨w.heap.size + 1, 1, none⟩ = some (.slice A2 M cb)) (go_keep)
    (first | (go_at_call 225; refine (HT.out _ ((below_drewN HW.out q).drew)).mono ?_; rintro e w' ⟨A3, c3, rfl, hc3, hm3, hL3, hb3⟩; have hb4 := below_of_drewN q hb3; obtain ⟨x0, x1, _, _⟩ := (Box.below HX1.out hb4 (by simp only [alloc_size]; omega)).two; obtain ⟨y0, y1, _, _⟩ := (Box.below HX2.out hb4 (by simp only [alloc_size]; omega)).two; obtain ⟨z0, z1, z2, z3⟩ := (Box.below HX3.out hb4 (by simp only [alloc_size]; omega)).two; simp only [alloc_size] at y0 y1 z0 z1 z2 z3))
  have b3 := Box.below HX3.out hb4 (by simp only [alloc_size]; omega)
  simp only [alloc_size] at b3
  go_wp2
  refine bodyPost_ret (v := .agg #[.bool na, .slice A3 (digs (x - y)).length c3]) (by simp [results, Try.results192, go_sem, z0, z1]) rfl ?_
  exact gives_stored hc3 hm3 hL3 b3 (HW.out.trans (hb4.mono (by simp only [alloc_size]; omega))) (by omega) rfl

theorem both_lt (na nb : Bool) (x y : Int) (A A2 : Option Addr) (ca cb : Nat) (w : World) (hx : 0 ≤ x) (hy : 0 ≤ y) (hA : Lies w w.heap.size A (digs x)) (hB : Lies w w.heap.size A2 (digs y)) (hl : (digs x).length + (digs y).length ≤ 100000) (hs : (na == nb) = false) (hxy : x ≤ y) (hne : x < y) :
    Calls Try.prog 192 #[.agg #[.bool na, .slice A (digs x).length ca], .agg #[.bool nb, .slice A2 (digs y).length cb]] w (GivesW nb (y - x) w) := by
  have hcp : cmpI x y < 0 := by unfold cmpI; rw [if_pos hne]; omega
  have DA := dig_digs x
  have DB := dig_digs y
  have hW : Below w.heap.size w (((w.alloc (.cells #[.bool na, .slice A (digs x).length ca] 253)).alloc (.cells #[.bool nb, .slice A2 (digs y).length cb] 253)).alloc (.cells #[.bool false, .slice none 0 0] 253)) :=
    (((Below.refl _ _).alloc (Nat.le_refl _) _).alloc (by simp) _).alloc (by simp; omega) _
  have HX1 := Lib.hid (((Box.new w #[.bool na, .slice A (digs x).length ca] 253).alloc (.cells #[.bool nb, .slice A2 (digs y).length cb] 253)).alloc (.cells #[.bool false, .slice none 0 0] 253))
  have HX2 := Lib.hid ((Box.new (w.alloc (.cells #[.bool na, .slice A (digs x).length ca] 253)) #[.bool nb, .slice A2 (digs y).length cb] 253).alloc (.cells #[.bool false, .slice none 0 0] 253))
  have HX3 := Lib.hid (Box.new ((w.alloc (.cells #[.bool na, .slice A (digs x).length ca] 253)).alloc (.cells #[.bool nb, .slice A2 (digs y).length cb] 253)) #[.bool false, .slice none 0 0] 253)
  have HT := Lib.hid (fun (W : World) (h : Below w.heap.size w W) => by have h2 := ref_minus A2 A (digs y) (digs x) cb ca W ((hB.below h).mono h.size) ((hA.below h).mono h.size) DB DA (by omega) (by rw [val_digs x hx, val_digs y hy]; exact hxy); rw [val_digs x hx, val_digs y hy] at h2; exact h2)
  have HW := Lib.hid hW
  have HO := Lib.hid (ref_order A A2 x y ca cb w.heap.size _ hx hy (hA.below hW) (hB.below hW) (by omega))
  clear hA hB hW DA DB
  generalize (digs x).length = N at *
  generalize (digs y).length = M at *
  have n1 : w.heap.size + 1 + 1 ≠ w.heap.size := by omega
  have n2 : w.heap.size + 1 + 1 ≠ w.heap.size + 1 := by omega
  go_enter Try.func192, Try.ntmps192
  go_wp2_with (go_at_call 223; refine HO.out.mono ?_; rintro e w' ⟨rfl, q, rfl⟩)
  go_region_held3 (fun w1 => w1.cell? ⟨w.heap.size, 0, none⟩ = some (.bool na) ∧ w1.cell? ⟨w.heap.size, 1, none⟩ = some (.slice A N ca) ∧ w1.cell? ⟨w.heap.size + 1, 0, none⟩ = some (.bool nb) ∧ w1.cell? ⟨w.heap.size + 1, 1, none⟩ = some (.slice A2 M cb)) (go_keep)
    (first | (go_at_call 225; refine (HT.out _ ((below_drewN HW.out q).drew)).mono ?_; rintro e w' ⟨A3, c3, rfl, hc3, hm3, hL3, hb3⟩; have hb4 := below_of_drewN q hb3; obtain ⟨x0, x1, _, _⟩ := (Box.below HX1.out hb4 (by simp only [alloc_size]; omega)).two; obtain ⟨y0, y1, _, _⟩ := (Box.below HX2.out hb4 (by simp only [alloc_size]; omega)).two; obtain ⟨z0, z1, z2, z3⟩ := (Box.below HX3.out hb4 (by simp only [alloc_size]; omega)).two; simp only [alloc_size] at y0 y1 z0 z1 z2 z3))
  have b3 := Box.below HX3.out hb4 (by simp only [alloc_size]; omega)
  simp only [alloc_size] at b3
  go_wp2
  refine bodyPost_ret (v := .agg #[.bool nb, .slice A3 (digs (y - x)).length c3]) (by simp [results, Try.results192, go_sem, z0, z1]) rfl ?_
  exact gives_stored hc3 hm3 hL3 b3 (HW.out.trans (hb4.mono (by simp only [alloc_size]; omega))) (by omega) rfl

end Go.Proofs.Ytaeodkpkgbjaeaa

/-! The contract of copseref01.Fits. -/
namespace Go.Proofs.Ytaeodkpkgbjaeaa
open Go.RowKit

def top : Int := 9223372036854775808
theorem order_at (r : Int) (A A2 : Option Addr) (x y : Int) (ca cb B : Nat) (w : World) (hx : 0 ≤ x) (hy : 0 ≤ y) (hA : Lies w B A (digs x)) (hB : Lies w B A2 (digs y)) (hl : (digs x).length ≤ 100000000) (hr : cmpI x y = r) :
    Calls Try.prog 223 #[.slice A (digs x).length ca, .slice A2 (digs y).length cb] w fun e w' => e = .returned (.int .i64 r) ∧ ∃ n, w' = w.drewN n :=
  (ref_order A A2 x y ca cb B w hx hy hA hB hl).mono fun _ _ h => by rw [← hr]; exact h
theorem val_drop_le {l : List Int} (h : Dig l) (k : Nat) : val (l.drop k) ≤ val l := by
  induction k generalizing l with
  | zero => rw [List.drop_zero]; exact Int.le_refl _
  | succ k ih =>
    cases l with
    | nil => simp
    | cons d l =>
      have hl : Dig l := fun x hx => h x (List.mem_cons_of_mem _ hx)
      have h1 := ih hl
      have h2 := (h d List.mem_cons_self).1
      have h3 := val_nonneg hl
      rw [List.drop_succ_cons, val]; omega

theorem fits_gt (neg : Bool) (m : Int) (A : Option Addr) (c : Nat) (w : World) (hm : 0 ≤ m) (hA : Lies w w.heap.size A (digs m)) (hl : (digs m).length ≤ 100000) (ho : top < m) :
    Calls Try.prog 191 #[.agg #[.bool neg, .slice A (digs m).length c]] w fun e w' => e = .returned (.tuple #[.int .i64 0, .int .i64 10]) ∧ Below w.heap.size w w' := by
  have hX := Box.new w #[.bool neg, .slice A (digs m).length c] 253
  have hW : Below w.heap.size w (w.alloc (.cells #[.bool neg, .slice A (digs m).length c] 253)) := (Below.refl _ _).alloc (Nat.le_refl _) _
  have hT : U64 9223372036854775808 := by unfold U64; omega
  have HO := Lib.hid (fun (r : Int) (W : World) (A2 : Option Addr) (c2 : Nat) (h : Below w.heap.size w W) (h2 : Lies W W.heap.size A2 (digs 9223372036854775808)) (hr : cmpI m 9223372036854775808 = r) => order_at r A A2 m 9223372036854775808 c c2 W.heap.size W hm (by omega) ((hA.below h).mono h.size) h2 (by omega) hr)
  have HX := Lib.hid hX
  have HW := Lib.hid hW
  clear hX hW hA
  generalize (digs m).length = N at *
  have hr : Hid (cmpI m 9223372036854775808 = 1) := by
    unfold top at ho
    show _ = _
    unfold cmpI; rw [if_neg (by omega), if_neg (by omega)]
  clear ho
  go_enter Try.func191, Try.ntmps191
  go_wp2_with (first | (go_at_call 222; refine (ref_of 9223372036854775808 hT _).mono ?_; rintro e w' ⟨A2, c2, rfl, hc, hm2, hL, hb⟩; obtain ⟨x0, x1, x2, x3⟩ := (HX.out.below hb (by simp)).two; have HL := Lib.hid hL; have HB := Lib.hid hb; clear hL hb) | (go_at_call 223; refine (HO.out 1 _ A2 c2 (HW.out.trans (HB.out.mono (by simp))) HL.out hr.out).mono ?_; rintro e w' ⟨rfl, q, rfl⟩))
  go_ret2
  exact ⟨rfl, below_drewN (HW.out.trans (HB.out.mono (by simp))) q⟩

theorem fits_eq (m : Int) (A : Option Addr) (c : Nat) (w : World) (hm : 0 ≤ m) (hA : Lies w w.heap.size A (digs m)) (hl : (digs m).length ≤ 100000) (ho : m = top) :
    Calls Try.prog 191 #[.agg #[.bool false, .slice A (digs m).length c]] w fun e w' => e = .returned (.tuple #[.int .i64 0, .int .i64 10]) ∧ Below w.heap.size w w' := by
  have hX := Box.new w #[.bool false, .slice A (digs m).length c] 253
  have hW : Below w.heap.size w (w.alloc (.cells #[.bool false, .slice A (digs m).length c] 253)) := (Below.refl _ _).alloc (Nat.le_refl _) _
  have hT : U64 9223372036854775808 := by unfold U64; omega
  have HO := Lib.hid (fun (r : Int) (W : World) (A2 : Option Addr) (c2 : Nat) (h : Below w.heap.size w W) (h2 : Lies W W.heap.size A2 (digs 9223372036854775808)) (hr : cmpI m 9223372036854775808 = r) => order_at r A A2 m 9223372036854775808 c c2 W.heap.size W hm (by omega) ((hA.below h).mono h.size) h2 (by omega) hr)
  have HX := Lib.hid hX
  have HW := Lib.hid hW
  clear hX hW hA
  generalize (digs m).length = N at *
  have hr : Hid (cmpI m 9223372036854775808 = 0) := by
    unfold top at ho
    show _ = _
    unfold cmpI; rw [if_neg (by omega), if_pos (by omega)]
  clear ho
  go_enter Try.func191, Try.ntmps191
  go_wp2_with (first | (go_at_call 222; refine (ref_of 9223372036854775808 hT _).mono ?_; rintro e w' ⟨A2, c2, rfl, hc, hm2, hL, hb⟩; obtain ⟨x0, x1, x2, x3⟩ := (HX.out.below hb (by simp)).two; have HL := Lib.hid hL; have HB := Lib.hid hb; clear hL hb) | (go_at_call 223; refine (HO.out 0 _ A2 c2 (HW.out.trans (HB.out.mono (by simp))) HL.out hr.out).mono ?_; rintro e w' ⟨rfl, q, rfl⟩))
  go_ret2
  exact ⟨rfl, below_drewN (HW.out.trans (HB.out.mono (by simp))) q⟩

set_option maxHeartbeats 600000 in
theorem fits_pos (m : Int) (A : Option Addr) (c : Nat) (w : World) (hm : 0 ≤ m) (hA : Lies w w.heap.size A (digs m)) (hl : (digs m).length ≤ 100000) (ho : m < top) :
    Calls Try.prog 191 #[.agg #[.bool false, .slice A (digs m).length c]] w fun e w' => e = .returned (.tuple #[.int .i64 (m), .int .i64 0]) ∧ Below w.heap.size w w' := by
  have hX := Box.new w #[.bool false, .slice A (digs m).length c] 253
  have hW : Below w.heap.size w (w.alloc (.cells #[.bool false, .slice A (digs m).length c] 253)) := (Below.refl _ _).alloc (Nat.le_refl _) _
  have hT : U64 9223372036854775808 := by unfold U64; omega
  have HO := Lib.hid (fun (r : Int) (W : World) (A2 : Option Addr) (c2 : Nat) (h : Below w.heap.size w W) (h2 : Lies W W.heap.size A2 (digs 9223372036854775808)) (hr : cmpI m 9223372036854775808 = r) => order_at r A A2 m 9223372036854775808 c c2 W.heap.size W hm (by omega) ((hA.below h).mono h.size) h2 (by omega) hr)
  have HX := Lib.hid hX
  have HW := Lib.hid hW
  have HA := Lib.hid hA
  have DM := dig_digs m
  have HV := Lib.hid (val_digs m hm)
  have hmt : m ≤ 9223372036854775807 := by unfold top at ho; omega
  clear hX hW hA
  generalize digs m = l at *
  generalize hN : l.length = N at *
  have HN := Lib.hid hN
  clear hN
  have hr : Hid (cmpI m 9223372036854775808 = -1) := by
    unfold top at ho
    show _ = _
    unfold cmpI; rw [if_pos (by omega)]
  clear ho
  go_enter Try.func191, Try.ntmps191
  go_wp2_with (first | (go_at_call 222; refine (ref_of 9223372036854775808 hT _).mono ?_; rintro e w' ⟨A2, c2, rfl, hc, hm2, hL, hb⟩; obtain ⟨x0, x1, x2, x3⟩ := (HX.out.below hb (by simp)).two; have HL := Lib.hid hL; have HB := Lib.hid hb; clear hL hb) | (go_at_call 223; refine (HO.out (-1) _ A2 c2 (HW.out.trans (HB.out.mono (by simp))) HL.out hr.out).mono ?_; rintro e w' ⟨rfl, q, rfl⟩))
  have hWb := below_drewN (HW.out.trans (HB.out.mono (by simp))) q
  have HLA := Lib.hid (HA.out.below hWb)
  have HWB := Lib.hid hWb
  clear hWb
  go_loop [6, 7] (fun av iv => ∃ (k : Nat) (v a : Int), k ≤ N ∧ iv = .int .i64 v ∧ Hid (v = k - 1) ∧ av = .int .i64 (a) ∧ Hid (a = val (l.drop k))) (fun _ iv => (intOf iv + 1).toNat)
  case atStart => exact ⟨N, _, 0, by omega, rfl, rfl, rfl, by have h := HN.out; show _ = _; rw [List.drop_eq_nil_of_le (by omega)]; rfl⟩
  case round =>
    obtain ⟨k, v, a, hk, rfl, Hv, rfl, Ha⟩ := hrel
    rcases Nat.eq_zero_or_pos k with rfl | hk0
    · obtain rfl : v = -1 := Hv.out
      go_wp2
      go_ret2
      refine ⟨ret2i ?_ rfl, HWB.out⟩
      have h1 := Ha.out
      rw [List.drop_zero, HV.out] at h1
      rw [h1]
    · obtain ⟨j, rfl⟩ : ∃ j, k = j + 1 := ⟨k - 1, by omega⟩
      obtain rfl : v = (j : Int) := by have := Hv.out; omega
      obtain ⟨ad, rfl, hadb, hcell⟩ := lies_at HLA.out (k := j) (by have := HN.out; omega)
      have hd := dig_getD DM j
      have hvd := val_drop l j (by have := HN.out; omega)
      have hle := val_drop_le DM j
      have h0 := val_nonneg (dig_drop DM (j + 1))
      rw [HV.out] at hle
      rw [← Ha.out] at hvd h0
      have Hvd := Lib.hid hvd
      rw [hvd] at hle
      clear hvd
      generalize l.getD j 0 = d at *
      go_wp2
      all_goals
        exact ⟨⟨j, _, d + 65536 * a, by omega, rfl, rfl, (by congr 1; omega), Hvd.out.symm⟩, by simp [intOf]⟩

set_option maxHeartbeats 600000 in
theorem fits_neg (m : Int) (A : Option Addr) (c : Nat) (w : World) (hm : 0 ≤ m) (hA : Lies w w.heap.size A (digs m)) (hl : (digs m).length ≤ 100000) (ho : m < top) :
    Calls Try.prog 191 #[.agg #[.bool true, .slice A (digs m).length c]] w fun e w' => e = .returned (.tuple #[.int .i64 (-m), .int .i64 0]) ∧ Below w.heap.size w w' := by
  have hX := Box.new w #[.bool true, .slice A (digs m).length c] 253
  have hW : Below w.heap.size w (w.alloc (.cells #[.bool true, .slice A (digs m).length c] 253)) := (Below.refl _ _).alloc (Nat.le_refl _) _
  have hT : U64 9223372036854775808 := by unfold U64; omega
  have HO := Lib.hid (fun (r : Int) (W : World) (A2 : Option Addr) (c2 : Nat) (h : Below w.heap.size w W) (h2 : Lies W W.heap.size A2 (digs 9223372036854775808)) (hr : cmpI m 9223372036854775808 = r) => order_at r A A2 m 9223372036854775808 c c2 W.heap.size W hm (by omega) ((hA.below h).mono h.size) h2 (by omega) hr)
  have HX := Lib.hid hX
  have HW := Lib.hid hW
  have HA := Lib.hid hA
  have DM := dig_digs m
  have HV := Lib.hid (val_digs m hm)
  have hmt : m ≤ 9223372036854775808 := by unfold top at ho; omega
  clear hX hW hA
  generalize digs m = l at *
  generalize hN : l.length = N at *
  have HN := Lib.hid hN
  clear hN
  have hr : Hid (cmpI m 9223372036854775808 = -1) := by
    unfold top at ho
    show _ = _
    unfold cmpI; rw [if_pos (by omega)]
  clear ho
  go_enter Try.func191, Try.ntmps191
  go_wp2_with (first | (go_at_call 222; refine (ref_of 9223372036854775808 hT _).mono ?_; rintro e w' ⟨A2, c2, rfl, hc, hm2, hL, hb⟩; obtain ⟨x0, x1, x2, x3⟩ := (HX.out.below hb (by simp)).two; have HL := Lib.hid hL; have HB := Lib.hid hb; clear hL hb) | (go_at_call 223; refine (HO.out (-1) _ A2 c2 (HW.out.trans (HB.out.mono (by simp))) HL.out hr.out).mono ?_; rintro e w' ⟨rfl, q, rfl⟩))
  have hWb := below_drewN (HW.out.trans (HB.out.mono (by simp))) q
  have HLA := Lib.hid (HA.out.below hWb)
  have HWB := Lib.hid hWb
  clear hWb
  go_loop [6, 7] (fun av iv => ∃ (k : Nat) (v a : Int), k ≤ N ∧ iv = .int .i64 v ∧ Hid (v = k - 1) ∧ av = .int .i64 (-a) ∧ Hid (a = val (l.drop k))) (fun _ iv => (intOf iv + 1).toNat)
  case atStart => exact ⟨N, _, 0, by omega, rfl, rfl, rfl, by have h := HN.out; show _ = _; rw [List.drop_eq_nil_of_le (by omega)]; rfl⟩
  case round =>
    obtain ⟨k, v, a, hk, rfl, Hv, rfl, Ha⟩ := hrel
    rcases Nat.eq_zero_or_pos k with rfl | hk0
    · obtain rfl : v = -1 := Hv.out
      go_wp2
      go_ret2
      refine ⟨ret2i ?_ rfl, HWB.out⟩
      have h1 := Ha.out
      rw [List.drop_zero, HV.out] at h1
      rw [h1]
    · obtain ⟨j, rfl⟩ : ∃ j, k = j + 1 := ⟨k - 1, by omega⟩
      obtain rfl : v = (j : Int) := by have := Hv.out; omega
      obtain ⟨ad, rfl, hadb, hcell⟩ := lies_at HLA.out (k := j) (by have := HN.out; omega)
      have hd := dig_getD DM j
      have hvd := val_drop l j (by have := HN.out; omega)
      have hle := val_drop_le DM j
      have h0 := val_nonneg (dig_drop DM (j + 1))
      rw [HV.out] at hle
      rw [← Ha.out] at hvd h0
      have Hvd := Lib.hid hvd
      rw [hvd] at hle
      clear hvd
      generalize l.getD j 0 = d at *
      go_wp2
      all_goals
        exact ⟨⟨j, _, d + 65536 * a, by omega, rfl, rfl, (by congr 1; omega), Hvd.out.symm⟩, by simp [intOf]⟩

set_option maxHeartbeats 600000 in
theorem fits_least (m : Int) (A : Option Addr) (c : Nat) (w : World) (hm : 0 ≤ m) (hA : Lies w w.heap.size A (digs m)) (hl : (digs m).length ≤ 100000) (ho : m = top) :
    Calls Try.prog 191 #[.agg #[.bool true, .slice A (digs m).length c]] w fun e w' => e = .returned (.tuple #[.int .i64 (-m), .int .i64 0]) ∧ Below w.heap.size w w' := by
  have hX := Box.new w #[.bool true, .slice A (digs m).length c] 253
  have hW : Below w.heap.size w (w.alloc (.cells #[.bool true, .slice A (digs m).length c] 253)) := (Below.refl _ _).alloc (Nat.le_refl _) _
  have hT : U64 9223372036854775808 := by unfold U64; omega
  have HO := Lib.hid (fun (r : Int) (W : World) (A2 : Option Addr) (c2 : Nat) (h : Below w.heap.size w W) (h2 : Lies W W.heap.size A2 (digs 9223372036854775808)) (hr : cmpI m 9223372036854775808 = r) => order_at r A A2 m 9223372036854775808 c c2 W.heap.size W hm (by omega) ((hA.below h).mono h.size) h2 (by omega) hr)
  have HX := Lib.hid hX
  have HW := Lib.hid hW
  have HA := Lib.hid hA
  have DM := dig_digs m
  have HV := Lib.hid (val_digs m hm)
  have hmt : m ≤ 9223372036854775808 := by unfold top at ho; omega
  clear hX hW hA
  generalize digs m = l at *
  generalize hN : l.length = N at *
  have HN := Lib.hid hN
  clear hN
  have hr : Hid (cmpI m 9223372036854775808 = 0) := by
    unfold top at ho
    show _ = _
    unfold cmpI; rw [if_neg (by omega), if_pos (by omega)]
  clear ho
  go_enter Try.func191, Try.ntmps191
  go_wp2_with (first | (go_at_call 222; refine (ref_of 9223372036854775808 hT _).mono ?_; rintro e w' ⟨A2, c2, rfl, hc, hm2, hL, hb⟩; obtain ⟨x0, x1, x2, x3⟩ := (HX.out.below hb (by simp)).two; have HL := Lib.hid hL; have HB := Lib.hid hb; clear hL hb) | (go_at_call 223; refine (HO.out 0 _ A2 c2 (HW.out.trans (HB.out.mono (by simp))) HL.out hr.out).mono ?_; rintro e w' ⟨rfl, q, rfl⟩))
  have hWb := below_drewN (HW.out.trans (HB.out.mono (by simp))) q
  have HLA := Lib.hid (HA.out.below hWb)
  have HWB := Lib.hid hWb
  clear hWb
  go_loop [6, 7] (fun av iv => ∃ (k : Nat) (v a : Int), k ≤ N ∧ iv = .int .i64 v ∧ Hid (v = k - 1) ∧ av = .int .i64 (-a) ∧ Hid (a = val (l.drop k))) (fun _ iv => (intOf iv + 1).toNat)
  case atStart => exact ⟨N, _, 0, by omega, rfl, rfl, rfl, by have h := HN.out; show _ = _; rw [List.drop_eq_nil_of_le (by omega)]; rfl⟩
  case round =>
    obtain ⟨k, v, a, hk, rfl, Hv, rfl, Ha⟩ := hrel
    rcases Nat.eq_zero_or_pos k with rfl | hk0
    · obtain rfl : v = -1 := Hv.out
      go_wp2
      go_ret2
      refine ⟨ret2i ?_ rfl, HWB.out⟩
      have h1 := Ha.out
      rw [List.drop_zero, HV.out] at h1
      rw [h1]
    · obtain ⟨j, rfl⟩ : ∃ j, k = j + 1 := ⟨k - 1, by omega⟩
      obtain rfl : v = (j : Int) := by have := Hv.out; omega
      obtain ⟨ad, rfl, hadb, hcell⟩ := lies_at HLA.out (k := j) (by have := HN.out; omega)
      have hd := dig_getD DM j
      have hvd := val_drop l j (by have := HN.out; omega)
      have hle := val_drop_le DM j
      have h0 := val_nonneg (dig_drop DM (j + 1))
      rw [HV.out] at hle
      rw [← Ha.out] at hvd h0
      have Hvd := Lib.hid hvd
      rw [hvd] at hle
      clear hvd
      generalize l.getD j 0 = d at *
      go_wp2
      all_goals
        exact ⟨⟨j, _, d + 65536 * a, by omega, rfl, rfl, (by congr 1; omega), Hvd.out.symm⟩, by simp [intOf]⟩

end Go.Proofs.Ytaeodkpkgbjaeaa

/-! Contracts of copseref01 by signed value: Both, Product, Turn, Int; Fits. -/
namespace Go.Proofs.Ytaeodkpkgbjaeaa
open Go.RowKit

/-- it is the sign of n (a nought may bear either) -/
def SgnOf (neg : Bool) (n : Int) : Prop := n ≠ 0 → neg = decide (n < 0)
def GivesZ (n : Int) (w : World) (e : Ending) (w' : World) : Prop :=
  ∃ neg A c, e = .returned (.agg #[.bool neg, .slice A (digs n.natAbs).length c]) ∧ SgnOf neg n ∧ Lies w' w'.heap.size A (digs n.natAbs) ∧ Below w.heap.size w w'
theorem givesZ_of {neg : Bool} {m n : Int} {w w' : World} {e : Ending} (h : GivesW neg m w e w') (hm : m = n.natAbs) (hs : SgnOf neg n) : GivesZ n w e w' := by
  obtain ⟨A, c, he, hc, _, hL, hb⟩ := h
  rw [hm] at he hL
  exact ⟨neg, A, c, he, hs, hL, hb⟩

theorem int_z (n : Int) (hn : I64 n) (w : World) : Calls Try.prog 193 #[.int .i64 n] w (GivesZ n w) :=
  (ref_int n hn w).mono fun _ _ h => givesZ_of h rfl (fun _ => rfl)

theorem turn_z (neg : Bool) (n : Int) (A : Option Addr) (c : Nat) (w : World) (hs : SgnOf neg n) (hA : Lies w w.heap.size A (digs n.natAbs)) :
    Calls Try.prog 194 #[.agg #[.bool neg, .slice A (digs n.natAbs).length c]] w (GivesZ (-n) w) :=
  (ref_turn neg A (digs n.natAbs).length c w).mono fun e w' ⟨he, hb⟩ => by
    refine ⟨!neg, A, c, by rw [Int.natAbs_neg]; exact he, fun h => ?_, ?_, hb⟩
    · rw [hs (by omega)]
      by_cases h2 : n < 0
      · have h3 : ¬ (-n < 0) := by omega
        rw [decide_eq_true h2, decide_eq_false h3]; rfl
      · have h3 : -n < 0 := by omega
        rw [decide_eq_false h2, decide_eq_true h3]; rfl
    · rw [Int.natAbs_neg]; exact (hA.below hb).mono hb.size

theorem both_z (na nb : Bool) (x y : Int) (A A2 : Option Addr) (ca cb : Nat) (w : World) (sx : SgnOf na x) (sy : SgnOf nb y) (hA : Lies w w.heap.size A (digs x.natAbs)) (hB : Lies w w.heap.size A2 (digs y.natAbs)) (hl : (digs x.natAbs).length + (digs y.natAbs).length ≤ 100000) :
    Calls Try.prog 192 #[.agg #[.bool na, .slice A (digs x.natAbs).length ca], .agg #[.bool nb, .slice A2 (digs y.natAbs).length cb]] w (GivesZ (x + y) w) := by
  have key : ∀ (b : Bool) (p : Prop) [Decidable p], (b = decide p) → ((b = true) ↔ p) := fun b p _ h => by rw [h]; simp
  by_cases hs : (na == nb) = true
  · have hs' : na = nb := by simpa using hs
    subst hs'
    have hsame : (0 ≤ x ∧ 0 ≤ y) ∨ (x ≤ 0 ∧ y ≤ 0) := by
      by_cases hx : x = 0
      · omega
      · by_cases hy : y = 0
        · omega
        · have h1 := key _ _ (sx hx)
          have h2 := key _ _ (sy hy)
          cases na <;> simp at h1 h2 <;> omega
    refine (both_same na na x.natAbs y.natAbs A A2 ca cb w (by omega) (by omega) hA hB hl hs).mono fun e w' h => givesZ_of h (by omega) (fun h => ?_)
    by_cases hx : x = 0
    · have := sy (by omega); rw [this]; congr 1; rw [eq_iff_iff]; omega
    · have := sx hx; rw [this]; congr 1; rw [eq_iff_iff]; omega
  · have hs' : (na == nb) = false := by simpa using hs
    have hne : na ≠ nb := by simpa using hs
    have hopp : (0 ≤ x ∧ y ≤ 0) ∨ (x ≤ 0 ∧ 0 ≤ y) := by
      by_cases hx : x = 0
      · omega
      · by_cases hy : y = 0
        · omega
        · have h1 := key _ _ (sx hx)
          have h2 := key _ _ (sy hy)
          cases na <;> cases nb <;> simp at h1 h2 hne <;> omega
    by_cases hle : (y.natAbs : Int) ≤ x.natAbs
    · refine (both_ge na nb x.natAbs y.natAbs A A2 ca cb w (by omega) (by omega) hA hB hl hs' hle).mono fun e w' h => givesZ_of h (by omega) (fun h => ?_)
      have := sx (by omega); rw [this]; congr 1; rw [eq_iff_iff]; omega
    · refine (both_lt na nb x.natAbs y.natAbs A A2 ca cb w (by omega) (by omega) hA hB hl hs' (by omega) (by omega)).mono fun e w' h => givesZ_of h (by omega) (fun h => ?_)
      have := sy (by omega); rw [this]; congr 1; rw [eq_iff_iff]; omega
end Go.Proofs.Ytaeodkpkgbjaeaa

/-! Contracts of copseref01: Add, Sub, Mul. -/
namespace Go.Proofs.Ytaeodkpkgbjaeaa
open Go.RowKit

theorem fits_z (neg : Bool) (n : Int) (A : Option Addr) (c : Nat) (w : World) (hs : SgnOf neg n) (hA : Lies w w.heap.size A (digs n.natAbs)) (hl : (digs n.natAbs).length ≤ 100000) :
    Calls Try.prog 191 #[.agg #[.bool neg, .slice A (digs n.natAbs).length c]] w fun e w' => e = .returned (fitV n) ∧ Below w.heap.size w w' := by
  by_cases h0 : n = 0
  · have hv : ∀ e : Ending, e = .returned (.tuple #[.int .i64 0, .int .i64 0]) → e = .returned (fitV n) := fun e h => h.trans (fitV_in (by unfold I64; omega) h0.symm)
    cases neg
    · exact (fits_pos n.natAbs A c w (by omega) hA hl (by unfold top; omega)).mono fun e w' ⟨he, hb⟩ => ⟨hv _ (by rw [he, h0]; rfl), hb⟩
    · exact (fits_neg n.natAbs A c w (by omega) hA hl (by unfold top; omega)).mono fun e w' ⟨he, hb⟩ => ⟨hv _ (by rw [he, h0]; rfl), hb⟩
  · have hn := hs h0
    by_cases hneg : n < 0
    · obtain rfl : neg = true := by rw [hn]; simpa using hneg
      have e1 : -(n.natAbs : Int) = n := by omega
      rcases Int.lt_or_le n (-9223372036854775808) with h1 | h1
      · exact (fits_gt true n.natAbs A c w (by omega) hA hl (by unfold top; omega)).mono fun e w' ⟨he, hb⟩ => ⟨he.trans (fitV_out (by unfold I64; omega)), hb⟩
      · by_cases h2 : n = -9223372036854775808
        · exact (fits_least n.natAbs A c w (by omega) hA hl (by unfold top; omega)).mono fun e w' ⟨he, hb⟩ => ⟨he.trans (fitV_in (by unfold I64; omega) e1), hb⟩
        · exact (fits_neg n.natAbs A c w (by omega) hA hl (by unfold top; omega)).mono fun e w' ⟨he, hb⟩ => ⟨he.trans (fitV_in (by unfold I64; omega) e1), hb⟩
    · obtain rfl : neg = false := by rw [hn]; simpa using hneg
      have e1 : (n.natAbs : Int) = n := by omega
      rcases Int.lt_or_le 9223372036854775808 n with h1 | h1
      · exact (fits_gt false n.natAbs A c w (by omega) hA hl (by unfold top; omega)).mono fun e w' ⟨he, hb⟩ => ⟨he.trans (fitV_out (by unfold I64; omega)), hb⟩
      · by_cases h2 : n = 9223372036854775808
        · exact (fits_eq n.natAbs A c w (by omega) hA hl (by unfold top; omega)).mono fun e w' ⟨he, hb⟩ => ⟨he.trans (fitV_out (by unfold I64; omega)), hb⟩
        · exact (fits_pos n.natAbs A c w (by omega) hA hl (by unfold top; omega)).mono fun e w' ⟨he, hb⟩ => ⟨he.trans (fitV_in (by unfold I64; omega) e1), hb⟩

theorem len_i64 {a : Int} (h : I64 a) : (digs a.natAbs).length ≤ 4 := digs_len _ 4 (by unfold I64 at h; unfold pw; omega)
theorem len_sum {a b : Int} (h : I64 a) (g : I64 b) : (digs (a + b).natAbs).length ≤ 5 := digs_len _ 5 (by unfold I64 at h g; unfold pw; omega)
theorem len_prod {a b : Int} (h : I64 a) (g : I64 b) : (digs (a * b).natAbs).length ≤ 8 := digs_len _ 8 (by have := mul_bd a b h g; unfold pw; omega)

/-- Turn, then Both: a less b -/
theorem turn_b (neg : Bool) (n : Int) (A : Option Addr) (c : Nat) (w : World) (hs : SgnOf neg n) (hA : Lies w w.heap.size A (digs n.natAbs)) :
    Calls Try.prog 194 #[.agg #[.bool neg, .slice A (digs n.natAbs).length c]] w fun e w' => ∃ neg' A' c', e = .returned (.agg #[.bool neg', .slice A' (digs n.natAbs).length c']) ∧ SgnOf neg' (-n) ∧ Lies w' w'.heap.size A' (digs n.natAbs) ∧ Below w.heap.size w w' :=
  (turn_z neg n A c w hs hA).mono fun e w' ⟨n5, A5, c5, he, s5, L5, b5⟩ => by
    rw [Int.natAbs_neg] at he L5
    exact ⟨n5, A5, c5, he, s5, L5, b5⟩
theorem both_b (na nb : Bool) (x y : Int) (A A2 : Option Addr) (ca cb : Nat) (w : World) (sx : SgnOf na x) (sy : SgnOf nb (-y)) (hA : Lies w w.heap.size A (digs x.natAbs)) (hB : Lies w w.heap.size A2 (digs y.natAbs)) (hl : (digs x.natAbs).length + (digs y.natAbs).length ≤ 100000) :
    Calls Try.prog 192 #[.agg #[.bool na, .slice A (digs x.natAbs).length ca], .agg #[.bool nb, .slice A2 (digs y.natAbs).length cb]] w (GivesZ (x - y) w) := by
  have h := both_z na nb x (-y) A A2 ca cb w sx sy hA (by rw [Int.natAbs_neg]; exact hB) (by rw [Int.natAbs_neg]; exact hl)
  rw [Int.natAbs_neg, ← Int.sub_eq_add_neg] at h
  exact h
theorem ref_subB (a b : Int) (ha : I64 a) (hb : I64 b) (w : World) :
    Calls Try.prog 151 #[.int .i64 a, .int .i64 b] w fun e w' => e = .returned (fitV (a - b)) ∧ Below w.heap.size w w' := by
  have la := len_i64 ha
  have lb := len_i64 hb
  have ls : (digs (a - b).natAbs).length ≤ 5 := digs_len _ 5 (by unfold I64 at ha hb; unfold pw; omega)
  go_enter Try.func151, Try.ntmps151
  go_wp2_with fail
  refine (int_z a ha _).mono ?_
  rintro e w1 ⟨na, A1, c1, rfl, s1, L1, b1⟩
  go_wp2_with fail
  refine (int_z b hb _).mono ?_
  rintro e w2 ⟨nb, A2, c2, rfl, s2, L2, b2⟩
  go_wp2_with fail
  refine (turn_b nb b A2 c2 _ s2 L2).mono ?_
  rintro e w5 ⟨n5, A5, c5, rfl, s5, L5, b5⟩
  go_wp2_with fail
  refine (both_b na n5 a b A1 A5 c1 c5 _ s1 s5 ((L1.below (b2.trans (b5.mono b2.size))).mono (b2.trans (b5.mono b2.size)).size) L5 (by omega)).mono ?_
  rintro e w3 ⟨ng, A3, c3, rfl, s3, L3, b3⟩
  go_wp2_with fail
  refine (fits_z _ (a - b) A3 c3 _ s3 L3 (by omega)).mono ?_
  rintro e w4 ⟨rfl, b4⟩
  go_wp2
  go_ret2
  exact ⟨rfl, (((b1.trans (b2.mono b1.size)).trans (b5.mono (by have := b1.size; have := b2.size; omega))).trans (b3.mono (by have := b1.size; have := b2.size; have := b5.size; omega))).trans (b4.mono (by have := b1.size; have := b2.size; have := b5.size; have := b3.size; omega))⟩
end Go.Proofs.Ytaeodkpkgbjaeaa
