/- RatN RatO RatI RatD RatE -/
import Derived.Test.YtaeodkpkgbjaeaaBase
import Derived.Test.YtaeodkpkgbjaeaaBigs
import Derived.Outline
import Derived.Test.YtaeodkpkgbjaeaaBigC
import Derived.Test.YtaeodkpkgbjaeaaWideA

/-! Plain arithmetic of ratios. -/
namespace Go.Proofs.Ytaeodkpkgbjaeaa
open Go.RowKit

/-- the greatest divisor, with the sign of q -/
def dv (p q : Int) : Int := if q < 0 then -(Int.gcd p q : Int) else Int.gcd p q
def rX (p q : Int) : Int := p / dv p q
def rY (p q : Int) : Int := q / dv p q
def Part (n : Int) : Prop := -1073741824 ≤ n ∧ n ≤ 1073741824
instance (n : Int) : Decidable (Part n) := by unfold Part; infer_instance
def ofP (p q : Int) : Int := if q = 0 then 0 else if Part (rX p q) ∧ Part (rY p q) then rX p q else 0
def ofQ (p q : Int) : Int := if q = 0 then 0 else if Part (rX p q) ∧ Part (rY p q) then rY p q else 0
def ofE (p q : Int) : Int := if q = 0 then 11 else if Part (rX p q) ∧ Part (rY p q) then 0 else 10
abbrev ofV (p q : Int) : Value := .tuple #[.agg #[.int .i64 (ofP p q), .int .i64 (ofQ p q)], .int .i64 (ofE p q)]
theorem ofV_z {p : Int} : Ending.returned (.tuple #[.agg #[.int .i64 0, .int .i64 0], .int .i64 11]) = .returned (ofV p 0) := by
  unfold ofV ofP ofQ ofE; rw [if_pos rfl, if_pos rfl, if_pos rfl]
theorem ofV_in {p q : Int} (h : q ≠ 0) (hf : Part (rX p q) ∧ Part (rY p q)) : Ending.returned (.tuple #[.agg #[.int .i64 (rX p q), .int .i64 (rY p q)], .int .i64 0]) = .returned (ofV p q) := by
  unfold ofV ofP ofQ ofE; rw [if_neg h, if_neg h, if_neg h, if_pos hf, if_pos hf, if_pos hf]
theorem ofV_out {p q : Int} (h : q ≠ 0) (hf : ¬ (Part (rX p q) ∧ Part (rY p q))) : Ending.returned (.tuple #[.agg #[.int .i64 0, .int .i64 0], .int .i64 10]) = .returned (ofV p q) := by
  unfold ofV ofP ofQ ofE; rw [if_neg h, if_neg h, if_neg h, if_neg hf, if_neg hf, if_neg hf]

theorem gcd_pos {p q : Int} (h : q ≠ 0) : 0 < (Int.gcd p q : Int) := by
  have := Int.gcd_pos_of_ne_zero_right p h
  omega
theorem dv_ne {p q : Int} (h : q ≠ 0) : dv p q ≠ 0 := by
  have := gcd_pos (p := p) h
  unfold dv; split <;> omega
theorem dv_p (p q : Int) : dv p q ∣ p := by
  unfold dv
  split
  · exact Int.neg_dvd.2 (Int.gcd_dvd_left p q)
  · exact Int.gcd_dvd_left p q
theorem dv_q (p q : Int) : dv p q ∣ q := by
  unfold dv
  split
  · exact Int.neg_dvd.2 (Int.gcd_dvd_right p q)
  · exact Int.gcd_dvd_right p q
theorem rX_mul (p q : Int) : rX p q * dv p q = p := Int.ediv_mul_cancel (dv_p p q)
theorem rY_mul (p q : Int) : rY p q * dv p q = q := Int.ediv_mul_cancel (dv_q p q)
theorem rY_pos {p q : Int} (h : q ≠ 0) : 0 < rY p q := by
  have hm := rY_mul p q
  have hg := gcd_pos (p := p) h
  rcases Int.lt_trichotomy (rY p q) 0 with hc | hc | hc
  · exfalso
    unfold dv at hm
    split at hm
    · have := Int.mul_pos_of_neg_of_neg hc (show -(Int.gcd p q : Int) < 0 by omega); omega
    · have := Int.mul_neg_of_neg_of_pos hc hg; omega
  · rw [hc] at hm; omega
  · exact hc
theorem dv_i64 {p q : Int} (hq : I64 q) (h : q ≠ 0) : I64 (dv p q) := by
  have h1 := Int.le_of_dvd (by have := gcd_pos (p := p) h; omega : (0 : Int) < (q.natAbs : Int)) (show (Int.gcd p q : Int) ∣ (q.natAbs : Int) by rw [Int.dvd_natAbs]; exact Int.gcd_dvd_right p q)
  have h2 := gcd_pos (p := p) h
  unfold I64 dv at *
  split
  · omega
  · omega
/-- the answer of divisor where gcd does not fit -/
theorem dv_big {p q : Int} (hq : I64 q) (h : q ≠ 0) (hg : ¬ Int.gcd p q ≤ 9223372036854775807) : dv p q = q := by
  have h1 := Int.le_of_dvd (by have := gcd_pos (p := p) h; omega : (0 : Int) < (q.natAbs : Int)) (show (Int.gcd p q : Int) ∣ (q.natAbs : Int) by rw [Int.dvd_natAbs]; exact Int.gcd_dvd_right p q)
  unfold I64 dv at *
  split <;> omega
end Go.Proofs.Ytaeodkpkgbjaeaa

/-! Contracts of package ratio: divisor, Of, Is. -/
namespace Go.Proofs.Ytaeodkpkgbjaeaa
open Go.RowKit

theorem rat_divisor (p q : Int) (hp : I64 p) (hq : I64 q) (h : q ≠ 0) (w : World) :
    Calls Try.prog 196 #[.int .i64 p, .int .i64 q] w fun e w' => e = .returned (.int .i64 (dv p q)) ∧ ∃ n, w' = w.drewN n := by
  have K := Lib.hid (fun W => num_gcd p q hp hq W)
  have hq' := id hq
  unfold I64 at hq'
  by_cases hg : Int.gcd p q ≤ 9223372036854775807
  · have KG : Hid (∀ W, Calls Try.prog 219 #[.int .i64 p, .int .i64 q] W fun e w' => e = .returned (.tuple #[.int .i64 (Int.gcd p q), .int .i64 0]) ∧ ∃ n, w' = W.drewN n) := by
      intro W
      have := num_gcd p q hp hq W
      rw [← gcdV_in rfl hg] at this
      exact this
    by_cases hn : q < 0
    · have HD : Hid (dv p q = -(Int.gcd p q : Int)) := by show _ = _; unfold dv; rw [if_pos hn]
      have h0 : (0 : Int) ≤ Int.gcd p q := by omega
      have h1 : (Int.gcd p q : Int) ≤ 9223372036854775807 := by omega
      generalize (Int.gcd p q : Int) = g at *
      go_enter Try.func196, Try.ntmps196
      go_wp2_with fail
      refine (KG.out _).mono ?_
      rintro e w' ⟨rfl, k, rfl⟩
      go_wp2
      go_ret
      exact ⟨ret1i HD.out.symm, k, rfl⟩
    · have HD : Hid (dv p q = (Int.gcd p q : Int)) := by show _ = _; unfold dv; rw [if_neg hn]
      have h0 : (0 : Int) ≤ Int.gcd p q := by omega
      have h1 : (Int.gcd p q : Int) ≤ 9223372036854775807 := by omega
      generalize (Int.gcd p q : Int) = g at *
      go_enter Try.func196, Try.ntmps196
      go_wp2_with fail
      refine (KG.out _).mono ?_
      rintro e w' ⟨rfl, k, rfl⟩
      go_wp2
      go_ret
      exact ⟨ret1i HD.out.symm, k, rfl⟩
  · have KG : Hid (∀ W, Calls Try.prog 219 #[.int .i64 p, .int .i64 q] W fun e w' => e = .returned (.tuple #[.int .i64 0, .int .i64 10]) ∧ ∃ n, w' = W.drewN n) := by
      intro W
      have := num_gcd p q hp hq W
      rw [← gcdV_out rfl hg] at this
      exact this
    have HD := Lib.hid (dv_big hq h hg)
    clear hg
    go_enter Try.func196, Try.ntmps196
    go_wp2_with fail
    refine (KG.out _).mono ?_
    rintro e w' ⟨rfl, k, rfl⟩
    go_wp2
    go_ret
    exact ⟨ret1i HD.out.symm, k, rfl⟩

/-- the closure of Of, where the part fits -/
theorem rat_part_in (n d : Int) (gd gf : Nat) (hn : I64 n) (hd : I64 d) (hd0 : d ≠ 0) (w : World) (hb : w.cell? ⟨gd, 0, none⟩ = some (.int .i64 d)) (hp : Part (n / d)) :
    Calls Try.prog 197 #[.int .i64 n, ptr gd 0, ptr gf 0] w fun e w' => e = .returned (.int .i64 (n / d)) ∧ ∃ k, w' = w.drewN k := by
  have hne : ¬ (n = -9223372036854775808 ∧ d = -1) := by
    rintro ⟨rfl, rfl⟩
    unfold Part at hp
    simp at hp
  have KD : Hid (∀ W, Calls Try.prog 198 #[.int .i64 n, .int .i64 d] W fun e w' => e = .returned (.tuple #[.int .i64 (n / d), .int .i64 (n % d), .int .i64 0]) ∧ ∃ k, w' = W.drewN k) := by
    intro W
    have := num_div n d hn hd W
    rw [← divV_ok hd0 hne rfl rfl] at this
    exact this
  have KC : Hid (∀ W, Calls Try.prog 199 #[.int .i64 (n / d), .int .i64 (-1073741824), .int .i64 1073741824] W fun e w' => e = .returned (.int .i64 (n / d)) ∧ W = w') := by
    intro W
    have := num_clamp (n / d) (-1073741824) 1073741824 W
    unfold Part at hp
    rw [if_neg (by omega), if_neg (by omega)] at this
    exact this
  clear hne
  unfold Part at hp
  obtain ⟨h1, h2⟩ := hp
  have h3 : (n / d != n / d) = false := by simp
  generalize n / d = x at *
  generalize n % d = y at *
  go_enter Try.func197, Try.ntmps197
  go_wp2_with fail
  refine (KD.out _).mono ?_
  rintro e w' ⟨rfl, k, rfl⟩
  go_wp2_with fail
  refine (KC.out _).mono ?_
  rintro e w' ⟨rfl, rfl⟩
  go_wp2
  go_ret
  exact ⟨rfl, k, rfl⟩
theorem clamp_ne {x : Int} (h : ¬ Part x) : (if x < -1073741824 then -1073741824 else if x > 1073741824 then 1073741824 else x) ≠ x := by
  unfold Part at h
  split
  · omega
  · split <;> omega
/-- the closure of Of, where the part does not fit -/
theorem rat_part_out (n d : Int) (gd gf : Nat) (hn : I64 n) (hd : I64 d) (hd0 : d ≠ 0) (w : World) (hb : w.cell? ⟨gd, 0, none⟩ = some (.int .i64 d)) (b : Bool) (hf : w.cell? ⟨gf, 0, none⟩ = some (.bool b)) (hz : w.frozen? ⟨gf, 0, none⟩ = false) (hp : ¬ Part (n / d)) :
    Calls Try.prog 197 #[.int .i64 n, ptr gd 0, ptr gf 0] w fun e w' => ∃ v, e = .returned (.int .i64 v) ∧ ∃ k, w' = (w.drewN k).setCell ⟨gf, 0, none⟩ (.bool false) := by
  by_cases hne : n = -9223372036854775808 ∧ d = -1
  · obtain ⟨rfl, rfl⟩ := hne
    have KD : Hid (∀ W, Calls Try.prog 198 #[.int .i64 (-9223372036854775808), .int .i64 (-1)] W fun e w' => e = .returned (.tuple #[.int .i64 0, .int .i64 0, .int .i64 10]) ∧ ∃ k, w' = W.drewN k) := by
      intro W
      have := num_div (-9223372036854775808) (-1) hn hd W
      rw [← divV_o] at this
      exact this
    clear hp
    go_enter Try.func197, Try.ntmps197
    go_wp2_with fail
    refine (KD.out _).mono ?_
    rintro e w' ⟨rfl, k, rfl⟩
    go_wp2
    go_ret
    exact ⟨_, rfl, k, rfl⟩
  · have KD : Hid (∀ W, Calls Try.prog 198 #[.int .i64 n, .int .i64 d] W fun e w' => e = .returned (.tuple #[.int .i64 (n / d), .int .i64 (n % d), .int .i64 0]) ∧ ∃ k, w' = W.drewN k) := by
      intro W
      have := num_div n d hn hd W
      rw [← divV_ok hd0 hne rfl rfl] at this
      exact this
    have hc := clamp_ne hp
    have KC := Lib.hid (fun W => num_clamp (n / d) (-1073741824) 1073741824 W)
    clear hne hp
    generalize n / d = x at *
    generalize n % d = y at *
    generalize (if x < -1073741824 then -1073741824 else if x > 1073741824 then 1073741824 else x) = c at *
    have hc2 : (c != x) = true := by simpa using hc
    have HC := Lib.hid hc
    clear hc
    go_enter Try.func197, Try.ntmps197
    go_wp2_with fail
    refine (KD.out _).mono ?_
    rintro e w' ⟨rfl, k, rfl⟩
    go_wp2_with fail
    refine (KC.out _).mono ?_
    rintro e w' ⟨rfl, rfl⟩
    go_wp2
    go_ret
    exact ⟨_, rfl, k, rfl⟩

theorem rat_of_z (p : Int) (w : World) : Calls Try.prog 156 #[.int .i64 p, .int .i64 0] w fun e w' => e = .returned (ofV p 0) ∧ Below w.heap.size w w' := by
  have HR := Lib.hid (ofV_z (p := p))
  have hX := Box.new w #[.int .i64 0, .int .i64 0] 141
  obtain ⟨x0, x1, x2, x3⟩ := hX.two
  clear hX
  go_enter Try.func156, Try.ntmps156
  go_wp2
  refine bodyPost_ret (v := .tuple #[.agg #[.int .i64 0, .int .i64 0], .int .i64 11]) ?_ rfl ⟨HR.out, (Below.refl _ _).alloc (Nat.le_refl _) _⟩
  simp [results, Try.results156, go_sem, x0, x1]

/-- the world in the middle of Of: the result, the divisor, whether all fits -/
def OfJ (B : Nat) (W : World) (d : Int) (b : Bool) (w : World) : Prop :=
  Box w B #[.int .i64 0, .int .i64 0] 141 ∧ Box w (B + 1) #[.int .i64 d] 3 ∧ Box w (B + 1 + 1) #[.bool b] 4 ∧ Below B W w ∧ w.heap.size = B + 3
theorem OfJ.drewN {B : Nat} {W : World} {d : Int} {b : Bool} {w : World} (h : OfJ B W d b w) (k : Nat) : OfJ B W d b (w.drewN k) :=
  ⟨h.1.drewN k, h.2.1.drewN k, h.2.2.1.drewN k, below_drewN h.2.2.2.1 k, h.2.2.2.2⟩
theorem OfJ.set {B : Nat} {W : World} {d : Int} {b : Bool} {w : World} (h : OfJ B W d b w) (c : Bool) : OfJ B W d c (w.setCell ⟨B + 1 + 1, 0, none⟩ (.bool c)) :=
  ⟨h.1.off (by simp; omega) _, h.2.1.off (by simp) _, h.2.2.1.set 0 _, h.2.2.2.1.setCell (p := ⟨B + 1 + 1, 0, none⟩) (by simp; omega) _, by rw [setCell_size]; exact h.2.2.2.2⟩

/-- what a call of the closure does -/
theorem rat_part {n d : Int} {B : Nat} {W w : World} {b : Bool} (hj : OfJ B W d b w) (hn : I64 n) (hd : I64 d) (hd0 : d ≠ 0) :
    Calls Try.prog 197 #[.int .i64 n, ptr (B + 1) 0, ptr (B + 1 + 1) 0] w fun e w' => ∃ v b', e = .returned (.int .i64 v) ∧ OfJ B W d b' w' ∧ (Part (n / d) → v = n / d ∧ b' = b) ∧ (¬ Part (n / d) → b' = false) := by
  by_cases hp : Part (n / d)
  · refine (rat_part_in n d (B + 1) (B + 1 + 1) hn hd hd0 w (hj.2.1.cell 0) hp).mono fun e w' h => ?_
    obtain ⟨he, k, rfl⟩ := h
    exact ⟨_, b, he, hj.drewN k, fun _ => ⟨rfl, rfl⟩, fun h => absurd hp h⟩
  · refine (rat_part_out n d (B + 1) (B + 1 + 1) hn hd hd0 w (hj.2.1.cell 0) b (hj.2.2.1.cell 0) (hj.2.2.1.free 0) hp).mono fun e w' h => ?_
    obtain ⟨v, he, k, rfl⟩ := h
    exact ⟨v, false, he, (hj.drewN k).set false, fun h => absurd h hp, fun _ => rfl⟩
set_option maxHeartbeats 1000000 in
theorem rat_of (p q : Int) (hp : I64 p) (hq : I64 q) (w : World) : Calls Try.prog 156 #[.int .i64 p, .int .i64 q] w fun e w' => e = .returned (ofV p q) ∧ Below w.heap.size w w' := by
  by_cases h0 : q = 0
  · subst h0; exact rat_of_z p w
  have hd := dv_i64 (p := p) hq h0
  have hd0 := dv_ne (p := p) h0
  have KD := Lib.hid (fun W => rat_divisor p q hp hq h0 W)
  have hqb : (q == 0) = false := by simpa using h0
  have hJ : ∀ k, OfJ w.heap.size w (dv p q) true ((((w.alloc (.cells #[.int .i64 0, .int .i64 0] 141)).drewN k).alloc (.cells #[.int .i64 (dv p q)] 3)).alloc (.cells #[.bool true] 4)) := by
    intro k
    show OfJ w.heap.size w (dv p q) true ((((w.alloc (.cells #[.int .i64 0, .int .i64 0] 141)).alloc (.cells #[.int .i64 (dv p q)] 3)).alloc (.cells #[.bool true] 4)).drewN k)
    have b1 := Box.new (w.alloc (.cells #[.int .i64 0, .int .i64 0] 141)) #[.int .i64 (dv p q)] 3
    have b2 := Box.new ((w.alloc (.cells #[.int .i64 0, .int .i64 0] 141)).alloc (.cells #[.int .i64 (dv p q)] 3)) #[.bool true] 4
    rw [alloc_size'] at b1
    rw [alloc_size', alloc_size'] at b2
    refine OfJ.drewN ⟨((Box.new w _ _).alloc _).alloc _, b1.alloc _, b2, (((Below.refl _ _).alloc (Nat.le_refl _) _).alloc (by simp) _).alloc (by simp; omega) _, by simp⟩ k
  have HJ := Lib.hid hJ
  have KP : Hid (∀ n B W w b, OfJ B W (dv p q) b w → I64 n → Calls Try.prog 197 #[.int .i64 n, ptr (B + 1) 0, ptr (B + 1 + 1) 0] w fun e w' => ∃ v b', e = .returned (.int .i64 v) ∧ OfJ B W (dv p q) b' w' ∧ (Part (n / dv p q) → v = n / dv p q ∧ b' = b) ∧ (¬ Part (n / dv p q) → b' = false)) := fun n B W w b hj hn => rat_part hj hn hd hd0
  clear hJ
  go_enter Try.func156, Try.ntmps156
  go_wp2_with fail
  refine (KD.out _).mono ?_
  rintro e w' ⟨rfl, k, rfl⟩
  have J0 := Lib.hid (HJ.out k)
  by_cases hf : Part (rX p q) ∧ Part (rY p q)
  · have HR := Lib.hid (ofV_in h0 hf)
    go_wp2_with fail
    refine (KP.out p _ _ _ _ J0.out hp).mono ?_
    rintro e w1 hh
    obtain ⟨v1, b1, rfl, J1, c1, -⟩ := hh
    obtain ⟨rfl, rfl⟩ := c1 hf.1
    have J1 := Lib.hid J1
    clear c1
    go_wp2_with fail
    refine (KP.out q _ _ _ _ J1.out hq).mono ?_
    rintro e w2 hh
    obtain ⟨v2, b2, rfl, J2, c2, -⟩ := hh
    obtain ⟨rfl, rfl⟩ := c2 hf.2
    have J2 := Lib.hid J2
    clear c2 hf
    have hs : w2.heap.size = w.heap.size + 1 + 1 + 1 := J2.out.2.2.2.2
    have X3 := Lib.hid (Box.new w2 #[.int .i64 (p / dv p q), .int .i64 (q / dv p q)] 141)
    have XR0 := Lib.hid J2.out.1
    have XB := Lib.hid (J2.out.2.2.1.alloc (.cells #[.int .i64 (p / dv p q), .int .i64 (q / dv p q)] 141))
    have XW := Lib.hid J2.out.2.2.2.1
    have z1 := XB.out.cell 0
    obtain ⟨x0, x1, _, _⟩ := X3.out.two
    obtain ⟨r0, r1, r2, r3⟩ := XR0.out.two
    simp at z1
    go_wp2
    have Z := (XR0.out.set2 (.int .i64 (p / dv p q)) (.int .i64 (q / dv p q))).alloc (.cells #[.int .i64 (p / dv p q), .int .i64 (q / dv p q)] 141)
    obtain ⟨k0, k1, _, _⟩ := Z.two
    refine bodyPost_ret (v := .tuple #[.agg #[.int .i64 (p / dv p q), .int .i64 (q / dv p q)], .int .i64 0]) ?_ rfl ⟨HR.out, ?_⟩
    · simp [results, Try.results156, go_sem, k0, k1]
    · exact ((XW.out.setCell (p := ⟨w.heap.size, 0, none⟩) (by simp) _).setCell (p := ⟨w.heap.size, 1, none⟩) (by simp) _).alloc (by simp; omega) _
  · have HR := Lib.hid (ofV_out h0 hf)
    go_wp2_with fail
    refine (KP.out p _ _ _ _ J0.out hp).mono ?_
    rintro e w1 hh
    obtain ⟨v1, b1, rfl, J1, c1, d1⟩ := hh
    have J1 := Lib.hid J1
    have HH : Hid (b1 = true → Part (rX p q)) := by
      intro hb
      exact Decidable.byContradiction fun hc => by rw [d1 hc] at hb; cases hb
    clear c1 d1
    go_wp2_with fail
    refine (KP.out q _ _ _ _ J1.out hq).mono ?_
    rintro e w2 hh
    obtain ⟨v2, b2, rfl, J2, c2, d2⟩ := hh
    obtain rfl : b2 = false := by
      by_cases hc : Part (rY p q)
      · rw [(c2 hc).2]
        cases hb : b1 with
        | false => rfl
        | true => exact absurd ⟨HH.out hb, hc⟩ hf
      · exact d2 hc
    have J2 := Lib.hid J2
    clear c2 d2 hf
    have hs : w2.heap.size = w.heap.size + 1 + 1 + 1 := J2.out.2.2.2.2
    have XR0 := Lib.hid J2.out.1
    have XR := Lib.hid (J2.out.1.alloc (.cells #[.int .i64 v1, .int .i64 v2] 141))
    have XB := Lib.hid (J2.out.2.2.1.alloc (.cells #[.int .i64 v1, .int .i64 v2] 141))
    have XW := Lib.hid J2.out.2.2.2.1
    have z1 := XB.out.cell 0
    obtain ⟨r0, r1, r2, r3⟩ := XR0.out.two
    simp at z1
    go_wp2
    have Z := (XR0.out.set2 (.int .i64 0) (.int .i64 0)).alloc (.cells #[.int .i64 v1, .int .i64 v2] 141)
    obtain ⟨k0, k1, _, _⟩ := Z.two
    refine bodyPost_ret (v := .tuple #[.agg #[.int .i64 0, .int .i64 0], .int .i64 10]) ?_ rfl ⟨HR.out, ?_⟩
    · simp [results, Try.results156, go_sem, k0, k1]
    · exact ((XW.out.setCell (p := ⟨w.heap.size, 0, none⟩) (by simp) _).setCell (p := ⟨w.heap.size, 1, none⟩) (by simp) _).alloc (by simp; omega) _
end Go.Proofs.Ytaeodkpkgbjaeaa

/-! Contracts of package ratio: Is, check. -/
namespace Go.Proofs.Ytaeodkpkgbjaeaa
open Go.RowKit

theorem ret_b {a b : Bool} (h : a = b) : Ending.returned (.bool a) = .returned (.bool b) := by rw [h]
def Valid (p q : Int) : Prop := (1 ≤ q ∧ q ≤ 1073741824) ∧ (-1073741824 ≤ p ∧ p ≤ 1073741824) ∧ Int.gcd p q = 1
instance (p q : Int) : Decidable (Valid p q) := by unfold Valid; infer_instance
def isB (p q : Int) : Bool := decide (Valid p q)
theorem isB_true {p q : Int} (h : isB p q = true) : Valid p q := of_decide_eq_true h
theorem isB_of {p q : Int} (h : Valid p q) : isB p q = true := decide_eq_true h
theorem isB_false {p q : Int} (h : isB p q = false) : ¬ Valid p q := of_decide_eq_false h
theorem dv_valid {p q : Int} (h : Valid p q) : dv p q = 1 := by
  unfold dv
  rw [if_neg (by have := h.1; omega), h.2.2]; rfl
theorem of_valid {p q : Int} (h : Valid p q) : ofV p q = .tuple #[.agg #[.int .i64 p, .int .i64 q], .int .i64 0] := by
  have e1 : rX p q = p := by unfold rX; rw [dv_valid h, Int.ediv_one]
  have e2 : rY p q = q := by unfold rY; rw [dv_valid h, Int.ediv_one]
  have h1 := h.1
  have := ofV_in (p := p) (q := q) (by omega) (by rw [e1, e2]; exact ⟨h.2.1, by unfold Part; omega⟩)
  rw [e1, e2] at this
  exact (Ending.returned.inj this).symm
theorem valid_of {p q : Int} (h : ofE p q = 0 ∧ ofP p q = p ∧ ofQ p q = q) : Valid p q := by
  obtain ⟨h1, h2, h3⟩ := h
  by_cases h0 : q = 0
  · unfold ofE at h1; rw [if_pos h0] at h1; omega
  by_cases hf : Part (rX p q) ∧ Part (rY p q)
  · unfold ofP at h2; unfold ofQ at h3
    rw [if_neg h0, if_pos hf] at h2 h3
    have hy := rY_pos (p := p) h0
    have hm := rY_mul p q
    have hd : dv p q = 1 := by
      have : rY p q * dv p q = rY p q * 1 := by rw [hm, Int.mul_one, h3]
      exact Int.eq_of_mul_eq_mul_left (by omega) this
    rw [h2, h3] at hf
    unfold Part at hf
    rw [h3] at hy
    refine ⟨by omega, by omega, ?_⟩
    unfold dv at hd
    rw [if_neg (by omega)] at hd
    omega
  · unfold ofE at h1; rw [if_neg h0, if_neg hf] at h1; omega
theorem valid_bd {p q : Int} (h : Valid p q) : I64 p ∧ I64 q := by
  have h1 := h.1; have h2 := h.2.1
  unfold I64; omega

theorem Box.four {w : World} {g : Nat} {a b c d : Value} {t : TypeId} (h : Box w g #[a, b, c, d] t) :
    w.cell? ⟨g, 0, none⟩ = some a ∧ w.cell? ⟨g, 1, none⟩ = some b ∧ w.cell? ⟨g, 2, none⟩ = some c ∧ w.cell? ⟨g, 3, none⟩ = some d :=
  ⟨h.cell 0, h.cell 1, h.cell 2, h.cell 3⟩
def chk1 (p q : Int) : Int := if isB p q then 0 else 30
def chk2 (p q p2 q2 : Int) : Int := if isB p q && isB p2 q2 then 0 else 30

theorem chk1_cases (p q : Int) : (Valid p q ∧ chk1 p q = 0) ∨ (¬ Valid p q ∧ chk1 p q = 30) := by
  unfold chk1
  cases h : isB p q with
  | true => exact .inl ⟨isB_true h, rfl⟩
  | false => exact .inr ⟨isB_false h, rfl⟩
theorem chk2_cases (p q p2 q2 : Int) : ((Valid p q ∧ Valid p2 q2) ∧ chk2 p q p2 q2 = 0) ∨ (¬ (Valid p q ∧ Valid p2 q2) ∧ chk2 p q p2 q2 = 30) := by
  unfold chk2
  cases h : isB p q with
  | true =>
    cases h2 : isB p2 q2 with
    | true => exact .inl ⟨⟨isB_true h, isB_true h2⟩, rfl⟩
    | false => exact .inr ⟨fun hc => isB_false h2 hc.2, rfl⟩
  | false => exact .inr ⟨fun hc => isB_false h hc.1, rfl⟩
end Go.Proofs.Ytaeodkpkgbjaeaa

/-! Contracts of package ratio: Add, Sub, Mul, Div, Cmp, Order. -/
namespace Go.Proofs.Ytaeodkpkgbjaeaa
open Go.RowKit

theorem prod_bd {a b : Int} (ha : -1073741824 ≤ a ∧ a ≤ 1073741824) (hb : -1073741824 ≤ b ∧ b ≤ 1073741824) : -1152921504606846976 ≤ a * b ∧ a * b ≤ 1152921504606846976 := by
  have h := Nat.mul_le_mul (show a.natAbs ≤ 1073741824 by omega) (show b.natAbs ≤ 1073741824 by omega)
  rw [← Int.natAbs_mul] at h
  omega
def doP (p q p2 q2 n d : Int) : Int := if Valid p q ∧ Valid p2 q2 then ofP n d else 0
def doQ (p q p2 q2 n d : Int) : Int := if Valid p q ∧ Valid p2 q2 then ofQ n d else 0
def doE (p q p2 q2 n d : Int) : Int := if Valid p q ∧ Valid p2 q2 then ofE n d else 30
abbrev doV (p q p2 q2 n d : Int) : Value := .tuple #[.agg #[.int .i64 (doP p q p2 q2 n d), .int .i64 (doQ p q p2 q2 n d)], .int .i64 (doE p q p2 q2 n d)]
theorem doV_in {p q p2 q2 n d : Int} (h : Valid p q ∧ Valid p2 q2) : ofV n d = doV p q p2 q2 n d := by
  unfold doV doP doQ doE; rw [if_pos h, if_pos h, if_pos h]
theorem doV_out {p q p2 q2 n d : Int} (h : ¬ (Valid p q ∧ Valid p2 q2)) : .tuple #[.agg #[.int .i64 0, .int .i64 0], .int .i64 30] = doV p q p2 q2 n d := by
  unfold doV doP doQ doE; rw [if_neg h, if_neg h, if_neg h]

end Go.Proofs.Ytaeodkpkgbjaeaa

/-! Contracts of package ratio: Cmp, Order, Ceil, Part, Floor. -/
namespace Go.Proofs.Ytaeodkpkgbjaeaa
open Go.RowKit

def cmN (p q p2 q2 : Int) : Int := if Valid p q ∧ Valid p2 q2 then cmpI (p * q2) (p2 * q) else 0
def cmE (p q p2 q2 : Int) : Int := if Valid p q ∧ Valid p2 q2 then 0 else 30
abbrev cmV (p q p2 q2 : Int) : Value := .tuple #[.int .i64 (cmN p q p2 q2), .int .i64 (cmE p q p2 q2)]
theorem ret2 {a b c d : Int} (h : a = c) (g : b = d) : Ending.returned (.tuple #[.int .i64 a, .int .i64 b]) = .returned (.tuple #[.int .i64 c, .int .i64 d]) := by rw [h, g]

def orN (p q r s : Int) : Int := if q < 1 ∨ s < 1 then 0 else cmpI (p * s) (r * q)
def orE (q s : Int) : Int := if q < 1 ∨ s < 1 then 1 else 0
abbrev orV (p q r s : Int) : Value := .tuple #[.int .i64 (orN p q r s), .int .i64 (orE q s)]
def ceN (p q : Int) : Int := if Valid p q then -(-p / q) else 0
def wholeE (p q : Int) : Int := if Valid p q then 0 else 30
abbrev ceV (p q : Int) : Value := .tuple #[.int .i64 (ceN p q), .int .i64 (wholeE p q)]
/-- the greatest number that is not above n times p divided by q -/
def paN (n p q : Int) : Int := if Valid p q then fitN (n * p / q) else 0
def paE (n p q : Int) : Int := if Valid p q then fitE (n * p / q) else 30
abbrev paV (n p q : Int) : Value := .tuple #[.int .i64 (paN n p q), .int .i64 (paE n p q)]
theorem drew_below {W w' : World} (h : ∃ k, w' = W.drewN k) : Below W.heap.size W w' := by
  obtain ⟨k, rfl⟩ := h
  exact ⟨rfl, rfl, rfl, Nat.le_refl _, fun _ _ => rfl⟩
theorem part_split (n p q : Int) (hq : 0 < q) : n * p / q = n / q * p + n % q * p / q := by
  have h := Int.mul_ediv_add_emod n q
  have e : n * p = q * (n / q * p) + n % q * p := by
    conv => lhs; rw [← h]
    rw [Int.add_mul, Int.mul_assoc]
  rw [e, Int.add_comm, Int.add_mul_ediv_left _ _ (Int.ne_of_gt hq), Int.add_comm]
end Go.Proofs.Ytaeodkpkgbjaeaa
