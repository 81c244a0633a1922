/- Contracts of package ratio: Cmp, Order, Ceil, Part, Floor. -/
import Derived.Test.YtbnpbflndnjmcaaDoorRatD
import Derived.Test.YtbnpbflndnjmcaaDoorNumV
namespace Go.Proofs.YtbnpbflndnjmcaaDoor
open Go.RowKit

def cmN (p q p2 q2 : Int) : Int := if Valid p q ∧ Valid p2 q2 then cmpI (p * q2) (p2 * q) else 0
def cmE (p q p2 q2 : Int) : Int := if Valid p q ∧ Valid p2 q2 then 0 else 30
abbrev cmV (p q p2 q2 : Int) : Value := .tuple #[.int .i64 (cmN p q p2 q2), .int .i64 (cmE p q p2 q2)]
theorem ret2 {a b c d : Int} (h : a = c) (g : b = d) : Ending.returned (.tuple #[.int .i64 a, .int .i64 b]) = .returned (.tuple #[.int .i64 c, .int .i64 d]) := by rw [h, g]

set_option maxHeartbeats 2000000 in
theorem rat_cmp (p q p2 q2 : Int) (hp : I64 p) (hq : I64 q) (hp2 : I64 p2) (hq2 : I64 q2) (w : World) :
    Calls Tryd.prog 20 #[.agg #[.int .i64 p, .int .i64 q], .agg #[.int .i64 p2, .int .i64 q2]] w fun e w' => e = .returned (cmV p q p2 q2) ∧ Below w.heap.size w w' := by
  have KC := Lib.hid (fun g t W hx => rat_check2 p q p2 q2 hp hq hp2 hq2 g t W hx)
  have KP := Lib.hid (fun W => wide_prods p q2 p2 q hp hq2 hp2 hq W)
  have J0 := Lib.hid (((Keeps.start w).alloc #[.int .i64 p, .int .i64 q] 23).alloc #[.int .i64 p2, .int .i64 q2] 23)
  simp only [alloc_size'] at J0
  have JC : Hid (∀ t, Keeps w.heap.size w _ _) := fun t => J0.out.alloc #[.int .i64 p, .int .i64 q, .int .i64 p2, .int .i64 q2] t
  simp only [alloc_size'] at JC
  rcases chk2_cases p q p2 q2 with ⟨hv, hc⟩ | ⟨hv, hc⟩
  · have e1 : Hid (cmN p q p2 q2 = cmpI (p * q2) (p2 * q)) := by show _ = _; unfold cmN; rw [if_pos hv]
    have e2 : Hid (cmE p q p2 q2 = 0) := by show _ = _; unfold cmE; rw [if_pos hv]
    rw [hc] at KC
    have HC := Lib.hid hc
    clear hc hv
    go_enter Tryd.func20, Tryd.ntmps20
    go_wp2_with fail
    refine (KC.out _ _ _ (JC.out _).head).mono ?_
    rintro e w1 ⟨rfl, c1⟩
    have J1 := Lib.hid ((JC.out _).below c1).tail
    obtain ⟨y0, y1, _, _⟩ := J1.out.head.two
    obtain ⟨x0, x1, _, _⟩ := J1.out.tail.head.two
    clear c1
    go_wp2_with fail
    refine (KP.out _).mono ?_
    rintro e w2 ⟨rfl, c2⟩
    have J2 := Lib.hid (J1.out.below c2)
    clear c2
    go_wp2
    go_ret2
    exact ⟨ret2 e1.out.symm e2.out.symm, J2.out.2.1⟩
  · have e1 : Hid (cmN p q p2 q2 = 0) := by show _ = _; unfold cmN; rw [if_neg hv]
    have e2 : Hid (cmE p q p2 q2 = 30) := by show _ = _; unfold cmE; rw [if_neg hv]
    rw [hc] at KC
    have HC := Lib.hid hc
    clear hc hv
    go_enter Tryd.func20, Tryd.ntmps20
    go_wp2_with fail
    refine (KC.out _ _ _ (JC.out _).head).mono ?_
    rintro e w1 ⟨rfl, c1⟩
    have J1 := Lib.hid ((JC.out _).below c1).tail
    clear c1
    go_wp2
    go_ret2
    exact ⟨ret2 e1.out.symm e2.out.symm, J1.out.2.1⟩

def orN (p q r s : Int) : Int := if q < 1 ∨ s < 1 then 0 else cmpI (p * s) (r * q)
def orE (q s : Int) : Int := if q < 1 ∨ s < 1 then 1 else 0
abbrev orV (p q r s : Int) : Value := .tuple #[.int .i64 (orN p q r s), .int .i64 (orE q s)]
theorem rat_order (p q r s : Int) (hp : I64 p) (hq : I64 q) (hr : I64 r) (hs : I64 s) (w : World) :
    Calls Tryd.prog 28 #[.int .i64 p, .int .i64 q, .int .i64 r, .int .i64 s] w fun e w' => e = .returned (orV p q r s) ∧ Below w.heap.size w w' := by
  have KP := Lib.hid (fun W => wide_prods p s r q hp hs hr hq W)
  by_cases h1 : q < 1
  · have e1 : Hid (orN p q r s = 0) := by show _ = _; unfold orN; rw [if_pos (.inl h1)]
    have e2 : Hid (orE q s = 1) := by show _ = _; unfold orE; rw [if_pos (.inl h1)]
    go_enter Tryd.func28, Tryd.ntmps28
    go_wp2
    go_ret2
    exact ⟨ret2 e1.out.symm e2.out.symm, Below.refl _ _⟩
  · by_cases h2 : s < 1
    · have e1 : Hid (orN p q r s = 0) := by show _ = _; unfold orN; rw [if_pos (.inr h2)]
      have e2 : Hid (orE q s = 1) := by show _ = _; unfold orE; rw [if_pos (.inr h2)]
      go_enter Tryd.func28, Tryd.ntmps28
      go_wp2
      go_ret2
      exact ⟨ret2 e1.out.symm e2.out.symm, Below.refl _ _⟩
    · have e1 : Hid (orN p q r s = cmpI (p * s) (r * q)) := by show _ = _; unfold orN; rw [if_neg (by omega)]
      have e2 : Hid (orE q s = 0) := by show _ = _; unfold orE; rw [if_neg (by omega)]
      go_enter Tryd.func28, Tryd.ntmps28
      go_wp2_with fail
      refine (KP.out _).mono ?_
      rintro e w2 ⟨rfl, c2⟩
      go_wp2
      go_ret2
      exact ⟨ret2 e1.out.symm e2.out.symm, c2⟩

def ceN (p q : Int) : Int := if Valid p q then -(-p / q) else 0
def wholeE (p q : Int) : Int := if Valid p q then 0 else 30
abbrev ceV (p q : Int) : Value := .tuple #[.int .i64 (ceN p q), .int .i64 (wholeE p q)]
set_option maxHeartbeats 2000000 in
theorem rat_ceil (p q : Int) (hp : I64 p) (hq : I64 q) (w : World) :
    Calls Tryd.prog 24 #[.agg #[.int .i64 p, .int .i64 q]] w fun e w' => e = .returned (ceV p q) ∧ Below w.heap.size w w' := by
  have KC := Lib.hid (fun g t W hx => rat_check1 p q hp hq g t W hx)
  have J0 := Lib.hid ((Keeps.start w).alloc #[.int .i64 p, .int .i64 q] 23)
  have JC : Hid (∀ t, Keeps w.heap.size w _ _) := fun t => J0.out.alloc #[.int .i64 p, .int .i64 q] t
  simp only [alloc_size'] at JC
  rcases chk1_cases p q with ⟨hv, hc⟩ | ⟨hv, hc⟩
  · have KP : Hid (∀ W, Calls Tryd.prog 45 #[.int .i64 p, .int .i64 q] W fun e w' => e = .returned (.tuple #[.int .i64 (-(-p / q)), .int .i64 0]) ∧ W = w') := by
      intro W
      have := num_ceil p q hp W
      rw [← ceilV_1 (by have := hv.1; omega) rfl] at this
      exact this
    have e1 : Hid (ceN p q = -(-p / q)) := by show _ = _; unfold ceN; rw [if_pos hv]
    have e2 : Hid (wholeE p q = 0) := by show _ = _; unfold wholeE; rw [if_pos hv]
    rw [hc] at KC
    have HC := Lib.hid hc
    clear hc hv
    generalize -(-p / q) = m at *
    go_enter Tryd.func24, Tryd.ntmps24
    go_wp2_with fail
    refine (KC.out _ _ _ (JC.out _).head).mono ?_
    rintro e w1 ⟨rfl, c1⟩
    have J1 := Lib.hid ((JC.out _).below c1).tail
    obtain ⟨x0, x1, _, _⟩ := J1.out.head.two
    clear c1
    go_wp2_with fail
    refine (KP.out _).mono ?_
    rintro e w2 ⟨rfl, rfl⟩
    go_wp2
    go_ret2
    exact ⟨ret2 e1.out.symm e2.out.symm, J1.out.2.1⟩
  · have e1 : Hid (ceN p q = 0) := by show _ = _; unfold ceN; rw [if_neg hv]
    have e2 : Hid (wholeE p q = 30) := by show _ = _; unfold wholeE; rw [if_neg hv]
    rw [hc] at KC
    have HC := Lib.hid hc
    clear hc hv
    go_enter Tryd.func24, Tryd.ntmps24
    go_wp2_with fail
    refine (KC.out _ _ _ (JC.out _).head).mono ?_
    rintro e w1 ⟨rfl, c1⟩
    have J1 := Lib.hid ((JC.out _).below c1).tail
    clear c1
    go_wp2
    go_ret2
    exact ⟨ret2 e1.out.symm e2.out.symm, J1.out.2.1⟩

/-- the greatest number that is not above n times p divided by q -/
def paN (n p q : Int) : Int := if Valid p q then fitN (n * p / q) else 0
def paE (n p q : Int) : Int := if Valid p q then fitE (n * p / q) else 30
abbrev paV (n p q : Int) : Value := .tuple #[.int .i64 (paN n p q), .int .i64 (paE n p q)]
theorem drew_below {W w' : World} (h : ∃ k, w' = W.drewN k) : Below W.heap.size W w' := by
  obtain ⟨k, rfl⟩ := h
  exact ⟨rfl, rfl, rfl, Nat.le_refl _, fun _ _ => rfl⟩
theorem part_split (n p q : Int) (hq : 0 < q) : n * p / q = n / q * p + n % q * p / q := by
  have h := Int.mul_ediv_add_emod n q
  have e : n * p = q * (n / q * p) + n % q * p := by
    conv => lhs; rw [← h]
    rw [Int.add_mul, Int.mul_assoc]
  rw [e, Int.add_comm, Int.add_mul_ediv_left _ _ (Int.ne_of_gt hq), Int.add_comm]
theorem dot_two (a b c d : Int) (ha : I64 a) (hb : I64 b) (hc : I64 c) (hd : I64 d) (w : World) :
    Calls Tryd.prog 47 #[.slice (some ⟨w.heap.size, 0, none⟩) 2 2, .slice (some ⟨w.heap.size + 1, 0, none⟩) 2 2] ((w.alloc (.cells #[.int .i64 a, .int .i64 b] 3)).alloc (.cells #[.int .i64 c, .int .i64 d] 3)) fun e w' =>
      e = .returned (fitV (a * c + b * d)) ∧ Below (w.heap.size + 1 + 1) ((w.alloc (.cells #[.int .i64 a, .int .i64 b] 3)).alloc (.cells #[.int .i64 c, .int .i64 d] 3)) w' :=
  (num_dot (some ⟨w.heap.size, 0, none⟩) (some ⟨w.heap.size + 1, 0, none⟩) [a, b] [c, d] 2 2 ((w.alloc (.cells #[.int .i64 a, .int .i64 b] 3)).alloc (.cells #[.int .i64 c, .int .i64 d] 3))
    (by intro x hx; simp only [List.mem_cons, List.not_mem_nil, or_false] at hx; rcases hx with rfl | rfl <;> assumption) (by intro x hx; simp only [List.mem_cons, List.not_mem_nil, or_false] at hx; rcases hx with rfl | rfl <;> assumption) rfl (by simp)
    (by rw [alloc_size', alloc_size']; exact ((lies_new w [a, b]).below (B := w.heap.size + 1) ((Below.refl _ _).alloc (by rw [alloc_size']; exact Nat.le_refl _) _)).mono (by omega))
    (by have h := lies_new (w.alloc (.cells #[.int .i64 a, .int .i64 b] 3)) [c, d]; rw [alloc_size'] at h; rw [alloc_size', alloc_size']; exact h)).mono
    fun e w' ⟨he, hb⟩ => ⟨he.trans (by simp [dotI]), by rw [alloc_size', alloc_size'] at hb; exact hb⟩
set_option maxHeartbeats 2000000 in
theorem rat_part_of (n p q : Int) (hn : I64 n) (hp : I64 p) (hq : I64 q) (w : World) :
    Calls Tryd.prog 26 #[.int .i64 n, .agg #[.int .i64 p, .int .i64 q]] w fun e w' => e = .returned (paV n p q) ∧ Below w.heap.size w w' := by
  have KC := Lib.hid (fun g t W hx => rat_check1 p q hp hq g t W hx)
  have J0 := Lib.hid ((Keeps.start w).alloc #[.int .i64 p, .int .i64 q] 23)
  have JC : Hid (∀ t, Keeps w.heap.size w _ _) := fun t => J0.out.alloc #[.int .i64 p, .int .i64 q] t
  simp only [alloc_size'] at JC
  rcases chk1_cases p q with ⟨hv, hc⟩ | ⟨hv, hc⟩
  · have q1 := hv.1
    have q2 := hv.2.1
    have hr : 0 ≤ n % q ∧ n % q < q := ⟨Int.emod_nonneg _ (by omega), Int.emod_lt_of_pos _ (by omega)⟩
    have hb := prod_bd (a := n % q) (b := p) (by omega) q2
    have K1 : Hid (∀ W, Calls Tryd.prog 35 #[.int .i64 n, .int .i64 q] W fun e w' => e = .returned (.tuple #[.int .i64 (n / q), .int .i64 (n % q), .int .i64 0]) ∧ Below W.heap.size W w') := by
      intro W
      have := num_div n q hn hq W
      rw [← divV_ok (by omega) (by omega) rfl rfl] at this
      exact this.mono fun _ _ h => ⟨h.1, drew_below h.2⟩
    have K2 : Hid (∀ W, Calls Tryd.prog 35 #[.int .i64 (n % q * p), .int .i64 q] W fun e w' => e = .returned (.tuple #[.int .i64 (n % q * p / q), .int .i64 (n % q * p % q), .int .i64 0]) ∧ Below W.heap.size W w') := by
      intro W
      have := num_div (n % q * p) q (by unfold I64; omega) hq W
      rw [← divV_ok (by omega) (by omega) rfl rfl] at this
      exact this.mono fun _ _ h => ⟨h.1, drew_below h.2⟩
    have i1 : I64 (n / q) := by
      unfold I64 at *
      have h1 := Int.mul_ediv_add_emod n q
      refine ⟨?_, ?_⟩
      · rcases Int.lt_or_le n 0 with h | h
        · have := Int.ediv_le_ediv (c := q) (by omega) (show -9223372036854775808 ≤ n by omega)
          refine Int.le_trans ?_ this
          exact Int.le_ediv_of_mul_le (by omega) (by omega)
        · have := Int.ediv_nonneg h (show 0 ≤ q by omega); omega
      · rcases Int.lt_or_le n 0 with h | h
        · have := Int.ediv_neg_of_neg_of_pos h (show 0 < q by omega); omega
        · have := Int.ediv_le_self q h; omega
    have i2 : I64 (n % q * p / q) := by
      unfold I64
      refine ⟨?_, ?_⟩
      · exact Int.le_ediv_of_mul_le (by omega) (by omega)
      · rcases Int.lt_or_le (n % q * p) 0 with h | h
        · have := Int.ediv_neg_of_neg_of_pos h (show 0 < q by omega); omega
        · have := Int.ediv_le_self q h; omega
    have KD := Lib.hid (fun W => dot_two (n / q) (n % q * p / q) p 1 i1 i2 hp (by unfold I64; omega) W)
    have hs : Hid (n / q * p + n % q * p / q * 1 = n * p / q) := by
      show _ = _
      rw [Int.mul_one, part_split n p q (by omega)]
    rw [hs.out] at KD
    have e1 : Hid (paN n p q = fitN (n * p / q)) := by show _ = _; unfold paN; rw [if_pos hv]
    have e2 : Hid (paE n p q = fitE (n * p / q)) := by show _ = _; unfold paE; rw [if_pos hv]
    rw [hc] at KC
    have HC := Lib.hid hc
    clear hc hv hs i1 i2 q1 q2
    obtain ⟨hb1, hb2⟩ := hb
    go_enter Tryd.func26, Tryd.ntmps26
    go_wp2_with fail
    refine (KC.out _ _ _ (JC.out _).head).mono ?_
    rintro e w1 ⟨rfl, c1⟩
    have J1 := Lib.hid ((JC.out _).below c1).tail
    obtain ⟨x0, x1, _, _⟩ := J1.out.head.two
    clear c1
    go_wp2_with fail
    refine (K1.out _).mono ?_
    rintro e w2 ⟨rfl, c2⟩
    have J2 := Lib.hid (J1.out.below c2)
    obtain ⟨x0, x1, _, _⟩ := J2.out.head.two
    clear c2
    go_wp2_with fail
    refine (K2.out _).mono ?_
    rintro e w3 ⟨rfl, c3⟩
    have J3 := Lib.hid (J2.out.below c3)
    obtain ⟨x0, x1, _, _⟩ := J3.out.head.two
    have z1 : w.heap.size < w3.heap.size := J3.out.head.lt
    clear c3
    go_wp2_with fail
    refine (KD.out _).mono ?_
    rintro e w4 ⟨rfl, c4⟩
    go_wp2
    go_ret2
    refine ⟨ret2 e1.out.symm e2.out.symm, ?_⟩
    exact ((J3.out.2.1.alloc (by omega) _).alloc (by simp; omega) _).trans (c4.mono (by omega))
  · have e1 : Hid (paN n p q = 0) := by show _ = _; unfold paN; rw [if_neg hv]
    have e2 : Hid (paE n p q = 30) := by show _ = _; unfold paE; rw [if_neg hv]
    rw [hc] at KC
    have HC := Lib.hid hc
    clear hc hv
    go_enter Tryd.func26, Tryd.ntmps26
    go_wp2_with fail
    refine (KC.out _ _ _ (JC.out _).head).mono ?_
    rintro e w1 ⟨rfl, c1⟩
    have J1 := Lib.hid ((JC.out _).below c1).tail
    clear c1
    go_wp2
    go_ret2
    exact ⟨ret2 e1.out.symm e2.out.symm, J1.out.2.1⟩
theorem rat_floor (p q : Int) (hp : I64 p) (hq : I64 q) (w : World) :
    Calls Tryd.prog 22 #[.agg #[.int .i64 p, .int .i64 q]] w fun e w' => e = .returned (paV 1 p q) ∧ Below w.heap.size w w' := by
  have K := Lib.hid (fun W => rat_part_of 1 p q (by unfold I64; omega) hp hq W)
  have J0 := Lib.hid ((Keeps.start w).alloc #[.int .i64 p, .int .i64 q] 23)
  go_enter Tryd.func22, Tryd.ntmps22
  go_wp2_with fail
  refine (K.out _).mono ?_
  rintro e w2 ⟨rfl, c2⟩
  go_wp2
  go_ret2
  exact ⟨rfl, (J0.out.below c2).2.1⟩
end Go.Proofs.YtbnpbflndnjmcaaDoor
