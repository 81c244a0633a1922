/- Layer 24 (crc): the numbers: a register's steps, in Nat. -/
import Derived.Test.YtkfmebdpfjjkjaaDoorBase
namespace Go.Proofs.YtkfmebdpfjjkjaaDoor
set_option linter.unusedVariables false
set_option linter.unusedSimpArgs false

/-- one step of a register -/
def st1 (r : Nat) : Nat := if r % 2 = 1 then r / 2 ^^^ 3988292384 else r / 2
def stN : Nat → Nat → Nat
  | 0, r => r
  | n + 1, r => stN n (st1 r)
/-- a register behind bytes -/
def feed (r : Nat) : List Int → Nat
  | [] => r
  | c :: l => feed (stN 8 (r ^^^ c.toNat)) l

theorem xor_div2 (a b : Nat) : (a ^^^ b) / 2 = a / 2 ^^^ b / 2 := by
  have := Nat.xor_div_two_pow (a := a) (b := b) (n := 1)
  simpa using this
theorem xor_mod2 (a b : Nat) : (a ^^^ b) % 2 = (a + b) % 2 := by
  have h := Nat.xor_mod_two_pow (a := a) (b := b) (n := 1)
  rw [Nat.pow_one] at h
  rw [h]
  rcases Nat.mod_two_eq_zero_or_one a with ha | ha <;> rcases Nat.mod_two_eq_zero_or_one b with hb | hb <;> rw [ha, hb, Nat.add_mod, ha, hb] <;> rfl
theorem st1_xor (a b : Nat) : st1 (a ^^^ b) = st1 a ^^^ st1 b := by
  unfold st1
  rw [xor_div2, xor_mod2]
  rcases Nat.mod_two_eq_zero_or_one a with ha | ha <;> rcases Nat.mod_two_eq_zero_or_one b with hb | hb
  · rw [if_neg (by omega), if_neg (by omega), if_neg (by omega)]
  · rw [if_pos (by omega), if_neg (by omega), if_pos (by omega)]; ac_rfl
  · rw [if_pos (by omega), if_pos (by omega), if_neg (by omega)]; ac_rfl
  · rw [if_neg (by omega), if_pos (by omega), if_pos (by omega)]
    have : a / 2 ^^^ 3988292384 ^^^ (b / 2 ^^^ 3988292384) = (a / 2 ^^^ b / 2) ^^^ (3988292384 ^^^ 3988292384) := by ac_rfl
    rw [this, Nat.xor_self, Nat.xor_zero]
theorem st1_lt {r : Nat} (h : r < 2 ^ 32) : st1 r < 2 ^ 32 := by
  unfold st1
  split
  · exact Nat.xor_lt_two_pow (by omega) (by omega)
  · omega
theorem st1_zero {r : Nat} (h : r < 2 ^ 32) (h0 : st1 r = 0) : r = 0 := by
  unfold st1 at h0
  split at h0
  · have : r / 2 = 3988292384 := by
      have e : r / 2 ^^^ 3988292384 ^^^ 3988292384 = 0 ^^^ 3988292384 := by rw [h0]
      rw [Nat.xor_assoc, Nat.xor_self, Nat.xor_zero, Nat.zero_xor] at e
      exact e
    omega
  · omega
theorem stN_xor : ∀ (n a b : Nat), stN n (a ^^^ b) = stN n a ^^^ stN n b
  | 0, _, _ => rfl
  | n + 1, a, b => by show stN n (st1 (a ^^^ b)) = _; rw [st1_xor, stN_xor n]; rfl
theorem stN_lt : ∀ (n : Nat) {r : Nat}, r < 2 ^ 32 → stN n r < 2 ^ 32
  | 0, _, h => h
  | n + 1, _, h => stN_lt n (st1_lt h)
theorem stN_zero : ∀ (n : Nat) {r : Nat}, r < 2 ^ 32 → stN n r = 0 → r = 0
  | 0, _, _, h0 => h0
  | n + 1, _, h, h0 => st1_zero h (stN_zero n (st1_lt h) h0)
theorem stN_0 : ∀ n, stN n 0 = 0
  | 0 => rfl
  | n + 1 => stN_0 n
theorem stN_add : ∀ (n m r : Nat), stN (n + m) r = stN m (stN n r)
  | 0, m, r => by rw [Nat.zero_add]; rfl
  | n + 1, m, r => by rw [show n + 1 + m = (n + m) + 1 from by omega]; exact stN_add n m (st1 r)
theorem stN_one (r : Nat) : stN 1 r = st1 r := rfl
theorem stN_succ (n r : Nat) : stN (n + 1) r = st1 (stN n r) := by rw [stN_add]; rfl
theorem split_xor (q m : Nat) (hm : m < 16) : 16 * q + m = (16 * q) ^^^ m := by
  apply Nat.eq_of_testBit_eq
  intro j
  have e : (16 : Nat) = 2 ^ 4 := rfl
  rw [Nat.testBit_xor, e, Nat.testBit_two_pow_mul_add q (by omega : m < 2 ^ 4), Nat.testBit_two_pow_mul]
  by_cases hj : j < 4
  · rw [if_pos hj, decide_eq_false (by omega), Bool.false_and, Bool.false_xor]
  · rw [if_neg hj, decide_eq_true (by omega), Bool.true_and, Nat.testBit_lt_two_pow (Nat.lt_of_lt_of_le (by omega : m < 2 ^ 4) (Nat.pow_le_pow_right (by omega) (by omega))), Bool.xor_false]
/-- what four shifts combine the others with -/
def tabC : List Nat := [0, 498536548, 997073096, 651767980, 1994146192, 1802195444, 1303535960, 1342533948, 3988292384, 4027552580, 3604390888, 3412177804, 2607071920, 2262029012, 2685067896, 3183342108]
theorem st4 (r : Nat) : stN 4 r = r / 16 ^^^ tabC.getD (r % 16) 0 := by
  have h1 : ∀ x, st1 (2 * x) = x := fun x => by unfold st1; rw [if_neg (by omega)]; omega
  have hq : stN 4 (16 * (r / 16)) = r / 16 := by
    show st1 (st1 (st1 (st1 (16 * (r / 16))))) = _
    rw [show 16 * (r / 16) = 2 * (2 * (2 * (2 * (r / 16)))) from by omega, h1, h1, h1, h1]
  have hm : ∀ m, m < 16 → stN 4 m = tabC.getD m 0 := by decide
  conv => lhs; rw [← Nat.div_add_mod r 16]
  rw [split_xor _ _ (Nat.mod_lt _ (by omega)), stN_xor, hq, hm _ (Nat.mod_lt _ (by omega))]
theorem tab_lt (m : Nat) : tabC.getD m 0 < 2 ^ 32 := by
  by_cases h : m < 16
  · have : ∀ k, k < 16 → tabC.getD k 0 < 2 ^ 32 := by decide
    exact this m h
  · rw [List.getD_eq_getElem?_getD, List.getElem?_eq_none (by show 16 ≤ m; omega)]; decide
theorem feed_append : ∀ (l : List Int) (r : Nat) (k : List Int), feed r (l ++ k) = feed (feed r l) k
  | [], _, _ => rfl
  | c :: l, r, k => feed_append l _ k
theorem feed_lt : ∀ (l : List Int) {r : Nat}, r < 2 ^ 32 → (∀ x ∈ l, 0 ≤ x ∧ x < 256) → feed r l < 2 ^ 32
  | [], _, h, _ => h
  | c :: l, r, h, hb => feed_lt l (stN_lt 8 (Nat.xor_lt_two_pow h (by have := hb c (by simp); omega))) (fun x hx => hb x (by simp [hx]))
/-- a register's part, and that of the bytes -/
theorem feed_split : ∀ (l : List Int) (r : Nat), feed r l = stN (8 * l.length) r ^^^ feed 0 l
  | [], r => by show r = stN 0 r ^^^ 0; rw [Nat.xor_zero]; rfl
  | c :: l, r => by
    show feed (stN 8 (r ^^^ c.toNat)) l = stN (8 * (l.length + 1)) r ^^^ feed (stN 8 (0 ^^^ c.toNat)) l
    rw [feed_split l (stN 8 (r ^^^ c.toNat)), feed_split l (stN 8 (0 ^^^ c.toNat)), stN_xor, stN_xor 8 0, stN_0, Nat.zero_xor, stN_xor, show 8 * (l.length + 1) = 8 + 8 * l.length from by omega, stN_add]
    ac_rfl
/-- the sum of bytes behind a sum -/
def notC (r : Nat) : Nat := r ^^^ 4294967295
def moreC (s : Nat) (l : List Int) : Nat := notC (feed (notC s) l)
def sumC (l : List Int) : Nat := moreC 0 l
theorem notC_lt {r : Nat} (h : r < 2 ^ 32) : notC r < 2 ^ 32 := Nat.xor_lt_two_pow h (by omega)
theorem notC_notC (r : Nat) : notC (notC r) = r := by unfold notC; rw [Nat.xor_assoc, Nat.xor_self, Nat.xor_zero]
theorem moreC_lt {s : Nat} {l : List Int} (h : s < 2 ^ 32) (hb : ∀ x ∈ l, 0 ≤ x ∧ x < 256) : moreC s l < 2 ^ 32 := notC_lt (feed_lt l (notC_lt h) hb)
theorem moreC_sumC (a b : List Int) : moreC (sumC a) b = sumC (a ++ b) := by
  unfold sumC moreC
  rw [notC_notC, feed_append]
theorem join_sum (a b : List Int) : stN (8 * b.length) (sumC a) ^^^ sumC b = sumC (a ++ b) := by
  unfold sumC moreC
  rw [feed_append, feed_split b (feed (notC 0) a), feed_split b (notC 0)]
  unfold notC
  rw [stN_xor, Nat.zero_xor]
  generalize stN (8 * b.length) (feed 4294967295 a) = x
  generalize stN (8 * b.length) 4294967295 = y
  generalize feed 0 b = z
  have : x ^^^ y ^^^ (y ^^^ z ^^^ 4294967295) = x ^^^ z ^^^ 4294967295 ^^^ (y ^^^ y) := by ac_rfl
  rw [this, Nat.xor_self, Nat.xor_zero]
/-- the product of two registers, step by step -/
def prC : Nat → Nat → Nat → Nat
  | 0, _, _ => 0
  | n + 1, a, b => (if a / 2147483648 % 2 = 1 then b else 0) ^^^ prC n (2 * a % 4294967296) (st1 b)
theorem prC_zero : ∀ (n b : Nat), prC n 0 b = 0
  | 0, _ => rfl
  | n + 1, b => by show (if 0 / 2147483648 % 2 = 1 then b else 0) ^^^ prC n (2 * 0 % 4294967296) (st1 b) = 0; rw [if_neg (by omega), Nat.mul_zero, Nat.zero_mod, prC_zero n]; rfl
theorem prC_st1 : ∀ (n a b : Nat), prC n a (st1 b) = st1 (prC n a b)
  | 0, _, _ => by show 0 = st1 0; decide
  | n + 1, a, b => by
    show (if a / 2147483648 % 2 = 1 then st1 b else 0) ^^^ prC n (2 * a % 4294967296) (st1 (st1 b)) = st1 ((if a / 2147483648 % 2 = 1 then b else 0) ^^^ prC n (2 * a % 4294967296) (st1 b))
    rw [prC_st1 n, st1_xor]
    congr 1
    split <;> rfl
theorem prC_stN : ∀ (m a b : Nat), prC 32 a (stN m b) = stN m (prC 32 a b)
  | 0, _, _ => rfl
  | m + 1, a, b => by show prC 32 a (stN m (st1 b)) = stN m (st1 (prC 32 a b)); rw [prC_stN m, prC_st1]
theorem st1_pow (k : Nat) : st1 (2 ^ (k + 1)) = 2 ^ k := by
  unfold st1
  rw [Nat.pow_succ, if_neg (by omega)]
  omega
theorem bit_xor (k a : Nat) : (if a / 2 ^ k % 2 = 1 then 2 ^ k else 0) ^^^ a % 2 ^ k = a % 2 ^ (k + 1) := by
  apply Nat.eq_of_testBit_eq
  intro j
  rw [Nat.testBit_xor, Nat.testBit_mod_two_pow, Nat.testBit_mod_two_pow]
  have hb : (if a / 2 ^ k % 2 = 1 then 2 ^ k else 0).testBit j = (decide (j = k) && a.testBit k) := by
    have ht : a.testBit k = decide (a / 2 ^ k % 2 = 1) := by
      rw [Nat.testBit_eq_decide_div_mod_eq]
    rw [ht]
    split
    · rename_i h
      rw [decide_eq_true h, Bool.and_true, Nat.testBit_two_pow]
      by_cases e : k = j
      · subst e; simp
      · rw [decide_eq_false e, decide_eq_false (Ne.symm e)]
    · rename_i h
      rw [decide_eq_false h, Bool.and_false, Nat.zero_testBit]
  rw [hb]
  by_cases h1 : j = k
  · subst h1; rw [decide_eq_true rfl, decide_eq_false (Nat.lt_irrefl _), decide_eq_true (Nat.lt_succ_self _)]; simp
  · rw [decide_eq_false h1, Bool.false_and, Bool.false_xor]
    by_cases h2 : j < k
    · rw [decide_eq_true h2, decide_eq_true (by omega)]
    · rw [decide_eq_false h2, decide_eq_false (by omega)]
/-- by the power 0 -/
theorem prC_pow : ∀ (n a : Nat), n ≤ 32 → prC n (a * 2 ^ (32 - n) % 4294967296) (2 ^ (n - 1)) = a % 2 ^ n
  | 0, a, _ => by show 0 = a % 1; omega
  | n + 1, a, h => by
    have ih := prC_pow n a (by omega)
    show (if a * 2 ^ (32 - (n + 1)) % 4294967296 / 2147483648 % 2 = 1 then 2 ^ (n + 1 - 1) else 0) ^^^ prC n (2 * (a * 2 ^ (32 - (n + 1)) % 4294967296) % 4294967296) (st1 (2 ^ (n + 1 - 1))) = a % 2 ^ (n + 1)
    have e1 : 2 * (a * 2 ^ (32 - (n + 1)) % 4294967296) % 4294967296 = a * 2 ^ (32 - n) % 4294967296 := by
      rw [show 32 - n = (32 - (n + 1)) + 1 from by omega, Nat.pow_succ, ← Nat.mul_assoc]
      generalize a * 2 ^ (32 - (n + 1)) = z
      omega
    have e2 : a * 2 ^ (32 - (n + 1)) % 4294967296 / 2147483648 % 2 = a / 2 ^ n % 2 := by
      have hp : (2 : Nat) ^ (32 - (n + 1)) * 2 ^ n = 2147483648 := by rw [← Nat.pow_add, show 32 - (n + 1) + n = 31 from by omega]
      have h1 : a * 2 ^ (32 - (n + 1)) % 4294967296 / 2147483648 % 2 = a * 2 ^ (32 - (n + 1)) / 2147483648 % 2 := by
        generalize a * 2 ^ (32 - (n + 1)) = z
        omega
      rw [h1, ← hp, Nat.mul_comm a, Nat.mul_div_mul_left _ _ (Nat.two_pow_pos _)]
    rw [e1, e2, Nat.add_sub_cancel]
    cases n with
    | zero =>
      show (if a / 2 ^ 0 % 2 = 1 then 2 ^ 0 else 0) ^^^ 0 = _
      have := bit_xor 0 a
      rw [Nat.pow_zero, Nat.mod_one] at this
      exact this
    | succ m =>
      rw [st1_pow m]
      rw [show m + 1 - 1 = m from by omega] at ih
      rw [ih]
      exact bit_xor (m + 1) a
theorem prC_one {a : Nat} (h : a < 2 ^ 32) : prC 32 a 2147483648 = a := by
  have := prC_pow 32 a (Nat.le_refl _)
  rw [show 32 - 32 = 0 from rfl, Nat.pow_zero, Nat.mul_one, Nat.mod_eq_of_lt (by omega : a < 4294967296)] at this
  exact this
theorem prC_sq {a : Nat} (h : a < 2 ^ 32) (m : Nat) : prC 32 a (stN m 2147483648) = stN m a := by rw [prC_stN, prC_one h]
/-- the four bytes of a sum -/
def le4 (m : Nat) : List Int := [((m % 256 : Nat) : Int), ((m / 256 % 256 : Nat) : Int), ((m / 65536 % 256 : Nat) : Int), ((m / 16777216 % 256 : Nat) : Int)]
theorem le4_len (m : Nat) : (le4 m).length = 4 := rfl
theorem split_xor8 (m : Nat) : m = (256 * (m / 256)) ^^^ m % 256 := by
  conv => lhs; rw [← Nat.div_add_mod m 256]
  apply Nat.eq_of_testBit_eq
  intro j
  have e : (256 : Nat) = 2 ^ 8 := rfl
  have hm : m % 2 ^ 8 < 2 ^ 8 := Nat.mod_lt _ (Nat.two_pow_pos _)
  rw [Nat.testBit_xor, e, Nat.testBit_two_pow_mul_add _ hm, Nat.testBit_two_pow_mul]
  by_cases hj : j < 8
  · rw [if_pos hj, decide_eq_false (by omega), Bool.false_and, Bool.false_xor]
  · rw [if_neg hj, decide_eq_true (by omega), Bool.true_and, Nat.testBit_lt_two_pow (Nat.lt_of_lt_of_le hm (Nat.pow_le_pow_right (by omega) (by omega))), Bool.xor_false]
theorem st1_dbl (x : Nat) : st1 (2 * x) = x := by unfold st1; rw [if_neg (by omega)]; omega
theorem stN8_mul (q : Nat) : stN 8 (256 * q) = q := by
  show st1 (st1 (st1 (st1 (st1 (st1 (st1 (st1 (256 * q)))))))) = q
  rw [show 256 * q = 2 * (2 * (2 * (2 * (2 * (2 * (2 * (2 * q))))))) from by omega, st1_dbl, st1_dbl, st1_dbl, st1_dbl, st1_dbl, st1_dbl, st1_dbl, st1_dbl]
theorem stN_byte (n R m : Nat) : stN (8 + n) (R ^^^ m) = stN n (stN 8 (R ^^^ m % 256) ^^^ m / 256) := by
  rw [stN_add]
  congr 1
  conv => lhs; rw [split_xor8 m]
  rw [stN_xor, stN_xor, stN8_mul, stN_xor]
  ac_rfl
theorem feed_le4 (R m : Nat) (hm : m < 2 ^ 32) : feed R (le4 m) = stN 32 (R ^^^ m) := by
  rw [show (32 : Nat) = 8 + (8 + (8 + (8 + 0))) from rfl, stN_byte, stN_byte, stN_byte, stN_byte]
  have e4 : m / 256 / 256 / 256 / 256 = 0 := by omega
  rw [e4, Nat.xor_zero]
  show stN 8 (stN 8 (stN 8 (stN 8 (R ^^^ (((m % 256 : Nat) : Int)).toNat) ^^^ (((m / 256 % 256 : Nat) : Int)).toNat) ^^^ (((m / 65536 % 256 : Nat) : Int)).toNat) ^^^ (((m / 16777216 % 256 : Nat) : Int)).toNat) = _
  rw [Int.toNat_natCast, Int.toNat_natCast, Int.toNat_natCast, Int.toNat_natCast]
  rw [show m / 65536 % 256 = m / 256 / 256 % 256 from by omega, show m / 16777216 % 256 = m / 256 / 256 / 256 % 256 from by omega]
  rfl
/-- sealed bytes leave one register, whatever they are -/
theorem feed_sealed {x : List Int} (hb : ∀ y ∈ x, 0 ≤ y ∧ y < 256) : feed 4294967295 (x ++ le4 (sumC x)) = stN 32 4294967295 := by
  have h1 : sumC x < 2 ^ 32 := moreC_lt (by omega) hb
  rw [feed_append, feed_le4 _ _ h1]
  congr 1
  show feed 4294967295 x ^^^ (feed (0 ^^^ 4294967295) x ^^^ 4294967295) = _
  rw [Nat.zero_xor, ← Nat.xor_assoc, Nat.xor_self, Nat.zero_xor]
theorem stN_pow : ∀ (j q : Nat), stN j (2 ^ (q + j)) = 2 ^ q
  | 0, _ => rfl
  | j + 1, q => by show stN j (st1 (2 ^ (q + j + 1))) = _; rw [st1_pow, stN_pow j]
/-- one bit turned -/
theorem feed_turn (r : Nat) (l : List Int) (p q : Nat) (hp : p < l.length) : feed r (l.set p (((l.getD p 0).toNat ^^^ 2 ^ q : Nat) : Int)) = feed r l ^^^ stN (8 * (l.length - p)) (2 ^ q) := by
  have e1 : l.set p (((l.getD p 0).toNat ^^^ 2 ^ q : Nat) : Int) = l.take p ++ (((l.getD p 0).toNat ^^^ 2 ^ q : Nat) : Int) :: l.drop (p + 1) := List.set_eq_take_append_cons_drop.trans (by rw [if_pos hp])
  have e2 : l = l.take p ++ l.getD p 0 :: l.drop (p + 1) := by
    have h0 : l.getD p 0 = l[p] := by rw [List.getD_eq_getElem?_getD, List.getElem?_eq_getElem hp]; rfl
    rw [h0]
    conv => lhs; rw [← List.take_append_drop p l, List.drop_eq_getElem_cons hp]
  rw [e1]
  conv => rhs; rw [e2]
  have hl : (l.take p ++ l.getD p 0 :: l.drop (p + 1)).length = l.length := by rw [← e2]
  rw [hl, feed_append, feed_append]
  generalize feed r (l.take p) = R
  show feed (stN 8 (R ^^^ (((l.getD p 0).toNat ^^^ 2 ^ q : Nat) : Int).toNat)) (l.drop (p + 1)) = feed (stN 8 (R ^^^ (l.getD p 0).toNat)) (l.drop (p + 1)) ^^^ _
  rw [Int.toNat_natCast]
  generalize (l.getD p 0).toNat = cc
  rw [feed_split _ (stN 8 (R ^^^ (cc ^^^ 2 ^ q))), feed_split _ (stN 8 (R ^^^ cc)), ← Nat.xor_assoc, stN_xor 8 (R ^^^ cc), stN_xor _ (stN 8 (R ^^^ cc)), List.length_drop, ← stN_add, ← stN_add, show 8 + 8 * (l.length - (p + 1)) = 8 * (l.length - p) from by omega]
  ac_rfl
/-- some bits turned, from bit k on -/
def turnC (m k : Nat) (l : List Int) : Nat → List Int
  | 0 => l
  | i + 1 => if m / 2 ^ i % 2 = 1 then (turnC m k l i).set ((k + i) / 8) ((((turnC m k l i).getD ((k + i) / 8) 0).toNat ^^^ 2 ^ ((k + i) % 8) : Nat) : Int) else turnC m k l i
theorem turnC_len (m k : Nat) (l : List Int) : ∀ i, (turnC m k l i).length = l.length
  | 0 => rfl
  | i + 1 => by
    show (if m / 2 ^ i % 2 = 1 then _ else _ : List Int).length = _
    split
    · rw [List.length_set, turnC_len m k l i]
    · exact turnC_len m k l i
theorem turnC_byte (m k : Nat) {l : List Int} (hb : ∀ y ∈ l, 0 ≤ y ∧ y < 256) : ∀ i, ∀ y ∈ turnC m k l i, 0 ≤ y ∧ y < 256
  | 0 => hb
  | i + 1 => fun y hy => by
    have ih := turnC_byte m k hb i
    have hy' : y ∈ (if m / 2 ^ i % 2 = 1 then (turnC m k l i).set ((k + i) / 8) ((((turnC m k l i).getD ((k + i) / 8) 0).toNat ^^^ 2 ^ ((k + i) % 8) : Nat) : Int) else turnC m k l i) := hy
    split at hy'
    · rcases List.mem_or_eq_of_mem_set hy' with h | h
      · exact ih y h
      · have hg : ((turnC m k l i).getD ((k + i) / 8) 0).toNat < 2 ^ 8 := by
          by_cases hp : (k + i) / 8 < (turnC m k l i).length
          · have h0 : (turnC m k l i).getD ((k + i) / 8) 0 = (turnC m k l i)[(k + i) / 8] := by rw [List.getD_eq_getElem?_getD, List.getElem?_eq_getElem hp]; rfl
            have := ih _ (List.getElem_mem hp)
            rw [← h0] at this
            omega
          · rw [List.getD_eq_getElem?_getD, List.getElem?_eq_none (by omega)]
            decide
        have := Nat.xor_lt_two_pow hg (Nat.pow_lt_pow_right (by omega) (Nat.mod_lt (k + i) (by omega)) : 2 ^ ((k + i) % 8) < 2 ^ 8)
        omega
    · exact ih y hy'
theorem feed_turns (m k r : Nat) (l : List Int) : ∀ i, k + i ≤ 8 * l.length → feed r (turnC m k l i) = feed r l ^^^ stN (8 * l.length - k) (m % 2 ^ i)
  | 0, _ => by show feed r l = _; rw [Nat.pow_zero, Nat.mod_one, stN_0, Nat.xor_zero]
  | i + 1, h => by
    have ih := feed_turns m k r l i (by omega)
    show feed r (if m / 2 ^ i % 2 = 1 then _ else _) = _
    rw [← bit_xor i m]
    by_cases hc : m / 2 ^ i % 2 = 1
    · rw [if_pos hc, if_pos hc, feed_turn _ _ _ _ (by rw [turnC_len]; omega), ih, turnC_len, stN_xor]
      have e1 : stN (8 * (l.length - (k + i) / 8)) (2 ^ ((k + i) % 8)) = stN (8 * l.length - k - i) 1 := by
        have := stN_pow ((k + i) % 8) 0
        rw [Nat.zero_add, Nat.pow_zero] at this
        rw [show 8 * (l.length - (k + i) / 8) = (k + i) % 8 + (8 * l.length - k - i) from by omega, stN_add, this]
      have e2 : stN (8 * l.length - k) (2 ^ i) = stN (8 * l.length - k - i) 1 := by
        have := stN_pow i 0
        rw [Nat.zero_add, Nat.pow_zero] at this
        rw [show 8 * l.length - k = i + (8 * l.length - k - i) from by omega, stN_add, this]
        congr 1
        omega
      rw [e1, e2]
      ac_rfl
    · rw [if_neg hc, if_neg hc, ih, Nat.zero_xor]
/-- what was turned is found -/
theorem turned_found {b : List Int} (hb : ∀ y ∈ b, 0 ≤ y ∧ y < 256) {m k : Nat} (hm : m < 2 ^ 32) (hm0 : m ≠ 0) (hk : k + 32 ≤ 8 * (b.length + 4)) :
    (turnC m k (b ++ le4 (sumC b)) 32).drop b.length ≠ le4 (sumC ((turnC m k (b ++ le4 (sumC b)) 32).take b.length)) := by
  intro h
  have hs : sumC b < 2 ^ 32 := moreC_lt (by omega) hb
  have hl : (b ++ le4 (sumC b)).length = b.length + 4 := by rw [List.length_append]; rfl
  have hbs : ∀ y ∈ b ++ le4 (sumC b), 0 ≤ y ∧ y < 256 := fun y hy => by
    rcases List.mem_append.mp hy with h1 | h1
    · exact hb y h1
    · unfold le4 at h1
      simp only [List.mem_cons, List.not_mem_nil, or_false] at h1
      omega
  have ht := feed_turns m k 4294967295 (b ++ le4 (sumC b)) 32 (by rw [hl]; exact hk)
  rw [feed_sealed hb, Nat.mod_eq_of_lt hm] at ht
  have hx : turnC m k (b ++ le4 (sumC b)) 32 = (turnC m k (b ++ le4 (sumC b)) 32).take b.length ++ le4 (sumC ((turnC m k (b ++ le4 (sumC b)) 32).take b.length)) := by
    rw [← h, List.take_append_drop]
  rw [hx, feed_sealed (fun y hy => turnC_byte m k hbs 32 y (List.mem_of_mem_take hy))] at ht
  have h0 : stN (8 * (b ++ le4 (sumC b)).length - k) m = 0 := by
    generalize stN (8 * (b ++ le4 (sumC b)).length - k) m = z at ht
    generalize stN 32 4294967295 = y at ht
    have : y ^^^ y = y ^^^ (y ^^^ z) := by rw [← ht]
    rw [Nat.xor_self, ← Nat.xor_assoc, Nat.xor_self, Nat.zero_xor] at this
    exact this.symm
  exact hm0 (stN_zero _ hm h0)
/-- how many bits are left ahead of the zeros at the end -/
def mzC : Nat → Nat → Nat
  | 0, _ => 0
  | k + 1, a => if a % 2 = 0 then mzC k (a / 2) else k + 1
theorem mzC_le : ∀ (k a : Nat), mzC k a ≤ k
  | 0, _ => Nat.le_refl _
  | k + 1, a => by
    show (if a % 2 = 0 then mzC k (a / 2) else k + 1) ≤ _
    split
    · have := mzC_le k (a / 2); omega
    · omega
theorem mzC_lt : ∀ (k a : Nat), a % 2 ^ (k + 1) ≠ 0 → mzC k (a % 2 ^ k) < mzC (k + 1) a
  | 0, a, h => by
    show 0 < (if a % 2 = 0 then 0 else 1)
    rw [Nat.zero_add, Nat.pow_one] at h
    rw [if_neg h]; omega
  | k + 1, a, h => by
    have hp : 2 ^ (k + 1) = 2 * 2 ^ k := by rw [Nat.pow_succ]; omega
    have hp2 : 2 ^ (k + 1 + 1) = 2 * 2 ^ (k + 1) := by rw [Nat.pow_succ 2 (k + 1)]; omega
    show mzC (k + 1) (a % 2 ^ (k + 1)) < (if a % 2 = 0 then mzC (k + 1) (a / 2) else k + 1 + 1)
    by_cases h2 : a % 2 = 0
    · rw [if_pos h2]
      have e1 : a % 2 ^ (k + 1) % 2 = 0 := by rw [hp, Nat.mod_mul_right_mod]; exact h2
      have e2 : a % 2 ^ (k + 1) / 2 = a / 2 % 2 ^ k := by rw [hp, Nat.mod_mul_right_div_self]
      show (if a % 2 ^ (k + 1) % 2 = 0 then mzC k (a % 2 ^ (k + 1) / 2) else k + 1) < _
      rw [if_pos e1, e2]
      refine mzC_lt k (a / 2) ?_
      intro h0
      apply h
      rw [hp2]
      have : a % (2 * 2 ^ (k + 1)) / 2 = 0 := by rw [Nat.mod_mul_right_div_self]; exact h0
      have h3 : a % (2 * 2 ^ (k + 1)) % 2 = 0 := by rw [Nat.mod_mul_right_mod]; exact h2
      omega
    · rw [if_neg h2]
      have := mzC_le (k + 1) (a % 2 ^ (k + 1))
      omega
theorem mzC_dbl {a : Nat} (h : a < 2 ^ 32) (h0 : 0 < a) : mzC 32 (2 * a % 4294967296) < mzC 32 a := by
  have h1 := mzC_lt 31 a (by rw [Nat.mod_eq_of_lt h]; omega)
  have e : mzC 32 (2 * a % 4294967296) = mzC 31 (a % 2 ^ 31) := by
    show (if 2 * a % 4294967296 % 2 = 0 then mzC 31 (2 * a % 4294967296 / 2) else 31 + 1) = _
    rw [if_pos (by omega), show 2 * a % 4294967296 / 2 = a % 2 ^ 31 from by omega]
  rw [e]
  exact h1
theorem dvd_dbl {n a : Nat} (hn : n + 1 ≤ 32) (h : 2 ^ (32 - (n + 1)) ∣ a) : 2 ^ (32 - n) ∣ 2 * a % 4294967296 := by
  obtain ⟨q, rfl⟩ := h
  have e : (2 : Nat) ^ 32 = 2 ^ (32 - n) * 2 ^ n := by rw [← Nat.pow_add]; congr 1; omega
  have e2 : 2 * (2 ^ (32 - (n + 1)) * q) = 2 ^ (32 - n) * q := by rw [← Nat.mul_assoc, show 32 - n = (32 - (n + 1)) + 1 from by omega, Nat.pow_succ]; congr 1; omega
  rw [e2, show (4294967296 : Nat) = 2 ^ 32 from rfl, e, Nat.mul_mod_mul_left]
  exact ⟨_, rfl⟩
end Go.Proofs.YtkfmebdpfjjkjaaDoor
