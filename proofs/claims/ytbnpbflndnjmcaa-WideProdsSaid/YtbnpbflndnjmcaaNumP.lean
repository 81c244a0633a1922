/- Contracts of num.number, product and Mul. -/
import Derived.Test.YtbnpbflndnjmcaaNumL
import Derived.Test.YtbnpbflndnjmcaaNumM
namespace Go.Proofs.Ytbnpbflndnjmcaa
open Go.RowKit
theorem and_sgn (a z : Int) (hz : U64 z) : bits .and .u64 (sgn a) z = if a < 0 then z else 0 := by
  unfold U64 at hz
  unfold sgn
  split
  · rw [u64_and _ _ (by omega) (by omega) hz.1 hz.2]
    obtain ⟨z, rfl⟩ := Int.eq_ofNat_of_zero_le hz.1
    have e : (18446744073709551615 : Int).toNat = 2 ^ 64 - 1 := by decide
    have e2 : ((z : Int)).toNat = z := by omega
    rw [e, e2, Nat.and_comm, Nat.and_two_pow_sub_one_eq_mod]
    omega
  · rw [u64_and _ _ (by omega) (by omega) hz.1 hz.2]
    simp
theorem mul_bd (a b : Int) (ha : I64 a) (hb : I64 b) : -85070591730234615865843651857942052864 ≤ a * b ∧ a * b ≤ 85070591730234615865843651857942052864 := by
  unfold I64 at ha hb
  have h : (a * b).natAbs ≤ 9223372036854775808 * 9223372036854775808 := by
    rw [Int.natAbs_mul]; exact Nat.mul_le_mul (by omega) (by omega)
  omega
theorem prod_hi (a b : Int) (ha : I64 a) (hb : I64 b) :
    (((a % 18446744073709551616) * (b % 18446744073709551616) / 18446744073709551616 - (if a < 0 then b % 18446744073709551616 else 0)) % 18446744073709551616 - (if b < 0 then a % 18446744073709551616 else 0)) % 18446744073709551616 = a * b / 18446744073709551616 % 18446744073709551616 := by
  unfold I64 at ha hb
  have ea : a % 18446744073709551616 = if a < 0 then a + 18446744073709551616 else a := by split <;> omega
  have eb : b % 18446744073709551616 = if b < 0 then b + 18446744073709551616 else b := by split <;> omega
  rw [ea, eb]
  by_cases h1 : a < 0 <;> by_cases h2 : b < 0 <;> simp only [h1, h2, if_true, if_false, Int.add_mul, Int.mul_add] <;> generalize a * b = P <;> omega
theorem prod_lo (a b : Int) : (a % 18446744073709551616) * (b % 18446744073709551616) % 18446744073709551616 = a * b % 18446744073709551616 := by
  rw [← Int.mul_emod]
theorem prod_top (P : Int) (h : -85070591730234615865843651857942052864 ≤ P ∧ P ≤ 85070591730234615865843651857942052864) :
    sgn (wrap64 (P / 18446744073709551616 % 18446744073709551616)) = P / 340282366920938463463374607431768211456 % 18446744073709551616 := by
  unfold sgn wrap64
  split <;> omega
theorem L3_eq {x y z x' y' z' : Int} (h : x = x') (g : y = y') (f : z = z') : L3 x y z = L3 x' y' z' := by rw [h, g, f]
theorem of_twos (a : Int) (ha : I64 a) : L3 (a % 18446744073709551616) (sgn a) (sgn a) = twos a := by
  unfold I64 at ha
  unfold L3 twos
  have e1 : sgn a = a / 18446744073709551616 % 18446744073709551616 := by unfold sgn; split <;> omega
  have e2 : sgn a = a / 340282366920938463463374607431768211456 % 18446744073709551616 := by unfold sgn; split <;> omega
  rw [← e1, ← e2]
theorem wrap64_i64 (x : Int) : I64 (wrap64 x) := by unfold wrap64 I64; omega
theorem div128 (n : Int) : n / 340282366920938463463374607431768211456 = n / 18446744073709551616 / 18446744073709551616 := by omega
theorem carry_div (n m c : Int) : (n + m + c) / 18446744073709551616 = n / 18446744073709551616 + m / 18446744073709551616 + (n % 18446744073709551616 + m % 18446744073709551616 + c) / 18446744073709551616 := by omega
theorem plus_twos (n m : Int) : L3 ((n % 18446744073709551616 + m % 18446744073709551616) % 18446744073709551616) ((n / 18446744073709551616 % 18446744073709551616 + m / 18446744073709551616 % 18446744073709551616 + (n % 18446744073709551616 + m % 18446744073709551616) / 18446744073709551616) % 18446744073709551616)
    ((n / 340282366920938463463374607431768211456 % 18446744073709551616 + m / 340282366920938463463374607431768211456 % 18446744073709551616 + (n / 18446744073709551616 % 18446744073709551616 + m / 18446744073709551616 % 18446744073709551616 + (n % 18446744073709551616 + m % 18446744073709551616) / 18446744073709551616) / 18446744073709551616) % 18446744073709551616) = twos (n + m) := by
  have h1 := carry_div n m 0
  simp only [Int.add_zero] at h1
  refine L3_eq (by omega) (by omega) ?_
  rw [div128 n, div128 m, div128 (n + m), h1]
  generalize n / 18446744073709551616 = n1
  generalize m / 18446744073709551616 = m1
  generalize (n % 18446744073709551616 + m % 18446744073709551616) / 18446744073709551616 = c
  rw [carry_div n1 m1 c]
  omega

theorem product_L3 (a b : Int) (ha : I64 a) (hb : I64 b) : L3 (a % 18446744073709551616 * (b % 18446744073709551616) % 18446744073709551616) (IntKind.u64.wrap (IntKind.u64.wrap (a % 18446744073709551616 * (b % 18446744073709551616) / 18446744073709551616 - bits BinOp.and IntKind.u64 (sgn a) (IntKind.u64.wrap b)) - bits BinOp.and IntKind.u64 (sgn b) (IntKind.u64.wrap a))) (sgn (wrap64 (IntKind.u64.wrap (IntKind.u64.wrap (a % 18446744073709551616 * (b % 18446744073709551616) / 18446744073709551616 - bits BinOp.and IntKind.u64 (sgn a) (IntKind.u64.wrap b)) - bits BinOp.and IntKind.u64 (sgn b) (IntKind.u64.wrap a))))) = twos (a * b) := by
  have h := prod_hi a b ha hb
  have e1 := and_sgn a (b % 18446744073709551616) (u64_mod b)
  have e2 := and_sgn b (a % 18446744073709551616) (u64_mod a)
  simp only [u64w, e1, e2, h]
  exact L3_eq (prod_lo a b) rfl (prod_top _ (mul_bd a b ha hb))
theorem run_part_cell (P : Program) (w : World) (e : TypeId) (cs : Array Value) (i : Nat) (v : Value) (ha : (isAgg e).run P w = .ok false w) (h : cs[i]? = some v) : (part e cs i).run P w = .ok v w := by
  simp [part, ha, h]
theorem run_equalIn_arr3 (P : Program) (w : World) (d : Nat) (t e : TypeId) (k : IntKind) (ht : P.underlying t = some (.array 3 e)) (he : P.underlying e = some (.int k)) (hs : (sizeOf e).run P w = .ok 1 w) (ha : (isAgg e).run P w = .ok false w) (x y z x' y' z' : Int) :
    (Op.equalIn (d + 2) t (.agg #[.int k x, .int k y, .int k z]) (.agg #[.int k x', .int k y', .int k z'])).run P w = .ok (x == x' && y == y' && z == z') w := by
  have hp := fun (cs : Array Value) (i : Nat) (v : Value) (h : cs[i]? = some v) => run_part_cell P w e cs i v ha h
  rw [Op.equalIn]
  simp only [Sem.run_bind, run_underlying ht, Result.andThen_ok, hs]
  rw [Std.Legacy.Range.forIn_eq_forIn_range']
  simp [List.range', hp, Op.equalIn, run_underlying he]
  by_cases h1 : x = x' <;> by_cases h2 : y = y' <;> by_cases h3 : z = z' <;> simp [h1, h2, h3]
/-- a number of at most 191 bits -/
def N191 (n : Int) : Prop := -3138550867693340381917894711603833208051177722232017256448 ≤ n ∧ n < 3138550867693340381917894711603833208051177722232017256448
end Go.Proofs.Ytbnpbflndnjmcaa
