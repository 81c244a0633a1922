/- Contracts of num.number, product and Mul. -/
import Derived.Test.YtbnpbflndnjmcaaDoorNumL
import Derived.Test.YtbnpbflndnjmcaaDoorNumM
namespace Go.Proofs.YtbnpbflndnjmcaaDoor
open Go.RowKit
theorem and_sgn (a z : Int) (hz : U64 z) : bits .and .u64 (sgn a) z = if a < 0 then z else 0 := by
  unfold U64 at hz
  unfold sgn
  split
  · rw [u64_and _ _ (by omega) (by omega) hz.1 hz.2]
    obtain ⟨z, rfl⟩ := Int.eq_ofNat_of_zero_le hz.1
    have e : (18446744073709551615 : Int).toNat = 2 ^ 64 - 1 := by decide
    have e2 : ((z : Int)).toNat = z := by omega
    rw [e, e2, Nat.and_comm, Nat.and_two_pow_sub_one_eq_mod]
    omega
  · rw [u64_and _ _ (by omega) (by omega) hz.1 hz.2]
    simp
theorem mul_bd (a b : Int) (ha : I64 a) (hb : I64 b) : -85070591730234615865843651857942052864 ≤ a * b ∧ a * b ≤ 85070591730234615865843651857942052864 := by
  unfold I64 at ha hb
  have h : (a * b).natAbs ≤ 9223372036854775808 * 9223372036854775808 := by
    rw [Int.natAbs_mul]; exact Nat.mul_le_mul (by omega) (by omega)
  omega
theorem prod_hi (a b : Int) (ha : I64 a) (hb : I64 b) :
    (((a % 18446744073709551616) * (b % 18446744073709551616) / 18446744073709551616 - (if a < 0 then b % 18446744073709551616 else 0)) % 18446744073709551616 - (if b < 0 then a % 18446744073709551616 else 0)) % 18446744073709551616 = a * b / 18446744073709551616 % 18446744073709551616 := by
  unfold I64 at ha hb
  have ea : a % 18446744073709551616 = if a < 0 then a + 18446744073709551616 else a := by split <;> omega
  have eb : b % 18446744073709551616 = if b < 0 then b + 18446744073709551616 else b := by split <;> omega
  rw [ea, eb]
  by_cases h1 : a < 0 <;> by_cases h2 : b < 0 <;> simp only [h1, h2, if_true, if_false, Int.add_mul, Int.mul_add] <;> generalize a * b = P <;> omega
theorem prod_lo (a b : Int) : (a % 18446744073709551616) * (b % 18446744073709551616) % 18446744073709551616 = a * b % 18446744073709551616 := by
  rw [← Int.mul_emod]
theorem prod_top (P : Int) (h : -85070591730234615865843651857942052864 ≤ P ∧ P ≤ 85070591730234615865843651857942052864) :
    sgn (wrap64 (P / 18446744073709551616 % 18446744073709551616)) = P / 340282366920938463463374607431768211456 % 18446744073709551616 := by
  unfold sgn wrap64
  split <;> omega
theorem L3_eq {x y z x' y' z' : Int} (h : x = x') (g : y = y') (f : z = z') : L3 x y z = L3 x' y' z' := by rw [h, g, f]
theorem of_twos (a : Int) (ha : I64 a) : L3 (a % 18446744073709551616) (sgn a) (sgn a) = twos a := by
  unfold I64 at ha
  unfold L3 twos
  have e1 : sgn a = a / 18446744073709551616 % 18446744073709551616 := by unfold sgn; split <;> omega
  have e2 : sgn a = a / 340282366920938463463374607431768211456 % 18446744073709551616 := by unfold sgn; split <;> omega
  rw [← e1, ← e2]
theorem wrap64_i64 (x : Int) : I64 (wrap64 x) := by unfold wrap64 I64; omega
theorem div128 (n : Int) : n / 340282366920938463463374607431768211456 = n / 18446744073709551616 / 18446744073709551616 := by omega
theorem carry_div (n m c : Int) : (n + m + c) / 18446744073709551616 = n / 18446744073709551616 + m / 18446744073709551616 + (n % 18446744073709551616 + m % 18446744073709551616 + c) / 18446744073709551616 := by omega
theorem plus_twos (n m : Int) : L3 ((n % 18446744073709551616 + m % 18446744073709551616) % 18446744073709551616) ((n / 18446744073709551616 % 18446744073709551616 + m / 18446744073709551616 % 18446744073709551616 + (n % 18446744073709551616 + m % 18446744073709551616) / 18446744073709551616) % 18446744073709551616)
    ((n / 340282366920938463463374607431768211456 % 18446744073709551616 + m / 340282366920938463463374607431768211456 % 18446744073709551616 + (n / 18446744073709551616 % 18446744073709551616 + m / 18446744073709551616 % 18446744073709551616 + (n % 18446744073709551616 + m % 18446744073709551616) / 18446744073709551616) / 18446744073709551616) % 18446744073709551616) = twos (n + m) := by
  have h1 := carry_div n m 0
  simp only [Int.add_zero] at h1
  refine L3_eq (by omega) (by omega) ?_
  rw [div128 n, div128 m, div128 (n + m), h1]
  generalize n / 18446744073709551616 = n1
  generalize m / 18446744073709551616 = m1
  generalize (n % 18446744073709551616 + m % 18446744073709551616) / 18446744073709551616 = c
  rw [carry_div n1 m1 c]
  omega

theorem product_L3 (a b : Int) (ha : I64 a) (hb : I64 b) : L3 (a % 18446744073709551616 * (b % 18446744073709551616) % 18446744073709551616) (IntKind.u64.wrap (IntKind.u64.wrap (a % 18446744073709551616 * (b % 18446744073709551616) / 18446744073709551616 - bits BinOp.and IntKind.u64 (sgn a) (IntKind.u64.wrap b)) - bits BinOp.and IntKind.u64 (sgn b) (IntKind.u64.wrap a))) (sgn (wrap64 (IntKind.u64.wrap (IntKind.u64.wrap (a % 18446744073709551616 * (b % 18446744073709551616) / 18446744073709551616 - bits BinOp.and IntKind.u64 (sgn a) (IntKind.u64.wrap b)) - bits BinOp.and IntKind.u64 (sgn b) (IntKind.u64.wrap a))))) = twos (a * b) := by
  have h := prod_hi a b ha hb
  have e1 := and_sgn a (b % 18446744073709551616) (u64_mod b)
  have e2 := and_sgn b (a % 18446744073709551616) (u64_mod a)
  simp only [u64w, e1, e2, h]
  exact L3_eq (prod_lo a b) rfl (prod_top _ (mul_bd a b ha hb))
theorem num_product (a b : Int) (ha : I64 a) (hb : I64 b) (w : World) :
    Calls Tryd.prog 65 #[.int .i64 a, .int .i64 b] w fun e w' => e = .returned (twos (a * b)) ∧ ∃ c, w' = w.alloc (.cells c 76) := by
  have u1 := u64_mod a
  have u2 := u64_mod b
  go_enter Tryd.func65, Tryd.ntmps65
  go_wp2_with (first | (go_at_call 80; refine (signs_sgn _ (by first | assumption | exact wrap64_i64 _) _).mono ?_; rintro e w' ⟨rfl, rfl⟩) | (go_at_call 79; simp only [u64w]; refine (word_mul _ _ (by assumption) (by assumption) _).mono ?_; rintro e w' ⟨rfl, rfl⟩))
  refine bodyPost_ret (v := L3 (a % 18446744073709551616 * (b % 18446744073709551616) % 18446744073709551616) (IntKind.u64.wrap (IntKind.u64.wrap (a % 18446744073709551616 * (b % 18446744073709551616) / 18446744073709551616 - bits BinOp.and IntKind.u64 (sgn a) (IntKind.u64.wrap b)) - bits BinOp.and IntKind.u64 (sgn b) (IntKind.u64.wrap a))) (sgn (wrap64 (IntKind.u64.wrap (IntKind.u64.wrap (a % 18446744073709551616 * (b % 18446744073709551616) / 18446744073709551616 - bits BinOp.and IntKind.u64 (sgn a) (IntKind.u64.wrap b)) - bits BinOp.and IntKind.u64 (sgn b) (IntKind.u64.wrap a)))))) (by simp [L3, results, Tryd.results65, go_sem]) rfl ⟨?_, _, rfl⟩
  rw [product_L3 a b ha hb]

theorem run_part_cell (P : Program) (w : World) (e : TypeId) (cs : Array Value) (i : Nat) (v : Value) (ha : (isAgg e).run P w = .ok false w) (h : cs[i]? = some v) : (part e cs i).run P w = .ok v w := by
  simp [part, ha, h]
theorem run_equalIn_arr3 (P : Program) (w : World) (d : Nat) (t e : TypeId) (k : IntKind) (ht : P.underlying t = some (.array 3 e)) (he : P.underlying e = some (.int k)) (hs : (sizeOf e).run P w = .ok 1 w) (ha : (isAgg e).run P w = .ok false w) (x y z x' y' z' : Int) :
    (Op.equalIn (d + 2) t (.agg #[.int k x, .int k y, .int k z]) (.agg #[.int k x', .int k y', .int k z'])).run P w = .ok (x == x' && y == y' && z == z') w := by
  have hp := fun (cs : Array Value) (i : Nat) (v : Value) (h : cs[i]? = some v) => run_part_cell P w e cs i v ha h
  rw [Op.equalIn]
  simp only [Sem.run_bind, run_underlying ht, Result.andThen_ok, hs]
  rw [Std.Legacy.Range.forIn_eq_forIn_range']
  simp [List.range', hp, Op.equalIn, run_underlying he]
  by_cases h1 : x = x' <;> by_cases h2 : y = y' <;> by_cases h3 : z = z' <;> simp [h1, h2, h3]
theorem neq_L3 (w : World) (x y z x' y' z' : Int) :
    (binOp .neq 76 (.agg #[.int .u64 x, .int .u64 y, .int .u64 z]) (.agg #[.int .u64 x', .int .u64 y', .int .u64 z'])).run Tryd.prog w = .ok (.bool (!(x == x' && y == y' && z == z'))) w := by
  rw [run_neq_struct, run_equalIn_arr3 Tryd.prog w 9998 76 68 .u64 Tryd.underlying76 Tryd.underlying68 (by kernel_rfl) (by kernel_rfl)]
  rfl
/-- a number of at most 191 bits -/
def N191 (n : Int) : Prop := -3138550867693340381917894711603833208051177722232017256448 ≤ n ∧ n < 3138550867693340381917894711603833208051177722232017256448
theorem neq_twos_in (n : Int) (h : I64 n) (w : World) : (binOp .neq 76 (.agg #[.int .u64 ((wrap64 (n % 18446744073709551616)) % 18446744073709551616), .int .u64 (sgn (wrap64 (n % 18446744073709551616))), .int .u64 (sgn (wrap64 (n % 18446744073709551616)))]) (.agg #[.int .u64 (n % 18446744073709551616), .int .u64 (n / 18446744073709551616 % 18446744073709551616), .int .u64 (n / 340282366920938463463374607431768211456 % 18446744073709551616)])).run Tryd.prog w = .ok (.bool false) w := by
  unfold I64 at h
  rw [neq_L3]
  have e0 : wrap64 (n % 18446744073709551616) = n := by unfold wrap64; omega
  rw [e0]
  have e1 : sgn n = n / 18446744073709551616 % 18446744073709551616 := by unfold sgn; split <;> omega
  have e2 : sgn n = n / 340282366920938463463374607431768211456 % 18446744073709551616 := by unfold sgn; split <;> omega
  rw [← e1, ← e2]
  simp
theorem neq_twos_out (n : Int) (hn : N191 n) (h : ¬ I64 n) (w : World) : (binOp .neq 76 (.agg #[.int .u64 ((wrap64 (n % 18446744073709551616)) % 18446744073709551616), .int .u64 (sgn (wrap64 (n % 18446744073709551616))), .int .u64 (sgn (wrap64 (n % 18446744073709551616)))]) (.agg #[.int .u64 (n % 18446744073709551616), .int .u64 (n / 18446744073709551616 % 18446744073709551616), .int .u64 (n / 340282366920938463463374607431768211456 % 18446744073709551616)])).run Tryd.prog w = .ok (.bool true) w := by
  unfold I64 at h
  unfold N191 at hn
  rw [neq_L3]
  have : ¬ (wrap64 (n % 18446744073709551616) % 18446744073709551616 = n % 18446744073709551616 ∧ sgn (wrap64 (n % 18446744073709551616)) = n / 18446744073709551616 % 18446744073709551616 ∧ sgn (wrap64 (n % 18446744073709551616)) = n / 340282366920938463463374607431768211456 % 18446744073709551616) := by
    rintro ⟨h1, h2, h3⟩
    unfold wrap64 at h1 h2 h3
    unfold sgn at h2 h3
    split at h2 <;> omega
  have h4 : (wrap64 (n % 18446744073709551616) % 18446744073709551616 == n % 18446744073709551616 && sgn (wrap64 (n % 18446744073709551616)) == n / 18446744073709551616 % 18446744073709551616 && sgn (wrap64 (n % 18446744073709551616)) == n / 340282366920938463463374607431768211456 % 18446744073709551616) = false := by
    rw [Bool.eq_false_iff]
    intro h5
    simp only [Bool.and_eq_true, beq_iff_eq] at h5
    exact this ⟨h5.1.1, h5.1.2, h5.2⟩
  rw [h4]
  rfl
theorem num_number (n : Int) (hn : N191 n) (w : World) :
    Calls Tryd.prog 66 #[twos n] w fun e w' => e = .returned (fitV n) ∧ Below w.heap.size w w' := by
  unfold twos
  have hof := fun w => num_of (wrap64 (n % 18446744073709551616)) (wrap64_i64 _) w
  unfold L3 at hof
  have Hof := Lib.hid hof
  clear hof
  by_cases h : I64 n
  · have e0 : wrap64 (n % 18446744073709551616) = n := by unfold I64 at h; unfold wrap64; omega
    have E0 := Lib.hid e0
    have hq := neq_twos_in n h
    clear e0
    go_enter Tryd.func66, Tryd.ntmps66
    go_wp2
    go_region_with (first | (go_at_call 81; refine (Hof.out _).mono ?_; rintro e w' ⟨rfl, rfl⟩))
    all_goals
      go_wp2
      go_ret2
      exact ⟨fitV_in h E0.out, by repeat (first | exact Below.refl _ _ | apply Below.drew | (refine Below.alloc ?_ (by simp <;> omega) _))⟩
  · have hq := neq_twos_out n hn h
    go_enter Tryd.func66, Tryd.ntmps66
    go_wp2
    go_region_with (first | (go_at_call 81; refine (Hof.out _).mono ?_; rintro e w' ⟨rfl, rfl⟩))
    all_goals
      go_wp2
      go_ret2
      exact ⟨fitV_out h, by repeat (first | exact Below.refl _ _ | apply Below.drew | (refine Below.alloc ?_ (by simp <;> omega) _))⟩

end Go.Proofs.YtbnpbflndnjmcaaDoor
