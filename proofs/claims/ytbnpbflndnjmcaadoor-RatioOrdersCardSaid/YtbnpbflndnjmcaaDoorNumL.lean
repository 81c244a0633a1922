/- Contracts of num.of, product, plus, number, Mul: numbers of three words. -/
import Derived.Test.YtbnpbflndnjmcaaDoorNumX
import Derived.StillTailTactics
import Derived.Deep.RegionHeld3
import Derived.Deep.RegionWith
import Derived.BigRegion
import Derived.Deep.DeepCutAuto
import Derived.Deep.CutRange
import Derived.Deep.CutBlock
namespace Go.Proofs.YtbnpbflndnjmcaaDoor
open Go.RowKit

/-- three words -/
def L3 (x y z : Int) : Value := .agg #[.int .u64 x, .int .u64 y, .int .u64 z]
/-- a number in two's complement, of three words -/
def twos (n : Int) : Value := .agg #[.int .u64 (n % 18446744073709551616), .int .u64 (n / 18446744073709551616 % 18446744073709551616), .int .u64 (n / 340282366920938463463374607431768211456 % 18446744073709551616)]

/-- all ones for a number below 0, else 0 -/
def sgn (a : Int) : Int := if a < 0 then 18446744073709551615 else 0
theorem sgn_u64 (a : Int) : U64 (sgn a) := by unfold sgn U64; split <;> omega
theorem signs_sgn (a : Int) (ha : I64 a) (w : World) :
    Calls Tryd.prog 80 #[.int .i64 a] w fun e w' => e = .returned (.int .u64 (sgn a)) ∧ w = w' := num_signs a ha w
theorem u64_mod (a : Int) : U64 (a % 18446744073709551616) := by unfold U64; omega

theorem num_of (a : Int) (ha : I64 a) (w : World) :
    Calls Tryd.prog 81 #[.int .i64 a] w fun e w' => e = .returned (L3 (a % 18446744073709551616) (sgn a) (sgn a)) ∧ w' = w.alloc (.cells #[.int .u64 (a % 18446744073709551616), .int .u64 (sgn a), .int .u64 (sgn a)] 76) := by
  go_enter Tryd.func81, Tryd.ntmps81
  go_wp2_with (go_at_call 80; refine (signs_sgn _ (by assumption) _).mono ?_; rintro e w' ⟨rfl, rfl⟩)
  refine bodyPost_ret (v := L3 (a % 18446744073709551616) (sgn a) (sgn a)) (by simp [L3, u64w, results, Tryd.results81, go_sem]) rfl ⟨rfl, ?_⟩
  simp only [u64w]

/-- three new blocks, three draws -/
def PlusW (w w' : World) : Prop := ∃ c1 c2 c3 : Array Value, w' = ((((w.alloc (.cells c1 76)).alloc (.cells c2 76)).alloc (.cells c3 76)).drew.drew.drew)
set_option maxHeartbeats 2000000 in
theorem num_plus (x y z x' y' z' : Int) (hx : U64 x) (hy : U64 y) (hz : U64 z) (hx' : U64 x') (hy' : U64 y') (hz' : U64 z') (w : World) :
    Calls Tryd.prog 64 #[L3 x y z, L3 x' y' z'] w fun e w' => e = .returned (L3 ((x + x') % 18446744073709551616) ((y + y' + (x + x') / 18446744073709551616) % 18446744073709551616) ((z + z' + (y + y' + (x + x') / 18446744073709551616) / 18446744073709551616) % 18446744073709551616)) ∧ PlusW w w' := by
  unfold L3
  go_enter Tryd.func64, Tryd.ntmps64
  go_wp2
  refine wp_loop_rounds 4 ?_
  rw [rounds_succ]
  go_upto_block 1 with fail
  go_cut [5, 7] from 7 to 23 (fun c i wx => ∃ c' : Int, c = .int .u64 c' ∧ Hid (c' = (x + x') / 18446744073709551616) ∧ i = .int .i64 0 ∧ wx = ((((w.alloc (.cells #[.int .u64 ((x + x') % 18446744073709551616), .int .u64 y, .int .u64 z] 76)).alloc (.cells #[.int .u64 x', .int .u64 y', .int .u64 z'] 76)).alloc (.cells #[.int .u64 0, .int .u64 0, .int .u64 0] 76)).drew))
  case first =>
    go_wp2_with fail
    go_region_with (first | (go_at_call 78; refine (word_add _ _ _ (by assumption) (by assumption) (by omega) (by omega) _).mono ?_; rintro e w' ⟨rfl, rfl⟩))
    all_goals
      go_wp2_with fail
      go_meet
      exact ⟨_, rfl, rfl, rfl, rfl⟩
  case rest =>
  obtain ⟨k1, rfl, hc1, rfl, rfl⟩ := hcut
  have hk1 : 0 ≤ k1 ∧ k1 ≤ 1 := by have h := hc1.out; unfold U64 at *; omega
  go_wp2_with fail
  rw [rounds_succ]
  go_upto_block 1 with fail
  go_cut [5, 7] from 7 to 23 (fun c i wx => ∃ c' : Int, c = .int .u64 c' ∧ Hid (c' = (y + y' + k1) / 18446744073709551616) ∧ i = .int .i64 1 ∧ wx = ((((w.alloc (.cells #[.int .u64 ((x + x') % 18446744073709551616), .int .u64 ((y + y' + k1) % 18446744073709551616), .int .u64 z] 76)).alloc (.cells #[.int .u64 x', .int .u64 y', .int .u64 z'] 76)).alloc (.cells #[.int .u64 0, .int .u64 0, .int .u64 0] 76)).drew.drew))
  case first =>
    go_wp2_with fail
    go_region_with (first | (go_at_call 78; refine (word_add _ _ _ (by assumption) (by assumption) (by omega) (by omega) _).mono ?_; rintro e w' ⟨rfl, rfl⟩))
    all_goals
      go_wp2_with fail
      go_meet
      exact ⟨_, rfl, rfl, rfl, rfl⟩
  case rest =>
  obtain ⟨k2, rfl, hc2, rfl, rfl⟩ := hcut
  have hk2 : 0 ≤ k2 ∧ k2 ≤ 1 := by have h := hc2.out; unfold U64 at *; omega
  go_wp2_with fail
  rw [rounds_succ]
  go_upto_block 1 with fail
  go_cut [5, 7] from 7 to 23 (fun c i wx => ∃ c' : Int, c = .int .u64 c' ∧ Hid (c' = (z + z' + k2) / 18446744073709551616) ∧ i = .int .i64 2 ∧ wx = ((((w.alloc (.cells #[.int .u64 ((x + x') % 18446744073709551616), .int .u64 ((y + y' + k1) % 18446744073709551616), .int .u64 ((z + z' + k2) % 18446744073709551616)] 76)).alloc (.cells #[.int .u64 x', .int .u64 y', .int .u64 z'] 76)).alloc (.cells #[.int .u64 0, .int .u64 0, .int .u64 0] 76)).drew.drew.drew))
  case first =>
    go_wp2_with fail
    go_region_with (first | (go_at_call 78; refine (word_add _ _ _ (by assumption) (by assumption) (by omega) (by omega) _).mono ?_; rintro e w' ⟨rfl, rfl⟩))
    all_goals
      go_wp2_with fail
      go_meet
      exact ⟨_, rfl, rfl, rfl, rfl⟩
  case rest =>
  obtain ⟨k3, rfl, hc3, rfl, rfl⟩ := hcut
  have hk3 : 0 ≤ k3 ∧ k3 ≤ 1 := by have h := hc3.out; unfold U64 at *; omega
  go_wp2_with fail
  rw [rounds_succ]
  go_wp2_with fail
  refine bodyPost_ret (v := L3 ((x + x') % 18446744073709551616) ((y + y' + k1) % 18446744073709551616) ((z + z' + k2) % 18446744073709551616)) (by simp [L3, results, Tryd.results64, go_sem]) rfl ⟨?_, ?_⟩
  · rw [← hc1.out, ← hc2.out]; rfl
  · exact ⟨_, _, _, rfl⟩
end Go.Proofs.YtbnpbflndnjmcaaDoor
