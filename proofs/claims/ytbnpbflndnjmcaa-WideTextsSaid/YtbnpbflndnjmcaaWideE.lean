/- The contract of wide.Div. -/
import Derived.Test.YtbnpbflndnjmcaaWideD
import Derived.Test.YtbnpbflndnjmcaaWideC
namespace Go.Proofs.Ytbnpbflndnjmcaa
open Go.RowKit

theorem wide_div_0 (h l : Int) (w : World) :
    Calls Try.prog 18 #[.agg #[.int .u64 h, .int .u64 l], .int .u64 0] w fun e w' => e = .returned (.tuple #[.agg #[.int .u64 0, .int .u64 0], .int .u64 0, .int .i64 11]) ∧ Below w.heap.size w w' := by
  go_enter Try.func18, Try.ntmps18
  go_wp2
  refine bodyPost_ret (v := .tuple #[.agg #[.int .u64 0, .int .u64 0], .int .u64 0, .int .i64 11]) (by simp [results, Try.results18, go_sem]) rfl ⟨rfl, ?_⟩
  exact ((Below.refl _ _).alloc (Nat.le_refl _) _).alloc (by simp) _
theorem two_steps (h l d : Int) (hd : 0 < d) : wv h l / d = wv (wv 0 h / d) (wv (wv 0 h % d) l / d) ∧ wv h l % d = wv (wv 0 h % d) l % d := by
  have e0 : wv 0 h = h := by unfold wv; omega
  rw [e0]
  have e1 := Int.emod_add_mul_ediv h d
  have e2 := Int.emod_add_mul_ediv (wv (h % d) l) d
  have l2 := Int.emod_lt_of_pos (wv (h % d) l) hd
  have g2 := Int.emod_nonneg (wv (h % d) l) (Int.ne_of_gt hd)
  have := (Int.ediv_emod_unique (a := wv h l) (b := d) (r := wv (h % d) l % d) (q := wv (h / d) (wv (h % d) l / d)) hd).2 ⟨by
    generalize wv (h % d) l % d = r2 at *
    generalize wv (h % d) l / d = q2 at *
    unfold wv at *
    generalize h / d = q1 at *
    generalize h % d = r1 at *
    grind, g2, l2⟩
  exact this
theorem q2_bd (h l d : Int) (hd : 0 < d) (hl : U64 l) : 0 ≤ wv (h % d) l / d ∧ wv (h % d) l / d < 18446744073709551616 := by
  have l1 := Int.emod_lt_of_pos h hd
  have g1 := Int.emod_nonneg h (Int.ne_of_gt hd)
  unfold U64 at hl
  have hn : 0 ≤ wv (h % d) l := by unfold wv; omega
  refine ⟨Int.ediv_nonneg hn (by omega), ?_⟩
  refine Int.ediv_lt_of_lt_mul hd ?_
  have : (h % d + 1) * 18446744073709551616 ≤ d * 18446744073709551616 := Int.mul_le_mul_of_nonneg_right (by omega) (by omega)
  unfold wv; omega
set_option maxHeartbeats 1000000 in
theorem wide_div (h l d : Int) (hh : U64 h) (hl : U64 l) (hd : U64 d) (hd0 : 0 < d) (w : World) :
    Calls Try.prog 18 #[.agg #[.int .u64 h, .int .u64 l], .int .u64 d] w fun e w' => e = .returned (.tuple #[.agg #[.int .u64 (wv 0 h / d), .int .u64 (wv (wv 0 h % d) l / d)], .int .u64 (wv (wv 0 h % d) l % d), .int .i64 0]) ∧ Below w.heap.size w w' := by
  have hr : 0 ≤ wv 0 h % d ∧ wv 0 h % d < d := ⟨Int.emod_nonneg _ (Int.ne_of_gt hd0), Int.emod_lt_of_pos _ hd0⟩
  have ur : U64 (wv 0 h % d) := by unfold U64 at *; omega
  have k1 := fun W => word_div 0 h d (by unfold U64; omega) hh hd hd0 W
  have k2 := fun W => word_div (wv 0 h % d) l d ur hl hd hr.2 W
  unfold DivPost at k1 k2
  have K1 := Lib.hid k1
  have K2 := Lib.hid k2
  clear k1 k2
  generalize wv 0 h % d = r1 at *
  generalize wv 0 h / d = q1 at *
  generalize wv r1 l % d = r2 at *
  generalize wv r1 l / d = q2 at *
  have hdz : (d == 0) = false := by simp; omega
  have i0 : ∀ w, (Instr.index 55 (.agg #[.int .u64 h, .int .u64 l]) (.int .i64 0)).run Try.prog w = .ok (.int .u64 h) w := fun _ => by kernel_rfl
  have i1 : ∀ w, (Instr.index 55 (.agg #[.int .u64 h, .int .u64 l]) (.int .i64 1)).run Try.prog w = .ok (.int .u64 l) w := fun _ => by kernel_rfl
  clear hr ur
  go_enter Try.func18, Try.ntmps18
  go_wp2
  refine wp_loop_rounds 3 ?_
  rw [rounds_succ]
  go_wp2_with fail
  refine (K1.out _).mono ?_
  rintro e w1 ⟨rfl, n1, rfl⟩
  go_wp2_with fail
  rw [rounds_succ]
  go_wp2_with fail
  refine (K2.out _).mono ?_
  rintro e w2 ⟨rfl, n2, rfl⟩
  go_wp2_with fail
  rw [rounds_succ]
  go_wp2_with fail
  refine bodyPost_ret (v := .tuple #[.agg #[.int .u64 q1, .int .u64 q2], .int .u64 r2, .int .i64 0]) (by simp [results, Try.results18, go_sem]) rfl ⟨rfl, ?_⟩
  have c1 := (((Below.refl w.heap.size w).alloc (Nat.le_refl _) (.cells #[.int .u64 h, .int .u64 l] 24)).alloc (by simp) (.cells #[.int .u64 0, .int .u64 0] 24)).alloc (by simp; omega) (.cells #[.int .u64 h, .int .u64 l] 55)
  have s1 : w.heap.size ≤ w.heap.size + 1 := by omega
  have s2 : w.heap.size ≤ w.heap.size + 1 + 1 := by omega
  exact ((((below_drewN ((below_drewN c1 n1).setCell (p := ⟨w.heap.size + 1 + 1, 0, none⟩) s2 _) n2).setCell (p := ⟨w.heap.size + 1 + 1, 1, none⟩) s2 _).setCell (p := ⟨w.heap.size + 1, 0, none⟩) s1 _).setCell (p := ⟨w.heap.size + 1, 1, none⟩) s1 _)
end Go.Proofs.Ytbnpbflndnjmcaa
