/- Contracts of package wide: Of, Mul, Add, Sub, and of cmp.Compare, cmp.Or. -/
import Derived.Test.YtbnpbflndnjmcaaDoorNumM
import Derived.Test.YtbnpbflndnjmcaaDoorMem
import Derived.Deep.RegionHeld3
import Derived.Deep.RegionWith
namespace Go.Proofs.YtbnpbflndnjmcaaDoor
open Go.RowKit

/-- a wide number, or nought if there is none, and whether there is -/
def wfH (n : Int) : Int := if 0 ≤ n ∧ n < 340282366920938463463374607431768211456 then n / 18446744073709551616 else 0
def wfL (n : Int) : Int := if 0 ≤ n ∧ n < 340282366920938463463374607431768211456 then n % 18446744073709551616 else 0
def wfE (n : Int) : Int := if 0 ≤ n ∧ n < 340282366920938463463374607431768211456 then 0 else 10
abbrev wfV (n : Int) : Value := .tuple #[.agg #[.int .u64 (wfH n), .int .u64 (wfL n)], .int .i64 (wfE n)]
/-- what two words say -/
def wv (h l : Int) : Int := h * 18446744073709551616 + l
theorem wfV_in {n h l : Int} (hn : 0 ≤ n ∧ n < 340282366920938463463374607431768211456) (e : h = n / 18446744073709551616) (f : l = n % 18446744073709551616) :
    Ending.returned (.tuple #[.agg #[.int .u64 h, .int .u64 l], .int .i64 0]) = .returned (wfV n) := by
  unfold wfV wfH wfL wfE; rw [if_pos hn, if_pos hn, if_pos hn, e, f]
theorem wfV_out {n : Int} (hn : ¬ (0 ≤ n ∧ n < 340282366920938463463374607431768211456)) :
    Ending.returned (.tuple #[.agg #[.int .u64 0, .int .u64 0], .int .i64 10]) = .returned (wfV n) := by
  unfold wfV wfH wfL wfE; rw [if_neg hn, if_neg hn, if_neg hn]

theorem wide_of (n : Int) (w : World) :
    Calls Tryd.prog 86 #[.int .u64 n] w fun e w' => e = .returned (.agg #[.int .u64 0, .int .u64 n]) ∧ Below w.heap.size w w' := by
  go_enter Tryd.func86, Tryd.ntmps86
  go_wp2
  refine bodyPost_ret (v := .agg #[.int .u64 0, .int .u64 n]) (by simp [results, Tryd.results86, go_sem]) rfl ⟨rfl, ?_⟩
  exact (Below.refl _ _).alloc (Nat.le_refl _) _
theorem wide_mul (a b : Int) (ha : U64 a) (hb : U64 b) (w : World) :
    Calls Tryd.prog 74 #[.int .u64 a, .int .u64 b] w fun e w' => e = .returned (.agg #[.int .u64 (a * b / 18446744073709551616), .int .u64 (a * b % 18446744073709551616)]) ∧ Below w.heap.size w w' := by
  go_enter Tryd.func74, Tryd.ntmps74
  go_wp2_with (go_at_call 79; refine (word_mul _ _ (by assumption) (by assumption) _).mono ?_; rintro e w' ⟨rfl, rfl⟩)
  refine bodyPost_ret (v := .agg #[.int .u64 (a * b / 18446744073709551616), .int .u64 (a * b % 18446744073709551616)]) (by simp [results, Tryd.results74, go_sem]) rfl ⟨rfl, ?_⟩
  exact (Below.refl _ _).alloc (Nat.le_refl _) _

theorem wide_add (ah al bh bl : Int) (h1 : U64 ah) (h2 : U64 al) (h3 : U64 bh) (h4 : U64 bl) (w : World) :
    Calls Tryd.prog 105 #[.agg #[.int .u64 ah, .int .u64 al], .agg #[.int .u64 bh, .int .u64 bl]] w fun e w' => e = .returned (wfV (wv ah al + wv bh bl)) ∧ Below w.heap.size w w' := by
  have hc : 0 ≤ (al + bl) / 18446744073709551616 ∧ (al + bl) / 18446744073709551616 ≤ 1 := by unfold U64 at *; omega
  have K1 := Lib.hid (fun W => word_add al bl 0 h2 h4 (by omega) (by omega) W)
  have K2 := Lib.hid (fun c (h : 0 ≤ c ∧ c ≤ 1) W => word_add ah bh c h1 h3 h.1 h.2 W)
  have HB : Hid (U64 ah ∧ U64 al ∧ U64 bh ∧ U64 bl) := ⟨h1, h2, h3, h4⟩
  go_enter Tryd.func105, Tryd.ntmps105
  go_wp2_with fail
  refine (K1.out _).mono ?_
  rintro e w' ⟨rfl, rfl⟩
  generalize hC : (al + bl + 0) / 18446744073709551616 = c1 at *
  have hcc : 0 ≤ c1 ∧ c1 ≤ 1 := by rw [← hC]; unfold U64 at *; omega
  generalize hD : (al + bl + 0) % 18446744073709551616 = d1 at *
  have HC := Lib.hid hC
  have HD := Lib.hid hD
  clear hC hD
  go_wp2_with fail
  refine (K2.out c1 hcc _).mono ?_
  rintro e w' ⟨rfl, rfl⟩
  generalize hC2 : (ah + bh + c1) / 18446744073709551616 = c2 at *
  generalize hD2 : (ah + bh + c1) % 18446744073709551616 = d2 at *
  have HC2 := Lib.hid hC2
  have HD2 := Lib.hid hD2
  clear hC2 hD2
  by_cases hz : c2 = 0
  · subst hz
    go_wp2
    refine bodyPost_ret (v := .tuple #[.agg #[.int .u64 d2, .int .u64 d1], .int .i64 0]) (by simp [results, Tryd.results105, go_sem]) rfl ⟨?_, ?_⟩
    · have := HC.out; have := HD.out; have := HC2.out; have := HD2.out
      obtain ⟨u1, u2, u3, u4⟩ := HB.out
      unfold U64 at *
      exact wfV_in (by unfold wv; omega) (by unfold wv; omega) (by unfold wv; omega)
    · exact ((((Below.refl _ _).alloc (Nat.le_refl _) _).alloc (by simp) _).alloc (by simp; omega) _)
  · have hzb : (c2 != 0) = true := by simpa using hz
    have HZ := Lib.hid hz
    clear hz
    go_wp2
    refine bodyPost_ret (v := .tuple #[.agg #[.int .u64 0, .int .u64 0], .int .i64 10]) (by simp [results, Tryd.results105, go_sem]) rfl ⟨?_, ?_⟩
    · have := HC.out; have := HD.out; have := HC2.out; have := HD2.out; have := HZ.out
      obtain ⟨u1, u2, u3, u4⟩ := HB.out
      unfold U64 at *
      exact wfV_out (by unfold wv; omega)
    · exact ((((Below.refl _ _).alloc (Nat.le_refl _) _).alloc (by simp) _).alloc (by simp; omega) _)

end Go.Proofs.YtbnpbflndnjmcaaDoor
