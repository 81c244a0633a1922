/- Layer 19 (quant): Index of both; Over; how many are over a line, of both. -/
import Derived.Test.YtaeodkpkgbjaeaaQuaM
import Derived.Test.YtaeodkpkgbjaeaaScoR
import Derived.Test.YtaeodkpkgbjaeaaScoV
import Derived.Test.YtaeodkpkgbjaeaaScoC
import Derived.Test.YtaeodkpkgbjaeaaRatH
import Derived.Deep.QuietTactic
import Derived.BigQuiet
import Derived.Deep.RegionHeld3
namespace Go.Proofs.Ytaeodkpkgbjaeaa
open Go.RowKit
set_option linter.unusedVariables false
set_option linter.unusedSimpArgs false

theorem idx_bad {n p w : Int} (h : ¬ IdxOk n p w) : n < 1 ∨ (¬ n < 1 ∧ 4096 < n) ∨ (¬ n < 1 ∧ ¬ 4096 < n ∧ w < 2) ∨ (¬ n < 1 ∧ ¬ 4096 < n ∧ ¬ w < 2 ∧ 1000 < w) ∨ (¬ n < 1 ∧ ¬ 4096 < n ∧ ¬ w < 2 ∧ ¬ 1000 < w ∧ p < 1) ∨ (¬ n < 1 ∧ ¬ 4096 < n ∧ ¬ w < 2 ∧ ¬ 1000 < w ∧ ¬ p < 1 ∧ w ≤ p) := by
  unfold IdxOk at h; omega
set_option maxRecDepth 100000 in
set_option maxHeartbeats 4000000 in
theorem qua_index (n p d : Int) (w : World) : Calls Try.prog 92 #[.int .i64 n, .int .i64 p, .int .i64 d] w fun e w' => e = .returned (idV n p d) ∧ w = w' := by
  by_cases h : IdxOk n p d
  · obtain ⟨b1, b2, b3, b4, b5, b6, b7⟩ := idx_prod h
    have K : ∀ W, Calls Try.prog 154 #[.int .i64 ((d - p) * n), .int .i64 d] W fun e w' => e = .returned (idV n p d) ∧ W = w' := by
      intro W
      have k := num_ceil ((d - p) * n) d (by unfold I64; omega) W
      unfold IdxOk at h
      rw [← ceilV_1 (by omega) rfl, idV_ok h rfl] at k
      exact k
    have K := Lib.hid K
    unfold idV at K ⊢
    obtain ⟨h1, h2, h3, h4, h5, h6⟩ := h
    generalize idN n p d = k at *
    generalize idE n p d = e0 at *
    clear b3 b4 b5 b6 b7
    go_enter Try.func92, Try.ntmps92
    go_wp2_with fail
    refine (K.out _).mono ?_
    rintro e w1 ⟨rfl, rfl⟩
    go_wp2
    go_ret2
    exact ⟨rfl, rfl⟩
  · have HR := Lib.hid (idV_no h)
    rcases idx_bad h with h | h | h | h | h | h
    all_goals
      go_enter Try.func92, Try.ntmps92
      go_wp2
      go_ret2
      exact ⟨HR.out, rfl⟩
theorem ref19_asked (p d : Int) (w : World) : Calls Try.prog 160 #[.int .i64 p, .int .i64 d] w fun e w' => e = .returned (.bool (decide (2 ≤ d ∧ d ≤ 1000 ∧ 1 ≤ p ∧ p < d))) ∧ w = w' := by
  go_enter Try.func160, Try.ntmps160
  go_wp2
  all_goals
    go_ret
    refine ⟨?_, rfl⟩
    refine congrArg (fun b => Ending.returned (.bool b)) (?_ : (_ : Bool) = _)
    rw [Bool.eq_iff_iff]
    simp
    try omega
set_option maxRecDepth 100000 in
set_option maxHeartbeats 4000000 in
theorem ref19_index (n p d : Int) (w : World) : Calls Try.prog 97 #[.int .i64 n, .int .i64 p, .int .i64 d] w fun e w' => e = .returned (idV n p d) ∧ w = w' := by
  have K := Lib.hid (fun W => ref19_asked p d W)
  by_cases h : IdxOk n p d
  · obtain ⟨b1, b2, b3, b4, b5, b6, b7⟩ := idx_prod h
    obtain ⟨k1, k2, k3, k4⟩ := idN_bd h
    have hE : idE n p d = 0 := by unfold idE; rw [if_pos h]
    unfold IdxOk at h
    rw [show decide (2 ≤ d ∧ d ≤ 1000 ∧ 1 ≤ p ∧ p < d) = true from decide_eq_true (by omega)] at K
    unfold idV
    rw [hE]
    have HM : Hid (∀ j : Int, 0 ≤ j → j ≤ n → 0 ≤ j * d ∧ j * d ≤ 4096000) := fun j h0 h1 => by
      have a1 : j * d ≤ n * d := Int.mul_le_mul_of_nonneg_right h1 (by omega)
      exact ⟨Int.mul_nonneg h0 (by omega), by omega⟩
    have HLT : Hid (∀ j : Int, j < idN n p d → j * d < (d - p) * n) := fun j hj => by
      have a1 : j * d ≤ (idN n p d - 1) * d := Int.mul_le_mul_of_nonneg_right (by omega) (by omega)
      omega
    have HGE := Lib.hid k3
    obtain ⟨h1, h2, h3, h4, h5, h6⟩ := h
    generalize idN n p d = k at *
    clear hE b3 b4 b5 b6 b7 k3 k4
    generalize hP : (d - p) * n = P at *
    go_enter Try.func97, Try.ntmps97
    go_wp2_with fail
    refine (K.out _).mono ?_
    rintro e w1 ⟨rfl, rfl⟩
    go_wp2
    go_loop [8] (fun i => ∃ j : Int, i = .int .i64 j ∧ 1 ≤ j ∧ j ≤ k) (fun i => (k - intOf i).toNat)
    case atStart => exact ⟨1, rfl, by omega, k1⟩
    case round =>
      obtain ⟨j, rfl, hj1, hj2⟩ := hrel
      obtain ⟨m1, m2⟩ := HM.out j (by omega) (by omega)
      by_cases hlt : j < k
      · have q1 := HLT.out j hlt
        clear HM HLT HGE
        generalize hJ : j * d = J at *
        go_wp2
        exact ⟨⟨j + 1, by go_num, by omega, by omega⟩, by simp [intOf]; omega⟩
      · obtain rfl : j = k := by omega
        have q1 : ¬ j * d < P := by have := HGE.out; omega
        clear HM HLT HGE
        generalize hJ : j * d = J at *
        go_wp2
        go_ret2
        exact ⟨rfl, rfl⟩
  · have HR := Lib.hid (idV_no h)
    by_cases h1 : n < 1
    · clear h
      go_enter Try.func97, Try.ntmps97
      go_wp2
      go_ret2
      exact ⟨HR.out, rfl⟩
    · by_cases h2 : 4096 < n
      · clear h
        go_enter Try.func97, Try.ntmps97
        go_wp2
        go_ret2
        exact ⟨HR.out, rfl⟩
      · rw [show decide (2 ≤ d ∧ d ≤ 1000 ∧ 1 ≤ p ∧ p < d) = false from decide_eq_false (by unfold IdxOk at h; omega)] at K
        clear h
        go_enter Try.func97, Try.ntmps97
        go_wp2_with fail
        refine (K.out _).mono ?_
        rintro e w1 ⟨rfl, rfl⟩
        go_wp2
        go_ret2
        exact ⟨HR.out, rfl⟩
/-- is it over the line? or one is no score -/
def ovN (a b c d : Int) : Bool := decide ((ScoOk a b ∧ ScoOk c d) ∧ 0 ≤ oddC a b c d)
abbrev ovV (a b c d : Int) : Value := .tuple #[.bool (ovN a b c d), .int .i64 (cpE a b c d)]
theorem ov_ok {a b c d : Int} (h : ScoOk a b ∧ ScoOk c d) : cpE a b c d = 0 ∧ cpN a b c d = oddC a b c d ∧ ovN a b c d = decide (0 ≤ oddC a b c d) := by
  unfold cpE cpN ovN
  rw [if_pos h, if_pos h]
  exact ⟨rfl, rfl, by congr 1; simp [h]⟩
theorem ov_no {a b c d : Int} (h : ¬ (ScoOk a b ∧ ScoOk c d)) : cpE a b c d = 130 ∧ cpN a b c d = 0 ∧ ovN a b c d = false := by
  unfold cpE cpN ovN
  rw [if_neg h, if_neg h]
  exact ⟨rfl, rfl, decide_eq_false fun hh => h hh.1⟩
set_option maxRecDepth 100000 in
set_option maxHeartbeats 4000000 in
theorem qua_over (a b c d : Int) (ha : I64 a) (hb : I64 b) (hc : I64 c) (hd : I64 d) (w : World) :
    Calls Try.prog 93 #[.agg #[.int .i64 a, .int .i64 b], .agg #[.int .i64 c, .int .i64 d]] w fun e w' => e = .returned (ovV a b c d) ∧ Below w.heap.size w w' := by
  have J0 := Lib.hid (((Keeps.start w).alloc #[.int .i64 a, .int .i64 b] 24).alloc #[.int .i64 c, .int .i64 d] 24)
  obtain ⟨x0, x1, _, _⟩ := J0.out.tail.head.two
  obtain ⟨z0, z1, _, _⟩ := J0.out.head.two
  rw [alloc_size'] at z0 z1
  have K := Lib.hid (fun W => sco_cmp a b c d ha hb hc hd W)
  unfold cpV at K
  unfold ovV
  by_cases h : ScoOk a b ∧ ScoOk c d
  · obtain ⟨e1, e2, e3⟩ := ov_ok h
    rw [e1, e2] at K
    rw [e1, e3]
    clear e1 e2 e3 h
    by_cases h0 : 0 ≤ oddC a b c d
    · rw [decide_eq_true h0]
      generalize oddC a b c d = q at *
      go_enter Try.func93, Try.ntmps93
      go_wp2_with fail
      refine (K.out _).mono ?_
      rintro e w1 ⟨rfl, b1⟩
      have HB := Lib.hid (J0.out.2.1.trans (b1.mono (by have := J0.out.2.1.size; exact this)))
      clear b1 x0 x1 z0 z1
      go_wp2
      go_ret2
      exact ⟨rfl, HB.out⟩
    · rw [decide_eq_false h0]
      generalize oddC a b c d = q at *
      have h2 : q < 0 := by omega
      have h3 : decide (0 ≤ q) = false := decide_eq_false h0
      clear h0
      go_enter Try.func93, Try.ntmps93
      go_wp2_with fail
      refine (K.out _).mono ?_
      rintro e w1 ⟨rfl, b1⟩
      have HB := Lib.hid (J0.out.2.1.trans (b1.mono (by have := J0.out.2.1.size; exact this)))
      clear b1 x0 x1 z0 z1
      go_wp2
      go_ret2
      exact ⟨rfl, HB.out⟩
  · obtain ⟨e1, e2, e3⟩ := ov_no h
    rw [e1, e2] at K
    rw [e1, e3]
    clear e1 e2 e3 h
    go_enter Try.func93, Try.ntmps93
    go_wp2_with fail
    refine (K.out _).mono ?_
    rintro e w1 ⟨rfl, b1⟩
    have HB := Lib.hid (J0.out.2.1.trans (b1.mono (by have := J0.out.2.1.size; exact this)))
    clear b1 x0 x1 z0 z1
    go_wp2
    go_ret2
    exact ⟨rfl, HB.out⟩
end Go.Proofs.Ytaeodkpkgbjaeaa
