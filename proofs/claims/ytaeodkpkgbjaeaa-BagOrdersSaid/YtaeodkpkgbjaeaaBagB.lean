/- Layer 18 (bag): first, at any closure. -/
import Derived.Test.YtaeodkpkgbjaeaaBagA
import Derived.Shelf.Abstract
namespace Go.Proofs.Ytaeodkpkgbjaeaa
open Go.RowKit
set_option linter.unusedVariables false
set_option linter.unusedSimpArgs false

set_option maxRecDepth 100000 in
set_option maxHeartbeats 4000000 in
theorem bag_first (n f : Nat) (caps : Array Value) (P : Nat → Bool) (w : World) (hn : n ≤ 1000000000) (eg : ∀ args w, (callFunc f args).run Try.prog w = .ok (.enter f args) w)
    (hP : ∀ i : Nat, i < n → ∀ wr : World, Below w.heap.size w wr → Calls Try.prog f (#[.int .i64 i] ++ caps) wr fun e w' => e = .returned (.bool (P i)) ∧ Below wr.heap.size wr w')
    (hM : ∀ i j : Nat, i ≤ j → j < n → P i = true → P j = true) :
    Calls Try.prog 147 #[.int .i64 n, .func (.func f) #[] caps] w fun e w' => ∃ r : Nat, e = .returned (.int .i64 r) ∧ r ≤ n ∧ (∀ i, i < r → P i = false) ∧ (∀ i, r ≤ i → i < n → P i = true) ∧ Below w.heap.size w w' := by
  have HP := Lib.hid hP
  have HM := Lib.hid hM
  clear hP hM
  go_enter Try.func147, Try.ntmps147
  go_wp2
  go_loopw [5, 6] (fun lv hv wr => ∃ lo hi : Nat, lv = .int .i64 lo ∧ hv = .int .i64 hi ∧ lo ≤ hi ∧ hi ≤ n ∧ Hid (∀ i, i < lo → P i = false) ∧ Hid (∀ i, hi ≤ i → i < n → P i = true) ∧ Hid (Below w.heap.size w wr)) (fun lv hv _ => (intOf hv - intOf lv).toNat)
  case atStart => exact ⟨0, n, rfl, rfl, by omega, by omega, fun i h => absurd h (by omega), fun i h g => absurd h (by omega), Below.refl _ _⟩
  case round =>
    obtain ⟨lo, hi, rfl, rfl, h1, h2, HF, HT, HW⟩ := hrel
    by_cases hlt : lo < hi
    · obtain ⟨m, hm1, hm2, hmI⟩ : ∃ m : Nat, lo ≤ m ∧ m < hi ∧ ((lo : Int) + (hi : Int)) / 2 = (m : Int) := ⟨(lo + hi) / 2, by omega, by omega, by omega⟩
      have K := Lib.hid (HP.out m (by omega) wr HW.out)
      have HMT : Hid (P m = true → ∀ i, m ≤ i → i < n → P i = true) := fun h i h1 h2 => HM.out m i h1 h2 h
      have HMF : Hid (P m = false → ∀ i, i < m + 1 → P i = false) := fun h i h1 => by
        rcases Bool.eq_false_or_eq_true (P i) with g | g
        · exact absurd (HM.out i m (by omega) (by omega) g) (by rw [h]; simp)
        · exact g
      generalize P m = B at *
      cases B
      · have HX := Lib.hid (HMF.out rfl)
        clear HMF HMT HF
        go_wp2_with fail
        refine K.out.mono ?_
        rintro e w1 ⟨rfl, b1⟩
        have HW1 := Lib.hid (HW.out.trans (b1.mono HW.out.size))
        clear b1
        go_wp2
        refine ⟨⟨m + 1, hi, by go_num, rfl, by omega, h2, HX, HT, HW1⟩, ?_⟩
        simp only [intOf]
        omega
      · have HX := Lib.hid (HMT.out rfl)
        clear HMF HMT HT
        go_wp2_with fail
        refine K.out.mono ?_
        rintro e w1 ⟨rfl, b1⟩
        have HW1 := Lib.hid (HW.out.trans (b1.mono HW.out.size))
        clear b1
        go_wp2
        refine ⟨⟨lo, m, rfl, rfl, hm1, by omega, HF, HX, HW1⟩, ?_⟩
        simp only [intOf]
        omega
    · obtain rfl : lo = hi := by omega
      go_wp2
      go_ret
      exact ⟨lo, rfl, h2, HF.out, HT.out, HW.out⟩
end Go.Proofs.Ytaeodkpkgbjaeaa
