/- The reference's Sort of what is no score, and Same, of layer 13. -/
import Derived.Test.YtaeodkpkgbjaeaaScoU
namespace Go.Proofs.Ytaeodkpkgbjaeaa
open Go.RowKit
set_option linter.unusedVariables false
set_option linter.unusedSimpArgs false
set_option maxRecDepth 100000

theorem ref13_sort_no (A : Option Addr) (l : List PQ) (N c : Nat) (w : World) (hN : l.length = N) (hn : N ≤ 100000) (hL : LiesS w w.heap.size A l) (hI : okS l) (hok : allS l = false) :
    Calls Try.prog 98 #[.slice A N c] w fun e w' => e = .returned (.tuple #[.slice none 0 0, .int .i64 130]) ∧ Below w.heap.size w w' := by
  have KC := Lib.hid (ref13_all A l c w hL hI (by omega))
  rw [hok, hN] at KC
  clear hL hI hok hN
  go_enter Try.func98, Try.ntmps98
  go_wp2_with fail
  refine KC.out.mono ?_
  rintro e w1 ⟨rfl, b⟩
  have HB := Lib.hid b
  clear b
  go_wp2
  go_ret2
  exact ⟨rfl, HB.out⟩
theorem getD_in {l : List PQ} {k : Nat} (hk : k < l.length) : l.getD k pq0 = l[k] := by rw [List.getD_eq_getElem?_getD, List.getElem?_eq_getElem hk]; rfl
theorem same_no_len {a b : List PQ} (h : a.length ≠ b.length) : false = decide (a = b) := (decide_eq_false fun e => h (by rw [e])).symm
theorem same_no_at {a b : List PQ} {k : Nat} (hk : k < a.length) (hk2 : k < b.length) (h : ¬ ((a.getD k pq0).1 = (b.getD k pq0).1 ∧ (a.getD k pq0).2 = (b.getD k pq0).2)) : false = decide (a = b) :=
  (decide_eq_false fun e => h (by rw [e]; exact ⟨rfl, rfl⟩)).symm
theorem same_yes {a b : List PQ} (hl : a.length = b.length) (h : ∀ j, j < a.length → (a.getD j pq0).1 = (b.getD j pq0).1 ∧ (a.getD j pq0).2 = (b.getD j pq0).2) : true = decide (a = b) := by
  refine (decide_eq_true ?_).symm
  refine List.ext_getElem hl fun j h1 h2 => ?_
  have := h j h1
  rw [getD_in h1, getD_in h2] at this
  exact Prod.ext this.1 this.2
set_option maxHeartbeats 1000000 in
theorem ref13_same (A B : Option Addr) (la lb : List PQ) (N M ca cb B1 B2 : Nat) (w : World) (hN : la.length = N) (hM : lb.length = M) (hA : LiesS w B1 A la) (hB : LiesS w B2 B lb) (hn : N ≤ 100000) (hm : M ≤ 100000) :
    Calls Try.prog 20 #[.slice A N ca, .slice B M cb] w fun e w' => e = .returned (.bool (decide (la = lb))) ∧ ∃ n, w' = w.drewN n := by
  have HA := Lib.hid hA
  have HB := Lib.hid hB
  have HN := Lib.hid hN
  have HM := Lib.hid hM
  by_cases hnm : N = M
  · subst hnm
    have HNO := Lib.hid (fun k (hk : k < N) h => same_no_at (a := la) (b := lb) (k := k) (by omega) (by omega) h)
    have HY := Lib.hid (fun h => same_yes (a := la) (b := lb) (by omega) h)
    rw [hN] at HY
    generalize decide (la = lb) = R at *
    clear hN hM hA hB
    go_enter Try.func20, Try.ntmps20
    go_wp2
    go_loopw [5] (fun i wr => ∃ k : Nat, k ≤ N ∧ i = .int .i64 k ∧ Hid (∀ j, j < k → (la.getD j pq0).1 = (lb.getD j pq0).1 ∧ (la.getD j pq0).2 = (lb.getD j pq0).2) ∧ ∃ n, wr = w.drewN n) (fun i _ => N - (intOf i).toNat)
    case atStart => exact ⟨0, by omega, rfl, fun j hj => absurd hj (by omega), ⟨0, rfl⟩⟩
    case round =>
      obtain ⟨k, hk, rfl, HS, hw⟩ := hrel
      have HW := Lib.hid hw
      have hLA : LiesS wr B1 A la := by obtain ⟨m, hm⟩ := hw; rw [hm]; exact HA.out
      have hLB : LiesS wr B2 B lb := by obtain ⟨m, hm⟩ := hw; rw [hm]; exact HB.out
      clear hw
      by_cases hlt : k < N
      · obtain ⟨ad, rfl, hbk, c0, c1⟩ := hLA.at (k := k) (by have := HN.out; omega)
        obtain ⟨bd, rfl, hbk2, d0, d1⟩ := hLB.at (k := k) (by have := HM.out; omega)
        have HNk := Lib.hid (HNO.out k hlt)
        have HSX : Hid ((la.getD k pq0).1 = (lb.getD k pq0).1 ∧ (la.getD k pq0).2 = (lb.getD k pq0).2 → ∀ j, j < k + 1 → (la.getD j pq0).1 = (lb.getD j pq0).1 ∧ (la.getD j pq0).2 = (lb.getD j pq0).2) := fun h j hj => by
          rcases Nat.lt_or_ge j k with g | g
          · exact HS.out j g
          · rw [show j = k from by omega]; exact h
        generalize (la.getD k pq0).1 = p at *
        generalize (la.getD k pq0).2 = q at *
        generalize (lb.getD k pq0).1 = r at *
        generalize (lb.getD k pq0).2 = s at *
        have hkg : (k : Int) < (N : Int) := by omega
        have hk0 : (0 : Int) ≤ (k : Int) := by omega
        by_cases h1 : p = r
        · subst h1
          by_cases h2 : q = s
          · subst h2
            have HX := Lib.hid (HSX.out ⟨rfl, rfl⟩)
            clear HSX HNk
            go_wp2
            go_quiet (fail)
            go_wp2
            go_roundw
            case rel => exact ⟨k + 1, by omega, by go_num, HX, (by obtain ⟨m, hm⟩ := HW.out; exact ⟨m + nq, by rw [hm, World.drewN_drewN]⟩)⟩
            case measure => simp [intOf]; omega
          · have HX := Lib.hid (HNk.out (fun h => h2 h.2))
            clear HSX HNk
            go_wp2
            go_quiet (fail)
            go_wp2
            go_ret
            exact ⟨by rw [← HX.out]; rfl, (by obtain ⟨m, hm⟩ := HW.out; exact ⟨m + nq, by rw [hm, World.drewN_drewN]⟩)⟩
        · have HX := Lib.hid (HNk.out (fun h => h1 h.1))
          clear HSX HNk
          go_wp2
          go_quiet (fail)
          go_wp2
          go_ret
          exact ⟨by rw [← HX.out]; rfl, (by obtain ⟨m, hm⟩ := HW.out; exact ⟨m + nq, by rw [hm, World.drewN_drewN]⟩)⟩
      · obtain rfl : k = N := by omega
        have HX := Lib.hid (HY.out HS.out)
        go_wp2
        go_ret
        exact ⟨by rw [← HX.out]; rfl, HW.out⟩
  · have HR := Lib.hid (same_no_len (a := la) (b := lb) (by omega))
    generalize decide (la = lb) = R at *
    have hnm2 : ¬ (N : Int) = (M : Int) := by omega
    clear hN hM hA hB
    go_enter Try.func20, Try.ntmps20
    go_wp2
    go_ret
    exact ⟨by rw [← HR.out]; rfl, 0, rfl⟩
end Go.Proofs.Ytaeodkpkgbjaeaa
