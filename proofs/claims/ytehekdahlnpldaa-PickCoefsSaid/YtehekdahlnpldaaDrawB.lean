import Derived.Test.YtehekdahlnpldaaDrawA
import Derived.WalkMore

/-! Package draw: (*hand).next, find. -/
namespace Go.Proofs.Ytehekdahlnpldaa
open Go.RowKit
set_option linter.unusedVariables false
set_option linter.unusedSimpArgs false

theorem hand_next (A : Option Addr) (l : List Int) (c g : Nat) (a : Int) (w : World) (hA : LiesU w w.heap.size A l) (hl : (l.length : Int) ≤ 9223372036854775807) (hx : Box w g #[.slice A l.length c, .int .i64 a] 109) :
    Calls Try.prog 97 #[ptr g 0] w fun e w' => e = .returned (.tuple #[.int .u64 (nextN l a), .int .i64 (nextE l a)]) ∧ ∃ n, w' = (w.drewN n).setCell ⟨g, 1, none⟩ (.int .i64 (nextA l a)) := by
  have K := Lib.hid (fun W (h : LiesU W w.heap.size A l) => draw_next A l c _ a W h hl)
  obtain ⟨c0, c1, f0, f1⟩ := hx.two
  have HA := Lib.hid hA
  clear hA
  have hlt := hx.lt
  generalize l.length = N at *
  go_enter Try.func97, Try.ntmps97
  go_wp2_with fail
  go_quiet ((go_at_call 125; exact Calls.quiet_of_same (still_of (K.out _ HA.out))))
  go_wp2
  go_ret2
  exact ⟨rfl, _, rfl⟩

theorem below_drewN' {B : Nat} {a w : World} (h : Below B a w) (n : Nat) : Below B a (w.drewN n) := ⟨h.os, h.tape, h.output, h.size, h.block⟩
/-- the first of t draws from place k on that is not above top: the draw, where the hand is then, the error -/
def fnd (l : List Int) (top : Int) : Nat → Nat → Int × Int × Int
  | 0, k => (0, k, 61)
  | t + 1, k => if k < l.length then (if l.getD k 0 ≤ top then (l.getD k 0, k + 1, 0) else fnd l top t (k + 1)) else (0, 0, 60)
theorem fnd_0 (l : List Int) (top : Int) (k : Nat) : fnd l top 0 k = (0, (k : Int), 61) := rfl
theorem fnd_out {l : List Int} {top : Int} {t k : Nat} (h : ¬ k < l.length) : fnd l top (t + 1) k = (0, 0, 60) := by rw [fnd, if_neg h]
theorem fnd_hit {l : List Int} {top : Int} {t k : Nat} (h : k < l.length) (g : l.getD k 0 ≤ top) : fnd l top (t + 1) k = (l.getD k 0, (k : Int) + 1, 0) := by rw [fnd, if_pos h, if_pos g]
theorem fnd_more {l : List Int} {top : Int} {t k : Nat} (h : k < l.length) (g : ¬ l.getD k 0 ≤ top) : fnd l top (t + 1) k = fnd l top t (k + 1) := by rw [fnd, if_pos h, if_neg g]

set_option maxHeartbeats 2000000 in
theorem draw_find (A : Option Addr) (l : List Int) (c g k0 T : Nat) (top : Int) (w : World) (hA : LiesU w g A l) (hl : (l.length : Int) ≤ 9223372036854775807) (hx : Box w g #[.slice A l.length c, .int .i64 k0] 109) (hT : T ≤ 64) (hk0 : (k0 : Int) ≤ 9223372036854775807) :
    Calls Try.prog 96 #[.func (.func 97) #[ptr g 0] #[], .int .u64 top, .int .i64 T] w fun e w' => e = .returned (.tuple #[.int .u64 (fnd l top T k0).1, .int .i64 (fnd l top T k0).2.2]) ∧ Box w' g #[.slice A l.length c, .int .i64 (fnd l top T k0).2.1] 109 ∧ Below g w w' := by
  have HA := Lib.hid hA
  clear hA
  generalize hN : l.length = N at *
  have HN := Lib.hid hN
  clear hN
  go_enter Try.func96, Try.ntmps96
  go_wp2
  go_step3
  go_wp2
  go_step3
  go_wp2
  go_loopw [8, 9, 11] (fun d e i wr => ∃ k : Nat, k ≤ T ∧ i = .int .i64 k ∧ d = .int .u64 0 ∧ e = .int .i64 61 ∧ Hid (fnd l top T k0 = fnd l top (T - k) (k0 + k)) ∧ Box wr g #[.slice A N c, .int .i64 ((k0 + k : Nat) : Int)] 109 ∧ Below g w wr) (fun _ _ i _ => T - (intOf i).toNat)
  case atStart => exact ⟨0, by omega, rfl, rfl, rfl, rfl, hx, Below.refl _ _⟩
  case round =>
    obtain ⟨k, hk, rfl, rfl, rfl, HF, hB, hb⟩ := hrel
    have HB := Lib.hid hB
    have hgl := hB.lt
    clear hB hx
    by_cases hlt : k < T
    · have K := Lib.hid (hand_next A l c g ((k0 + k : Nat) : Int) wr ((HA.out.below hb).mono (by omega)) (by have := HN.out; omega) (by rw [HN.out]; exact HB.out))
      by_cases hin : k0 + k < N
      · rw [show nextN l ((k0 + k : Nat) : Int) = l.getD (k0 + k) 0 from by unfold nextN; rw [if_pos (by have := HN.out; omega)]; rfl, show nextE l ((k0 + k : Nat) : Int) = 0 from by unfold nextE; rw [if_neg (by omega), if_pos (by have := HN.out; omega)],
          show nextA l ((k0 + k : Nat) : Int) = ((k0 + (k + 1) : Nat) : Int) from by unfold nextA; rw [if_pos (by have := HN.out; omega)]; omega] at K
        have HH := Lib.hid (fun (h : l.getD (k0 + k) 0 ≤ top) => fnd_hit (l := l) (top := top) (t := T - k - 1) (k := k0 + k) (by have := HN.out; omega) h)
        have HO := Lib.hid (fun (h : ¬ l.getD (k0 + k) 0 ≤ top) => fnd_more (l := l) (top := top) (t := T - k - 1) (k := k0 + k) (by have := HN.out; omega) h)
        generalize l.getD (k0 + k) 0 = x at *
        go_wp2_with fail
        refine K.out.mono ?_
        rintro e w1 ⟨rfl, n, rfl⟩
        have HB2 := (HB.out.drewN n).set 1 (.int .i64 ((k0 + (k + 1) : Nat) : Int))
        have hb2 := (below_drewN' hb n).setCell (p := ⟨g, 1, none⟩) (Nat.le_refl g) (.int .i64 ((k0 + (k + 1) : Nat) : Int))
        by_cases hx : x ≤ top
        · have HE := Lib.hid (HH.out hx)
          clear HH HO
          go_wp2
          simp only [Exit.noGoto]
          go_ret2
          have h2 := HE.out
          rw [show T - k - 1 + 1 = T - k from by omega] at h2
          rw [HF.out, h2]
          exact ⟨rfl, HB2, hb2⟩
        · have HE := Lib.hid (HO.out (by omega))
          clear HH HO
          go_wp2
          refine ⟨⟨k + 1, by omega, by go_num, rfl, rfl, ?_, HB2, hb2⟩, by simp [intOf]; omega⟩
          have h2 := HE.out
          rw [show T - k - 1 + 1 = T - k from by omega] at h2
          show _ = _
          rw [HF.out, h2, show T - (k + 1) = T - k - 1 from by omega]; rfl
      · rw [show nextN l ((k0 + k : Nat) : Int) = 0 from by unfold nextN; rw [if_neg (by have := HN.out; omega)], show nextE l ((k0 + k : Nat) : Int) = 60 from by unfold nextE; rw [if_neg (by omega), if_neg (by have := HN.out; omega)],
          show nextA l ((k0 + k : Nat) : Int) = 0 from by unfold nextA; rw [if_neg (by have := HN.out; omega)]] at K
        have HH := Lib.hid (fnd_out (l := l) (top := top) (t := T - k - 1) (k := k0 + k) (by have := HN.out; omega))
        go_wp2_with fail
        refine K.out.mono ?_
        rintro e w1 ⟨rfl, n, rfl⟩
        have HB2 := (HB.out.drewN n).set 1 (.int .i64 0)
        have hb2 := (below_drewN' hb n).setCell (p := ⟨g, 1, none⟩) (Nat.le_refl g) (.int .i64 0)
        go_wp2
        simp only [Exit.noGoto]
        go_ret2
        have h2 := HH.out
        rw [show T - k - 1 + 1 = T - k from by omega] at h2
        rw [HF.out, h2]
        exact ⟨rfl, HB2, hb2⟩
    · obtain rfl : k = T := by omega
      go_wp2
      simp only [Exit.noGoto]
      go_ret2
      rw [HF.out, show k - k = 0 from by omega, fnd_0]
      exact ⟨rfl, HB.out, hb⟩
end Go.Proofs.Ytehekdahlnpldaa
