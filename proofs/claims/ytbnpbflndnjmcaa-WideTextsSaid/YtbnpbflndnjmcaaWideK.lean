/- The contract of copseref02.Cmp. -/
import Derived.Test.YtbnpbflndnjmcaaWideB
import Derived.Test.YtbnpbflndnjmcaaBigF
namespace Go.Proofs.Ytbnpbflndnjmcaa
open Go.RowKit

theorem digs_wv (h l : Int) (hh : U64 h) (hl : U64 l) : (digs (wv h l)).length ≤ 8 ∧ 0 ≤ wv h l := by
  have : wv h l = h * 18446744073709551616 + l := rfl
  refine ⟨digs_len _ 8 (by unfold U64 at hh hl; unfold pw; omega), by unfold U64 at hh hl; omega⟩

set_option maxHeartbeats 1000000 in
theorem ref_wcmp (h l h2 l2 : Int) (hh : U64 h) (hl : U64 l) (hh2 : U64 h2) (hl2 : U64 l2) (w : World) :
    Calls Try.prog 15 #[.agg #[.int .u64 h, .int .u64 l], .agg #[.int .u64 h2, .int .u64 l2]] w fun e w' => e = .returned (.int .i64 (cmpI (wv h l) (wv h2 l2))) ∧ Below w.heap.size w w' := by
  have hX := Box.new w #[.int .u64 h, .int .u64 l] 24
  have hY := Box.new (w.alloc (.cells #[.int .u64 h, .int .u64 l] 24)) #[.int .u64 h2, .int .u64 l2] 24
  have hW : Below w.heap.size w ((w.alloc (.cells #[.int .u64 h, .int .u64 l] 24)).alloc (.cells #[.int .u64 h2, .int .u64 l2] 24)) := ((Below.refl _ _).alloc (Nat.le_refl _) _).alloc (by simp) _
  have HX := Lib.hid (hX.below ((Below.refl _ _).alloc (Nat.le_refl _) (.cells #[.int .u64 h2, .int .u64 l2] 24)) (by simp)).drew
  have hY := hY.drew
  rw [alloc_size] at hY
  have HY := Lib.hid hY
  have HW := Lib.hid hW.drew
  clear hX hY hW
  have K1 := Lib.hid (fun W => ref_big h l hh hl W)
  have K2 := Lib.hid (fun W => ref_big h2 l2 hh2 hl2 W)
  have D1 := digs_wv h l hh hl
  have D2 := digs_wv h2 l2 hh2 hl2
  go_enter Try.func15, Try.ntmps15
  go_wp2
  obtain ⟨x0, x1, _, _⟩ := HX.out.two
  obtain ⟨y0, y1, _, _⟩ := HY.out.two
  go_region_held3 (fun w1 => (w1.cell? ⟨w.heap.size, 0, none⟩ = some (.int .u64 h) ∧ w1.cell? ⟨w.heap.size, 1, none⟩ = some (.int .u64 l)) ∧ w1.cell? ⟨w.heap.size + 1, 0, none⟩ = some (.int .u64 h2) ∧ w1.cell? ⟨w.heap.size + 1, 1, none⟩ = some (.int .u64 l2)) (go_keep)
    (first
      | (go_at_call 21; ((with_reducible refine (K1.out _).mono ?_); rintro e w1 ⟨A1, c1, rfl, q1, m1, L1, b1⟩; obtain ⟨x0, x1, _, _⟩ := (Box.below HX.out b1 (by simp only [drew_size, alloc_size]; omega)).two; obtain ⟨y0, y1, _, _⟩ := (Box.below HY.out b1 (by simp only [drew_size, alloc_size]; omega)).two; have Y1 := Lib.hid (Box.below HY.out b1 (by simp only [drew_size, alloc_size]; omega)); have X1 := Lib.hid (Box.below HX.out b1 (by simp only [drew_size, alloc_size]; omega)); have e1 := HW.out.trans (b1.mono (by simp only [drew_size, alloc_size]; omega)); have t1 : w.heap.size + 1 < w1.heap.size := Nat.lt_of_lt_of_le (by simp only [drew_size, alloc_size]; omega) b1.size))
      | (go_at_call 21; ((with_reducible refine (K2.out _).mono ?_); rintro e w2 ⟨A2, c2, rfl, q2, m2, L2, b2⟩; obtain ⟨x0, x1, _, _⟩ := (Box.below X1.out b2 (by omega)).two; obtain ⟨y0, y1, _, _⟩ := (Box.below Y1.out b2 t1).two; have e2 := e1.trans (b2.mono (by omega))))
      | (go_at_call 23; refine (order_at _ A1 A2 (wv h l) (wv h2 l2) c1 c2 w2.heap.size w2 D1.2 D2.2 ((L1.below b2).mono b2.size) L2 (by omega) rfl).mono ?_; rintro e w3 ⟨rfl, n, rfl⟩))
  all_goals
    go_wp2
    go_ret
    exact ⟨rfl, below_drewN e2 n⟩
end Go.Proofs.Ytbnpbflndnjmcaa
