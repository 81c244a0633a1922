/- The contracts of copseref02.Add and Sub. -/
import Derived.Test.YtbnpbflndnjmcaaWideK
import Derived.Test.YtbnpbflndnjmcaaWideF
namespace Go.Proofs.Ytbnpbflndnjmcaa
open Go.RowKit

/-- the answer of Fits, by its three parts -/
theorem fitsW_val {n : Int} (h0 : 0 ≤ n) : ∃ x y z : Int, ∀ w e w', FitsW n w e w' ↔ (e = .returned (.tuple #[.agg #[.int .u64 x, .int .u64 y], .int .i64 z]) ∧ Below w.heap.size w w') := by
  by_cases h1 : n < 340282366920938463463374607431768211456
  · refine ⟨n / 18446744073709551616, n % 18446744073709551616, 0, fun w e w' => ⟨wfits_of h1, fun ⟨he, hb⟩ => ?_⟩⟩
    unfold FitsW
    rw [if_pos h1]
    exact ⟨⟨_, _, by unfold U64; omega, by unfold U64; omega, (by show _ * 18446744073709551616 + _ = n; omega), he⟩, hb⟩
  · refine ⟨0, 0, 10, fun w e w' => ⟨wfits_over (by omega), fun h => ?_⟩⟩
    unfold FitsW
    rw [if_neg h1]
    exact h

theorem keep_off {w : World} {g1 g2 g3 : Nat} {a b c d x y : Value} (h1 : g1 ≠ g3) (h2 : g2 ≠ g3)
    (h : (w.cell? ⟨g1, 0, none⟩ = some a ∧ w.cell? ⟨g1, 1, none⟩ = some b) ∧ w.cell? ⟨g2, 0, none⟩ = some c ∧ w.cell? ⟨g2, 1, none⟩ = some d) :
    (((w.setCell ⟨g3, 0, none⟩ x).setCell ⟨g3, 1, none⟩ y).cell? ⟨g1, 0, none⟩ = some a ∧ ((w.setCell ⟨g3, 0, none⟩ x).setCell ⟨g3, 1, none⟩ y).cell? ⟨g1, 1, none⟩ = some b) ∧ ((w.setCell ⟨g3, 0, none⟩ x).setCell ⟨g3, 1, none⟩ y).cell? ⟨g2, 0, none⟩ = some c ∧ ((w.setCell ⟨g3, 0, none⟩ x).setCell ⟨g3, 1, none⟩ y).cell? ⟨g2, 1, none⟩ = some d := by
  have k : ∀ (g i : Nat), g ≠ g3 → ((w.setCell ⟨g3, 0, none⟩ x).setCell ⟨g3, 1, none⟩ y).cell? ⟨g, i, none⟩ = w.cell? ⟨g, i, none⟩ := by
    intro g i hg
    rw [World.cell?_setCell_other _ ⟨g3, 1, none⟩ ⟨g, i, none⟩ y (by simp <;> omega), World.cell?_setCell_other _ ⟨g3, 0, none⟩ ⟨g, i, none⟩ x (by simp <;> omega)]
  rw [k _ _ h1, k _ _ h1, k _ _ h2, k _ _ h2]
  exact h

set_option maxHeartbeats 1000000 in
theorem ref_wadd (h l h2 l2 : Int) (hh : U64 h) (hl : U64 l) (hh2 : U64 h2) (hl2 : U64 l2) (w : World) :
    Calls Try.prog 9 #[.agg #[.int .u64 h, .int .u64 l], .agg #[.int .u64 h2, .int .u64 l2]] w (FitsW (wv h l + wv h2 l2) w) := by
  have hX := Box.new w #[.int .u64 h, .int .u64 l] 24
  have hY := Box.new (w.alloc (.cells #[.int .u64 h, .int .u64 l] 24)) #[.int .u64 h2, .int .u64 l2] 24
  have hW : Below w.heap.size w ((w.alloc (.cells #[.int .u64 h, .int .u64 l] 24)).alloc (.cells #[.int .u64 h2, .int .u64 l2] 24)) := ((Below.refl _ _).alloc (Nat.le_refl _) _).alloc (by simp) _
  have hX := (hX.below ((Below.refl _ _).alloc (Nat.le_refl _) (.cells #[.int .u64 h2, .int .u64 l2] 24)) (by simp))
  rw [alloc_size] at hY
  have hZ := Box.new ((w.alloc (.cells #[.int .u64 h, .int .u64 l] 24)).alloc (.cells #[.int .u64 h2, .int .u64 l2] 24)) #[.int .u64 0, .int .u64 0] 24
  rw [alloc_size, alloc_size] at hZ
  have HX := Lib.hid (hX.alloc (.cells #[.int .u64 0, .int .u64 0] 24)).drew
  have HY := Lib.hid (hY.alloc (.cells #[.int .u64 0, .int .u64 0] 24)).drew
  have HZ := Lib.hid hZ.drew
  have HW := Lib.hid (hW.alloc (by simp; omega) (.cells #[.int .u64 0, .int .u64 0] 24)).drew
  clear hX hY hW hZ
  obtain ⟨x, y, z, hf⟩ := fitsW_val (n := wv h l + wv h2 l2) (by have := (digs_wv h l hh hl).2; have := (digs_wv h2 l2 hh2 hl2).2; omega)
  have d3 : (digs (wv h l + wv h2 l2)).length ≤ 1000 := by
    have a1 : wv h l = h * 18446744073709551616 + l := rfl
    have a2 : wv h2 l2 = h2 * 18446744073709551616 + l2 := rfl
    have := digs_len (wv h l + wv h2 l2) 9 (by unfold U64 at *; unfold pw; omega)
    omega
  have hn0 : 0 ≤ wv h l + wv h2 l2 := by have := (digs_wv h l hh hl).2; have := (digs_wv h2 l2 hh2 hl2).2; omega
  have V := Lib.hid (show val (digs (wv h l)) + val (digs (wv h2 l2)) = wv h l + wv h2 l2 by rw [val_digs _ (digs_wv h l hh hl).2, val_digs _ (digs_wv h2 l2 hh2 hl2).2])
  have HF := Lib.hid hf
  clear hf
  have K1 := Lib.hid (fun W => ref_big h l hh hl W)
  have K2 := Lib.hid (fun W => ref_big h2 l2 hh2 hl2 W)
  have D1 := digs_wv h l hh hl
  have D2 := digs_wv h2 l2 hh2 hl2
  go_enter Try.func9, Try.ntmps9
  go_wp2
  obtain ⟨x0, x1, _, _⟩ := HX.out.two
  obtain ⟨y0, y1, _, _⟩ := HY.out.two
  obtain ⟨z0, z1, z2, z3⟩ := HZ.out.two
  go_region_held3 (fun w1 => (w1.cell? ⟨w.heap.size, 0, none⟩ = some (.int .u64 h) ∧ w1.cell? ⟨w.heap.size, 1, none⟩ = some (.int .u64 l)) ∧ w1.cell? ⟨w.heap.size + 1, 0, none⟩ = some (.int .u64 h2) ∧ w1.cell? ⟨w.heap.size + 1, 1, none⟩ = some (.int .u64 l2)) (first | exact keep_off (by omega) (by omega) (by assumption) | go_keep)
    (first
      | (go_at_call 21; ((with_reducible refine (K1.out _).mono ?_); rintro e w1 ⟨A1, c1, rfl, q1, m1, L1, b1⟩; obtain ⟨x0, x1, _, _⟩ := (Box.below HX.out b1 (by simp only [drew_size, alloc_size]; omega)).two; obtain ⟨y0, y1, _, _⟩ := (Box.below HY.out b1 (by simp only [drew_size, alloc_size]; omega)).two; have Z1 := Lib.hid (Box.below HZ.out b1 (by simp only [drew_size, alloc_size]; omega)); have Y1 := Lib.hid (Box.below HY.out b1 (by simp only [drew_size, alloc_size]; omega)); have X1 := Lib.hid (Box.below HX.out b1 (by simp only [drew_size, alloc_size]; omega)); have e1 := HW.out.trans (b1.mono (by simp only [drew_size, alloc_size]; omega)); have t1 : w.heap.size + 1 + 1 < w1.heap.size := Z1.out.lt))
      | (go_at_call 21; ((with_reducible refine (K2.out _).mono ?_); rintro e w2 ⟨A2, c2, rfl, q2, m2, L2, b2⟩; obtain ⟨x0, x1, _, _⟩ := (Box.below X1.out b2 (by omega)).two; obtain ⟨y0, y1, _, _⟩ := (Box.below Y1.out b2 (by omega)).two; have Z2 := Lib.hid (Box.below Z1.out b2 t1); have X2 := Lib.hid (Box.below X1.out b2 (by omega)); have Y2 := Lib.hid (Box.below Y1.out b2 (by omega)); have e2 := e1.trans (b2.mono (by omega)); have t2 : w.heap.size + 1 + 1 < w2.heap.size := Z2.out.lt))
      | (go_at_call 19; refine (ref_plus A1 A2 (digs (wv h l)) (digs (wv h2 l2)) c1 c2 _ ((L1.below b2).mono b2.size) L2 (dig_digs _) (dig_digs _) (by omega)).mono ?_; rintro e w3 ⟨A3, c3, rfl, q3, m3, L3, b3⟩; rw [V.out] at q3 L3 ⊢; obtain ⟨x0, x1, _, _⟩ := (Box.below X2.out b3 (by omega)).two; obtain ⟨y0, y1, _, _⟩ := (Box.below Y2.out b3 (by omega)).two; have Z3 := Lib.hid (Box.below Z2.out b3 t2); have X3 := Lib.hid (Box.below X2.out b3 (by omega)); have Y3 := Lib.hid (Box.below Y2.out b3 (by omega)); have e3 := e2.trans (b3.mono (by omega)); have t3 : w.heap.size + 1 + 1 < w3.heap.size := Z3.out.lt)
      | (go_at_call 32; refine (ref_wfits _ hn0 A3 c3 _ L3 d3).mono ?_; intro e w4 h4; obtain ⟨rfl, b4⟩ := (HF.out _ _ _).1 h4; obtain ⟨x0, x1, _, _⟩ := (Box.below X3.out b4 (by omega)).two; obtain ⟨y0, y1, _, _⟩ := (Box.below Y3.out b4 (by omega)).two; have Z4 := Lib.hid (Box.below Z3.out b4 t3); obtain ⟨z0, z1, z2, z3⟩ := Z4.out.two; have e4 := e3.trans (b4.mono (by omega))))
  all_goals
    go_wp2
    have r0 : ((w4.setCell ⟨w.heap.size + 1 + 1, 0, none⟩ (.int .u64 x)).setCell ⟨w.heap.size + 1 + 1, 1, none⟩ (.int .u64 y)).heap[w.heap.size + 1 + 1]? = some (.cells #[.int .u64 x, .int .u64 y] 24 (0, 0)) := (heap_setCell_same _ _ _ _ _ _ (heap_setCell_same _ _ _ _ _ _ Z4.out)).trans rfl
    obtain ⟨k0, k1, _, _⟩ := Box.two r0
    refine bodyPost_ret (v := .tuple #[.agg #[.int .u64 x, .int .u64 y], .int .i64 z]) ?_ rfl ?_
    · simp [results, Try.results9, go_sem, k0, k1]
    · exact (HF.out _ _ _).2 ⟨rfl, (e4.setCell (p := ⟨w.heap.size + 1 + 1, 0, none⟩) (by simp; omega) (.int .u64 x)).setCell (p := ⟨w.heap.size + 1 + 1, 1, none⟩) (by simp; omega) (.int .u64 y)⟩
end Go.Proofs.Ytbnpbflndnjmcaa
