/- The contract of wide.shift: ten times a wide number, and a digit. -/
import Derived.Test.YtbnpbflndnjmcaaDoorWideC
import Derived.Test.YtbnpbflndnjmcaaDoorReg
import Derived.Test.YtbnpbflndnjmcaaDoorBigI
namespace Go.Proofs.YtbnpbflndnjmcaaDoor
open Go.RowKit

theorem add_at (ah al bh bl n : Int) (h1 : U64 ah) (h2 : U64 al) (h3 : U64 bh) (h4 : U64 bl) (e : wv ah al + wv bh bl = n) (w : World) :
    Calls Tryd.prog 105 #[.agg #[.int .u64 ah, .int .u64 al], .agg #[.int .u64 bh, .int .u64 bl]] w fun e w' => e = .returned (wfV n) ∧ Below w.heap.size w w' := by
  have h := wide_add ah al bh bl h1 h2 h3 h4 w
  rw [e] at h; exact h

/-- what is there in the middle of shift's products -/
def ShiftJ (B : Nat) (W : World) (h l : Int) (l0 l1 h0 h1 : Value) (f : Nat → Bool) (vs : List Value) (w : World) : Prop :=
  (Box w B #[.int .u64 h, .int .u64 l] 71 ∧ Box w (B + 1) #[.int .u64 0, .int .u64 0] 71 ∧ Below B W w) ∧
  (f 0 = true → vs.getD 0 undef = ptr B 1) ∧ (f 1 = true → vs.getD 1 undef = .int .u64 l) ∧ (f 2 = true → vs.getD 2 undef = .agg #[l0, l1]) ∧
  (f 3 = true → vs.getD 3 undef = ptr B 0) ∧ (f 4 = true → vs.getD 4 undef = .int .u64 h) ∧ (f 5 = true → vs.getD 5 undef = .agg #[h0, h1]) ∧
  (f 6 = true → ∃ g, vs.getD 6 undef = ptr g 0 ∧ B + 1 < g ∧ Box w g (if f 8 then #[l0, l1] else #[.int .u64 0, .int .u64 0]) 71) ∧
  (f 7 = true → ∃ g, vs.getD 7 undef = ptr g 0 ∧ B + 1 < g ∧ Box w g (if f 9 then #[h0, h1] else #[.int .u64 0, .int .u64 0]) 71) ∧
  (f 6 = true → f 7 = true → vs.getD 6 undef ≠ vs.getD 7 undef) ∧ (f 8 = true → f 6 = true) ∧ (f 9 = true → f 7 = true)
theorem ShiftJ.below {B : Nat} {W w w' : World} {h l : Int} {l0 l1 h0 h1 : Value} {f : Nat → Bool} {vs : List Value} (hj : ShiftJ B W h l l0 l1 h0 h1 f vs w) (hb : Below w.heap.size w w') (hB : B ≤ w.heap.size) : ShiftJ B W h l l0 l1 h0 h1 f vs w' := by
  obtain ⟨⟨x, x', b⟩, a0, a1, a2, a3, a4, a5, a6, a7, a67⟩ := hj
  refine ⟨⟨x.below hb x.lt, x'.below hb x'.lt, b.trans (hb.mono hB)⟩, a0, a1, a2, a3, a4, a5, fun h6 => ?_, fun h7 => ?_, a67⟩
  · obtain ⟨g, e, hg, hx⟩ := a6 h6
    exact ⟨g, e, hg, hx.below hb hx.lt⟩
  · obtain ⟨g, e, hg, hx⟩ := a7 h7
    exact ⟨g, e, hg, hx.below hb hx.lt⟩
theorem ShiftJ.alike {B : Nat} {W : World} {h l : Int} {l0 l1 h0 h1 : Value} (f g : Nat → Bool) (vs : List Value) (w : World) (hfg : ∀ k, k < 10 → f k = g k) (hj : ShiftJ B W h l l0 l1 h0 h1 f vs w) : ShiftJ B W h l l0 l1 h0 h1 g vs w := by
  unfold ShiftJ at *
  rw [← hfg 0 (by omega), ← hfg 1 (by omega), ← hfg 2 (by omega), ← hfg 3 (by omega), ← hfg 4 (by omega), ← hfg 5 (by omega), ← hfg 6 (by omega), ← hfg 7 (by omega), ← hfg 8 (by omega), ← hfg 9 (by omega)]
  exact hj

set_option maxHeartbeats 2000000 in
set_option maxRecDepth 100000 in
theorem wide_shift (h l d : Int) (hh : U64 h) (hl : U64 l) (hd : U64 d) (w : World) :
    Calls Tryd.prog 95 #[.agg #[.int .u64 h, .int .u64 l], .int .u64 d] w fun e w' => e = .returned (wfV (wv h l * 10 + d)) ∧ Below w.heap.size w w' := by
  have u10 : U64 10 := by unfold U64; omega
  have KL := Lib.hid (fun W => wide_mul l 10 hl u10 W)
  have KH := Lib.hid (fun W => wide_mul h 10 hh u10 W)
  have hn : Hid (0 ≤ wv h l * 10 ∧ wv h l * 10 = (h * 10 / 18446744073709551616) * 340282366920938463463374607431768211456 + (wv (l * 10 / 18446744073709551616) (l * 10 % 18446744073709551616) + wv (h * 10 % 18446744073709551616) 0)) := by
    show _ ∧ _
    unfold wv U64 at *; omega
  have g1 : U64 (l * 10 / 18446744073709551616) := by unfold U64 at *; omega
  have g2 := u64_of_mod (l * 10)
  have g3 := u64_of_mod (h * 10)
  have g5 : 0 ≤ h * 10 / 18446744073709551616 := by unfold U64 at *; omega
  generalize l * 10 / 18446744073709551616 = lH at *
  generalize l * 10 % 18446744073709551616 = lL at *
  generalize h * 10 / 18446744073709551616 = hH at *
  generalize h * 10 % 18446744073709551616 = hL at *
  generalize wv h l * 10 = n at *
  have hW := (((Below.refl w.heap.size w).alloc (Nat.le_refl _) (.cells #[.int .u64 h, .int .u64 l] 71)).alloc (by simp) (.cells #[.int .u64 0, .int .u64 0] 71)).drew
  have hX := ((Box.new w #[.int .u64 h, .int .u64 l] 71).alloc (.cells #[.int .u64 0, .int .u64 0] 71)).drew
  have hY := (Box.new (w.alloc (.cells #[.int .u64 h, .int .u64 l] 71)) #[.int .u64 0, .int .u64 0] 71).drew
  rw [alloc_size'] at hY
  have HWX := Lib.hid (And.intro hX (And.intro hY hW))
  clear hW hX hY
  go_enter Tryd.func95, Tryd.ntmps95
  go_wp2
  refine wp_region_steps (ShiftJ w.heap.size w h l (.int .u64 lH) (.int .u64 lL) (.int .u64 hH) (.int .u64 hL))
    [[], [0], [1], [], [3], [4, 2], [], [], [6, 2, 5, 0, 1, 2, 6, 7], [7, 5, 8, 0, 1, 2, 3, 4, 5, 6, 7, 8]] (by kernel_rfl) (by kernel_rfl) (by kernel_rfl) (by kernel_rfl) ?_ ?_ ?_ ?_
  · exact fun f g vs w => ShiftJ.alike f g vs w
  · intro vs _
    exact ⟨HWX.out, by simp, by simp, by simp, by simp, by simp, by simp, by simp, by simp, by simp, by simp, by simp⟩
  · refine ⟨?_, ?_, ?_, ?_, ?_, ?_, ?_, ?_, ?_, ?_, trivial⟩
    all_goals
      intro f vs w1 hlen hf hp hj K hK
      rw [if_pos (by rfl)]
      obtain ⟨y0, y1, y2, y3, y4, y5, y6, y7, y8, y9, rfl⟩ := len10 hlen
      clear hlen
      have HB : Hid (w.heap.size ≤ w1.heap.size) := Nat.le_of_lt hj.1.1.lt
      have HJ := Lib.hid hj
      simp only [putAll, Act.put, List.setIfInBounds_toArray, List.set_cons_zero, List.set_cons_succ] at hK ⊢
      clear hj
    -- 0
    · go_simp
      refine hK (ptr w.heap.size 1) w1 ?_
      simpa [ShiftJ, hf] using HJ.out
    -- 1
    · obtain rfl : y0 = ptr w.heap.size 1 := HJ.out.2.1 (hp 0 (by simp))
      obtain ⟨x0, x1, _, _⟩ := HJ.out.1.1.two
      go_simp
      refine hK (.int .u64 l) w1 ?_
      simpa [ShiftJ, hf] using HJ.out
    -- 2
    · obtain rfl : y1 = .int .u64 l := HJ.out.2.2.1 (hp 1 (by simp))
      clear hp
      go_wp2_with fail
      refine (KL.out _).mono ?_
      rintro e w2 ⟨rfl, b2⟩
      go_simp
      refine hK _ w2 ?_
      have := HJ.out.below b2 HB.out
      simpa [ShiftJ, hf] using this
    -- 3
    · go_simp
      refine hK (ptr w.heap.size 0) w1 ?_
      simpa [ShiftJ, hf] using HJ.out
    -- 4
    · obtain rfl : y3 = ptr w.heap.size 0 := HJ.out.2.2.2.2.1 (hp 3 (by simp))
      obtain ⟨x0, x1, _, _⟩ := HJ.out.1.1.two
      go_simp
      refine hK (.int .u64 h) w1 ?_
      simpa [ShiftJ, hf] using HJ.out
    -- 5
    · obtain rfl : y4 = .int .u64 h := HJ.out.2.2.2.2.2.1 (hp 4 (by simp))
      clear hp
      go_wp2_with fail
      refine (KH.out _).mono ?_
      rintro e w2 ⟨rfl, b2⟩
      go_simp
      refine hK _ w2 ?_
      have := HJ.out.below b2 HB.out
      simpa [ShiftJ, hf] using this
    -- 6
    · go_simp
      refine hK (ptr w1.heap.size 0) _ ?_
      obtain ⟨⟨x, x', b⟩, a0, a1, a2, a3, a4, a5, a6, a7, a67, a8, a9⟩ := HJ.out.below ((Below.refl w1.heap.size w1).alloc (Nat.le_refl _) (.cells #[.int .u64 0, .int .u64 0] 71)) HB.out
      have h8 : f 8 = false := by
        cases h : f 8 with
        | false => rfl
        | true => rw [a8 h] at hf; cases hf
      refine ⟨⟨x, x', b⟩, by simpa using a0, by simpa using a1, by simpa using a2, by simpa using a3, by simpa using a4, by simpa using a5, fun _ => ⟨w1.heap.size, by simp, HJ.out.1.2.1.lt, ?_⟩, by simpa using a7, ?_, by simp, by simpa using a9⟩
      · simpa [h8] using Box.new w1 #[.int .u64 0, .int .u64 0] 71
      · intro _ h7
        obtain ⟨g, e, hg, hx⟩ := HJ.out.2.2.2.2.2.2.2.2.1 (by simpa using h7)
        have hlt := hx.lt
        simp at e ⊢
        rw [e]
        simp
        try omega
    -- 7
    · go_simp
      refine hK (ptr w1.heap.size 0) _ ?_
      obtain ⟨⟨x, x', b⟩, a0, a1, a2, a3, a4, a5, a6, a7, a67, a8, a9⟩ := HJ.out.below ((Below.refl w1.heap.size w1).alloc (Nat.le_refl _) (.cells #[.int .u64 0, .int .u64 0] 71)) HB.out
      have h9 : f 9 = false := by
        cases h : f 9 with
        | false => rfl
        | true => rw [a9 h] at hf; cases hf
      refine ⟨⟨x, x', b⟩, by simpa using a0, by simpa using a1, by simpa using a2, by simpa using a3, by simpa using a4, by simpa using a5, by simpa using a6, fun _ => ⟨w1.heap.size, by simp, HJ.out.1.2.1.lt, ?_⟩, ?_, by simpa using a8, by simp⟩
      · simpa [h9] using Box.new w1 #[.int .u64 0, .int .u64 0] 71
      · intro h6 _
        obtain ⟨g, e, hg, hx⟩ := HJ.out.2.2.2.2.2.2.2.1 (by simpa using h6)
        have hlt := hx.lt
        simp at e ⊢
        rw [e]
        simp
        try omega
    -- 8
    · have f6 := hp 6 (by simp)
      have f7 := hp 7 (by simp)
      obtain rfl : y2 = .agg #[.int .u64 lH, .int .u64 lL] := HJ.out.2.2.2.1 (hp 2 (by simp))
      obtain ⟨g6, e6, l6, x6⟩ := HJ.out.2.2.2.2.2.2.2.1 f6
      obtain ⟨g7, e7, l7, x7⟩ := HJ.out.2.2.2.2.2.2.2.2.1 f7
      have hne : g6 ≠ g7 := by
        have := HJ.out.2.2.2.2.2.2.2.2.2.1 f6 f7
        rw [e6, e7] at this
        intro h; exact this (by rw [h])
      obtain rfl : y6 = ptr g6 0 := e6
      rw [hf] at x6
      simp only [Bool.false_eq_true, if_false] at x6
      obtain ⟨z0, z1, z2, z3⟩ := x6.two
      have X6 := Lib.hid x6
      have X7 := Lib.hid x7
      have E7 := Lib.hid e7
      clear x6 x7 e7 hp
      go_simp
      refine hK undef _ ?_
      obtain ⟨⟨x, x', b⟩, a0, a1, a2, a3, a4, a5, a6, a7, a67, a8, a9⟩ := HJ.out
      refine ⟨⟨x.off2 (by omega) _ _, x'.off2 (by omega) _ _, (b.setCell (p := ⟨g6, 0, none⟩) (by simp; omega) _).setCell (p := ⟨g6, 1, none⟩) (by simp; omega) _⟩, by simpa using a0, by simpa using a1, by simp, by simpa using a3, by simpa using a4, by simpa using a5, fun _ => ⟨g6, by simp, l6, ?_⟩, fun _ => ⟨g7, by simpa using E7.out, l7, ?_⟩, by simpa using a67, fun _ => f6, by simpa using a9⟩
      · simpa using X6.out.set2 (.int .u64 lH) (.int .u64 lL)
      · simpa using X7.out.off2 hne (.int .u64 lH) (.int .u64 lL)
    -- 9
    · have f6 := hp 6 (by simp)
      have f7 := hp 7 (by simp)
      have f8 := hp 8 (by simp)
      obtain rfl : y5 = .agg #[.int .u64 hH, .int .u64 hL] := HJ.out.2.2.2.2.2.2.1 (hp 5 (by simp))
      obtain ⟨g6, e6, l6, x6⟩ := HJ.out.2.2.2.2.2.2.2.1 f6
      obtain ⟨g7, e7, l7, x7⟩ := HJ.out.2.2.2.2.2.2.2.2.1 f7
      have hne : g6 ≠ g7 := by
        have := HJ.out.2.2.2.2.2.2.2.2.2.1 f6 f7
        rw [e6, e7] at this
        intro h; exact this (by rw [h])
      obtain rfl : y7 = ptr g7 0 := e7
      rw [hf] at x7
      simp only [Bool.false_eq_true, if_false] at x7
      obtain ⟨z0, z1, z2, z3⟩ := x7.two
      have X6 := Lib.hid x6
      have X7 := Lib.hid x7
      have E6 := Lib.hid e6
      clear x6 x7 e6 hp
      go_simp
      refine hK undef _ ?_
      obtain ⟨⟨x, x', b⟩, a0, a1, a2, a3, a4, a5, a6, a7, a67, a8, a9⟩ := HJ.out
      refine ⟨⟨x.off2 (by omega) _ _, x'.off2 (by omega) _ _, (b.setCell (p := ⟨g7, 0, none⟩) (by simp; omega) _).setCell (p := ⟨g7, 1, none⟩) (by simp; omega) _⟩, by simpa using a0, by simpa using a1, by simpa using a2, by simpa using a3, by simpa using a4, by simp, fun _ => ⟨g6, by simpa using E6.out, l6, ?_⟩, fun _ => ⟨g7, by simp, l7, ?_⟩, by simpa using a67, fun _ => f6, fun _ => f7⟩
      · have := X6.out.off2 (Ne.symm hne) (.int .u64 hH) (.int .u64 hL)
        rw [f8] at this
        simpa [f8] using this
      · simpa using X7.out.set2 (.int .u64 hH) (.int .u64 hL)
  · intro vs w1 hlen hj
    obtain ⟨y0, y1, y2, y3, y4, y5, y6, y7, y8, y9, rfl⟩ := len10 hlen
    clear hlen
    obtain ⟨⟨x, x', b⟩, a0, a1, a2, a3, a4, a5, a6, a7, a67, -, -⟩ := hj
    obtain rfl : y0 = _ := a0 rfl
    obtain rfl : y1 = _ := a1 rfl
    obtain rfl : y2 = _ := a2 rfl
    obtain rfl : y3 = _ := a3 rfl
    obtain rfl : y4 = _ := a4 rfl
    obtain rfl : y5 = _ := a5 rfl
    obtain ⟨g6, e6, l6, x6⟩ := a6 rfl
    obtain ⟨g7, e7, l7, x7⟩ := a7 rfl
    obtain rfl : y6 = _ := e6
    obtain rfl : y7 = _ := e7
    simp only [if_true] at x6 x7
    have t6 := x6.lt
    have t7 := x7.lt
    obtain ⟨u0, u1, _, _⟩ := x6.two
    obtain ⟨v0, v1, _, _⟩ := x7.two
    obtain ⟨r0, r1, r2, r3⟩ := x'.two
    have X' := Lib.hid x'
    have HB := Lib.hid b
    clear a0 a1 a2 a3 a4 a5 a6 a7 a67 x x' b x6 x7
    simp only [putAll, Act.put, List.setIfInBounds_toArray, List.set_cons_zero, List.set_cons_succ]
    by_cases hz : hH = 0
    · subst hz
      by_cases hlt : n < 340282366920938463463374607431768211456
      · have KA : Hid (∀ W, Calls Tryd.prog 105 #[.agg #[.int .u64 lH, .int .u64 lL], .agg #[.int .u64 hL, .int .u64 0]] W fun e w' => e = .returned (.tuple #[.agg #[.int .u64 (n / 18446744073709551616), .int .u64 (n % 18446744073709551616)], .int .i64 0]) ∧ Below W.heap.size W w') := by
          intro W
          have h := add_at lH lL hL 0 n g1 g2 g3 (by unfold U64; omega) (by have := hn.out.2; omega) W
          rw [wfV_in ⟨hn.out.1, hlt⟩ rfl rfl]
          exact h
        have KB : Hid (∀ W, Calls Tryd.prog 105 #[.agg #[.int .u64 (n / 18446744073709551616), .int .u64 (n % 18446744073709551616)], .agg #[.int .u64 0, .int .u64 d]] W fun e w' => e = .returned (wfV (n + d)) ∧ Below W.heap.size W w') := by
          intro W
          exact add_at _ _ _ _ _ (by have := hn.out.1; unfold U64; omega) (u64_of_mod n) (by unfold U64; omega) hd (by unfold wv; omega) W
        clear hn hlt
        generalize n / 18446744073709551616 = nH at *
        generalize n % 18446744073709551616 = nL at *
        go_wp2_with fail
        refine (KA.out _).mono ?_
        rintro e w2 ⟨rfl, b2⟩
        have X2 := Lib.hid (X'.out.below b2 X'.out.lt)
        have B2 := Lib.hid (HB.out.trans (b2.mono (Nat.le_of_lt (Nat.lt_of_succ_lt X'.out.lt))))
        have z2 : w.heap.size + 1 < w2.heap.size := X2.out.lt
        clear u0 u1 v0 v1 r0 r1 r2 r3 b2
        go_wp2
        have X8 := Lib.hid (Box.new w2 #[.int .u64 nH, .int .u64 nL] 71).drew
        have X3 := Lib.hid (X2.out.alloc (.cells #[.int .u64 nH, .int .u64 nL] 71)).drew
        have B3 := Lib.hid (B2.out.alloc (by omega) (.cells #[.int .u64 nH, .int .u64 nL] 71)).drew
        obtain ⟨p0, p1, _, _⟩ := X8.out.two
        obtain ⟨r0, r1, r2, r3⟩ := X3.out.two
        have z3 : w2.heap.size < (w2.alloc (.cells #[.int .u64 nH, .int .u64 nL] 71)).drew.heap.size := by simp
        go_region_held3 (fun w1 => w1.cell? ⟨w2.heap.size, 0, none⟩ = some (.int .u64 nH) ∧ w1.cell? ⟨w2.heap.size, 1, none⟩ = some (.int .u64 nL)) (first | exact keep_off1 (by omega) (by assumption) | go_keep)
          (first
            | (go_at_call 86; ((with_reducible refine (wide_of d _).mono ?_); rintro e w4 ⟨rfl, b4⟩; have X4 := Lib.hid (X3.out.below b4 X3.out.lt); have Y4 := Lib.hid (X8.out.below b4 X8.out.lt); obtain ⟨p0, p1, _, _⟩ := Y4.out.two; have B4 := B3.out.trans (b4.mono (by omega))))
            | (go_at_call 105; ((with_reducible refine (KB.out _).mono ?_); rintro e w5 ⟨rfl, b5⟩; have X5 := Lib.hid (X4.out.below b5 X4.out.lt); have Y5 := Lib.hid (Y4.out.below b5 Y4.out.lt); obtain ⟨p0, p1, _, _⟩ := Y5.out.two; obtain ⟨r0, r1, r2, r3⟩ := X5.out.two; have B5 := B4.trans (b5.mono (by have := X4.out.lt; omega)))))
        all_goals
          go_wp2
          have Z := X5.out.set2 (.int .u64 (wfH (n + d))) (.int .u64 (wfL (n + d)))
          obtain ⟨k0, k1, _, _⟩ := Z.two
          refine bodyPost_ret (v := wfV (n + d)) ?_ rfl ⟨rfl, ?_⟩
          · simp [results, Tryd.results95, go_sem, k0, k1]
          · exact (B5.setCell (p := ⟨w.heap.size + 1, 0, none⟩) (by simp) _).setCell (p := ⟨w.heap.size + 1, 1, none⟩) (by simp) _
      · have KA : Hid (∀ W, Calls Tryd.prog 105 #[.agg #[.int .u64 lH, .int .u64 lL], .agg #[.int .u64 hL, .int .u64 0]] W fun e w' => e = .returned (.tuple #[.agg #[.int .u64 0, .int .u64 0], .int .i64 10]) ∧ Below W.heap.size W w') := by
          intro W
          have h := add_at lH lL hL 0 n g1 g2 g3 (by unfold U64; omega) (by have := hn.out.2; omega) W
          rw [wfV_out (n := n) (by omega)]
          exact h
        go_wp2_with fail
        refine (KA.out _).mono ?_
        rintro e w2 ⟨rfl, b2⟩
        have X2 := Lib.hid ((X'.out.below b2 X'.out.lt).alloc (.cells #[.int .u64 0, .int .u64 0] 71))
        have B2 := Lib.hid (HB.out.trans (b2.mono (Nat.le_of_lt (Nat.lt_of_succ_lt X'.out.lt))))
        have s2 := b2.size
        obtain ⟨r0, r1, r2, r3⟩ := (X'.out.below b2 X'.out.lt).two
        have z2 : w.heap.size + 1 < w2.heap.size := (X'.out.below b2 X'.out.lt).lt
        have Y2 := Lib.hid (X'.out.below b2 X'.out.lt)
        clear u0 u1 v0 v1 b2
        go_wp2
        have Z := (Y2.out.set2 (.int .u64 0) (.int .u64 0)).alloc (.cells #[.int .u64 0, .int .u64 0] 71)
        obtain ⟨k0, k1, _, _⟩ := Z.two
        refine bodyPost_ret (v := .tuple #[.agg #[.int .u64 0, .int .u64 0], .int .i64 10]) ?_ rfl ⟨?_, ?_⟩
        · simp [results, Tryd.results95, go_sem, k0, k1]
        · exact wfV_out (by have := hn.out; unfold U64 at *; omega)
        · exact ((B2.out.setCell (p := ⟨w.heap.size + 1, 0, none⟩) (by simp) (.int .u64 0)).setCell (p := ⟨w.heap.size + 1, 1, none⟩) (by simp) (.int .u64 0)).alloc (by simp; omega) _
    · have hzb : (hH != 0) = true := by simpa using hz
      have HZ := Lib.hid hz
      clear hz
      go_wp2
      have Z := X'.out.set2 (.int .u64 0) (.int .u64 0)
      obtain ⟨k0, k1, _, _⟩ := Z.two
      refine bodyPost_ret (v := .tuple #[.agg #[.int .u64 0, .int .u64 0], .int .i64 10]) ?_ rfl ⟨?_, ?_⟩
      · simp [results, Tryd.results95, go_sem, k0, k1]
      · exact wfV_out (by have := hn.out; have := HZ.out; unfold wv U64 at *; omega)
      · exact (HB.out.setCell (p := ⟨w.heap.size + 1, 0, none⟩) (by simp) (.int .u64 0)).setCell (p := ⟨w.heap.size + 1, 1, none⟩) (by simp) (.int .u64 0)
end Go.Proofs.YtbnpbflndnjmcaaDoor
