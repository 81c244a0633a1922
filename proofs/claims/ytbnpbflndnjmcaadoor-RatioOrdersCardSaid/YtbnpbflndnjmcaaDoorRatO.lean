/- Contracts of package ratio: divisor, Of, Is. -/
import Derived.Test.YtbnpbflndnjmcaaDoorRatN
import Derived.Test.YtbnpbflndnjmcaaDoorReg
import Derived.Test.YtbnpbflndnjmcaaDoorBigI
import Derived.Outline
namespace Go.Proofs.YtbnpbflndnjmcaaDoor
open Go.RowKit

theorem rat_divisor (p q : Int) (hp : I64 p) (hq : I64 q) (h : q ≠ 0) (w : World) :
    Calls Tryd.prog 33 #[.int .i64 p, .int .i64 q] w fun e w' => e = .returned (.int .i64 (dv p q)) ∧ ∃ n, w' = w.drewN n := by
  have K := Lib.hid (fun W => num_gcd p q hp hq W)
  have hq' := id hq
  unfold I64 at hq'
  by_cases hg : Int.gcd p q ≤ 9223372036854775807
  · have KG : Hid (∀ W, Calls Tryd.prog 54 #[.int .i64 p, .int .i64 q] W fun e w' => e = .returned (.tuple #[.int .i64 (Int.gcd p q), .int .i64 0]) ∧ ∃ n, w' = W.drewN n) := by
      intro W
      have := num_gcd p q hp hq W
      rw [← gcdV_in rfl hg] at this
      exact this
    by_cases hn : q < 0
    · have HD : Hid (dv p q = -(Int.gcd p q : Int)) := by show _ = _; unfold dv; rw [if_pos hn]
      have h0 : (0 : Int) ≤ Int.gcd p q := by omega
      have h1 : (Int.gcd p q : Int) ≤ 9223372036854775807 := by omega
      generalize (Int.gcd p q : Int) = g at *
      go_enter Tryd.func33, Tryd.ntmps33
      go_wp2_with fail
      refine (KG.out _).mono ?_
      rintro e w' ⟨rfl, k, rfl⟩
      go_wp2
      go_ret
      exact ⟨ret1i HD.out.symm, k, rfl⟩
    · have HD : Hid (dv p q = (Int.gcd p q : Int)) := by show _ = _; unfold dv; rw [if_neg hn]
      have h0 : (0 : Int) ≤ Int.gcd p q := by omega
      have h1 : (Int.gcd p q : Int) ≤ 9223372036854775807 := by omega
      generalize (Int.gcd p q : Int) = g at *
      go_enter Tryd.func33, Tryd.ntmps33
      go_wp2_with fail
      refine (KG.out _).mono ?_
      rintro e w' ⟨rfl, k, rfl⟩
      go_wp2
      go_ret
      exact ⟨ret1i HD.out.symm, k, rfl⟩
  · have KG : Hid (∀ W, Calls Tryd.prog 54 #[.int .i64 p, .int .i64 q] W fun e w' => e = .returned (.tuple #[.int .i64 0, .int .i64 10]) ∧ ∃ n, w' = W.drewN n) := by
      intro W
      have := num_gcd p q hp hq W
      rw [← gcdV_out rfl hg] at this
      exact this
    have HD := Lib.hid (dv_big hq h hg)
    clear hg
    go_enter Tryd.func33, Tryd.ntmps33
    go_wp2_with fail
    refine (KG.out _).mono ?_
    rintro e w' ⟨rfl, k, rfl⟩
    go_wp2
    go_ret
    exact ⟨ret1i HD.out.symm, k, rfl⟩

/-- the closure of Of, where the part fits -/
theorem rat_part_in (n d : Int) (gd gf : Nat) (hn : I64 n) (hd : I64 d) (hd0 : d ≠ 0) (w : World) (hb : w.cell? ⟨gd, 0, none⟩ = some (.int .i64 d)) (hp : Part (n / d)) :
    Calls Tryd.prog 34 #[.int .i64 n, ptr gd 0, ptr gf 0] w fun e w' => e = .returned (.int .i64 (n / d)) ∧ ∃ k, w' = w.drewN k := by
  have hne : ¬ (n = -9223372036854775808 ∧ d = -1) := by
    rintro ⟨rfl, rfl⟩
    unfold Part at hp
    simp at hp
  have KD : Hid (∀ W, Calls Tryd.prog 35 #[.int .i64 n, .int .i64 d] W fun e w' => e = .returned (.tuple #[.int .i64 (n / d), .int .i64 (n % d), .int .i64 0]) ∧ ∃ k, w' = W.drewN k) := by
    intro W
    have := num_div n d hn hd W
    rw [← divV_ok hd0 hne rfl rfl] at this
    exact this
  have KC : Hid (∀ W, Calls Tryd.prog 36 #[.int .i64 (n / d), .int .i64 (-1073741824), .int .i64 1073741824] W fun e w' => e = .returned (.int .i64 (n / d)) ∧ W = w') := by
    intro W
    have := num_clamp (n / d) (-1073741824) 1073741824 W
    unfold Part at hp
    rw [if_neg (by omega), if_neg (by omega)] at this
    exact this
  clear hne
  unfold Part at hp
  obtain ⟨h1, h2⟩ := hp
  have h3 : (n / d != n / d) = false := by simp
  generalize n / d = x at *
  generalize n % d = y at *
  go_enter Tryd.func34, Tryd.ntmps34
  go_wp2_with fail
  refine (KD.out _).mono ?_
  rintro e w' ⟨rfl, k, rfl⟩
  go_wp2_with fail
  refine (KC.out _).mono ?_
  rintro e w' ⟨rfl, rfl⟩
  go_wp2
  go_ret
  exact ⟨rfl, k, rfl⟩
theorem clamp_ne {x : Int} (h : ¬ Part x) : (if x < -1073741824 then -1073741824 else if x > 1073741824 then 1073741824 else x) ≠ x := by
  unfold Part at h
  split
  · omega
  · split <;> omega
/-- the closure of Of, where the part does not fit -/
theorem rat_part_out (n d : Int) (gd gf : Nat) (hn : I64 n) (hd : I64 d) (hd0 : d ≠ 0) (w : World) (hb : w.cell? ⟨gd, 0, none⟩ = some (.int .i64 d)) (b : Bool) (hf : w.cell? ⟨gf, 0, none⟩ = some (.bool b)) (hz : w.frozen? ⟨gf, 0, none⟩ = false) (hp : ¬ Part (n / d)) :
    Calls Tryd.prog 34 #[.int .i64 n, ptr gd 0, ptr gf 0] w fun e w' => ∃ v, e = .returned (.int .i64 v) ∧ ∃ k, w' = (w.drewN k).setCell ⟨gf, 0, none⟩ (.bool false) := by
  by_cases hne : n = -9223372036854775808 ∧ d = -1
  · obtain ⟨rfl, rfl⟩ := hne
    have KD : Hid (∀ W, Calls Tryd.prog 35 #[.int .i64 (-9223372036854775808), .int .i64 (-1)] W fun e w' => e = .returned (.tuple #[.int .i64 0, .int .i64 0, .int .i64 10]) ∧ ∃ k, w' = W.drewN k) := by
      intro W
      have := num_div (-9223372036854775808) (-1) hn hd W
      rw [← divV_o] at this
      exact this
    clear hp
    go_enter Tryd.func34, Tryd.ntmps34
    go_wp2_with fail
    refine (KD.out _).mono ?_
    rintro e w' ⟨rfl, k, rfl⟩
    go_wp2
    go_ret
    exact ⟨_, rfl, k, rfl⟩
  · have KD : Hid (∀ W, Calls Tryd.prog 35 #[.int .i64 n, .int .i64 d] W fun e w' => e = .returned (.tuple #[.int .i64 (n / d), .int .i64 (n % d), .int .i64 0]) ∧ ∃ k, w' = W.drewN k) := by
      intro W
      have := num_div n d hn hd W
      rw [← divV_ok hd0 hne rfl rfl] at this
      exact this
    have hc := clamp_ne hp
    have KC := Lib.hid (fun W => num_clamp (n / d) (-1073741824) 1073741824 W)
    clear hne hp
    generalize n / d = x at *
    generalize n % d = y at *
    generalize (if x < -1073741824 then -1073741824 else if x > 1073741824 then 1073741824 else x) = c at *
    have hc2 : (c != x) = true := by simpa using hc
    have HC := Lib.hid hc
    clear hc
    go_enter Tryd.func34, Tryd.ntmps34
    go_wp2_with fail
    refine (KD.out _).mono ?_
    rintro e w' ⟨rfl, k, rfl⟩
    go_wp2_with fail
    refine (KC.out _).mono ?_
    rintro e w' ⟨rfl, rfl⟩
    go_wp2
    go_ret
    exact ⟨_, rfl, k, rfl⟩

theorem rat_of_z (p : Int) (w : World) : Calls Tryd.prog 9 #[.int .i64 p, .int .i64 0] w fun e w' => e = .returned (ofV p 0) ∧ Below w.heap.size w w' := by
  have HR := Lib.hid (ofV_z (p := p))
  have hX := Box.new w #[.int .i64 0, .int .i64 0] 23
  obtain ⟨x0, x1, x2, x3⟩ := hX.two
  clear hX
  go_enter Tryd.func9, Tryd.ntmps9
  go_wp2
  refine bodyPost_ret (v := .tuple #[.agg #[.int .i64 0, .int .i64 0], .int .i64 11]) ?_ rfl ⟨HR.out, (Below.refl _ _).alloc (Nat.le_refl _) _⟩
  simp [results, Tryd.results9, go_sem, x0, x1]

/-- the world in the middle of Of: the result, the divisor, whether all fits -/
def OfJ (B : Nat) (W : World) (d : Int) (b : Bool) (w : World) : Prop :=
  Box w B #[.int .i64 0, .int .i64 0] 23 ∧ Box w (B + 1) #[.int .i64 d] 3 ∧ Box w (B + 1 + 1) #[.bool b] 4 ∧ Below B W w ∧ w.heap.size = B + 3
theorem OfJ.drewN {B : Nat} {W : World} {d : Int} {b : Bool} {w : World} (h : OfJ B W d b w) (k : Nat) : OfJ B W d b (w.drewN k) :=
  ⟨h.1.drewN k, h.2.1.drewN k, h.2.2.1.drewN k, below_drewN h.2.2.2.1 k, h.2.2.2.2⟩
theorem OfJ.set {B : Nat} {W : World} {d : Int} {b : Bool} {w : World} (h : OfJ B W d b w) (c : Bool) : OfJ B W d c (w.setCell ⟨B + 1 + 1, 0, none⟩ (.bool c)) :=
  ⟨h.1.off (by simp; omega) _, h.2.1.off (by simp) _, h.2.2.1.set 0 _, h.2.2.2.1.setCell (p := ⟨B + 1 + 1, 0, none⟩) (by simp; omega) _, by rw [setCell_size]; exact h.2.2.2.2⟩

/-- what a call of the closure does -/
theorem rat_part {n d : Int} {B : Nat} {W w : World} {b : Bool} (hj : OfJ B W d b w) (hn : I64 n) (hd : I64 d) (hd0 : d ≠ 0) :
    Calls Tryd.prog 34 #[.int .i64 n, ptr (B + 1) 0, ptr (B + 1 + 1) 0] w fun e w' => ∃ v b', e = .returned (.int .i64 v) ∧ OfJ B W d b' w' ∧ (Part (n / d) → v = n / d ∧ b' = b) ∧ (¬ Part (n / d) → b' = false) := by
  by_cases hp : Part (n / d)
  · refine (rat_part_in n d (B + 1) (B + 1 + 1) hn hd hd0 w (hj.2.1.cell 0) hp).mono fun e w' h => ?_
    obtain ⟨he, k, rfl⟩ := h
    exact ⟨_, b, he, hj.drewN k, fun _ => ⟨rfl, rfl⟩, fun h => absurd hp h⟩
  · refine (rat_part_out n d (B + 1) (B + 1 + 1) hn hd hd0 w (hj.2.1.cell 0) b (hj.2.2.1.cell 0) (hj.2.2.1.free 0) hp).mono fun e w' h => ?_
    obtain ⟨v, he, k, rfl⟩ := h
    exact ⟨v, false, he, (hj.drewN k).set false, fun h => absurd h hp, fun _ => rfl⟩
set_option maxHeartbeats 1000000 in
theorem rat_of (p q : Int) (hp : I64 p) (hq : I64 q) (w : World) : Calls Tryd.prog 9 #[.int .i64 p, .int .i64 q] w fun e w' => e = .returned (ofV p q) ∧ Below w.heap.size w w' := by
  by_cases h0 : q = 0
  · subst h0; exact rat_of_z p w
  have hd := dv_i64 (p := p) hq h0
  have hd0 := dv_ne (p := p) h0
  have KD := Lib.hid (fun W => rat_divisor p q hp hq h0 W)
  have hqb : (q == 0) = false := by simpa using h0
  have hJ : ∀ k, OfJ w.heap.size w (dv p q) true ((((w.alloc (.cells #[.int .i64 0, .int .i64 0] 23)).drewN k).alloc (.cells #[.int .i64 (dv p q)] 3)).alloc (.cells #[.bool true] 4)) := by
    intro k
    show OfJ w.heap.size w (dv p q) true ((((w.alloc (.cells #[.int .i64 0, .int .i64 0] 23)).alloc (.cells #[.int .i64 (dv p q)] 3)).alloc (.cells #[.bool true] 4)).drewN k)
    have b1 := Box.new (w.alloc (.cells #[.int .i64 0, .int .i64 0] 23)) #[.int .i64 (dv p q)] 3
    have b2 := Box.new ((w.alloc (.cells #[.int .i64 0, .int .i64 0] 23)).alloc (.cells #[.int .i64 (dv p q)] 3)) #[.bool true] 4
    rw [alloc_size'] at b1
    rw [alloc_size', alloc_size'] at b2
    refine OfJ.drewN ⟨((Box.new w _ _).alloc _).alloc _, b1.alloc _, b2, (((Below.refl _ _).alloc (Nat.le_refl _) _).alloc (by simp) _).alloc (by simp; omega) _, by simp⟩ k
  have HJ := Lib.hid hJ
  have KP : Hid (∀ n B W w b, OfJ B W (dv p q) b w → I64 n → Calls Tryd.prog 34 #[.int .i64 n, ptr (B + 1) 0, ptr (B + 1 + 1) 0] w fun e w' => ∃ v b', e = .returned (.int .i64 v) ∧ OfJ B W (dv p q) b' w' ∧ (Part (n / dv p q) → v = n / dv p q ∧ b' = b) ∧ (¬ Part (n / dv p q) → b' = false)) := fun n B W w b hj hn => rat_part hj hn hd hd0
  clear hJ
  go_enter Tryd.func9, Tryd.ntmps9
  go_wp2_with fail
  refine (KD.out _).mono ?_
  rintro e w' ⟨rfl, k, rfl⟩
  have J0 := Lib.hid (HJ.out k)
  by_cases hf : Part (rX p q) ∧ Part (rY p q)
  · have HR := Lib.hid (ofV_in h0 hf)
    go_wp2_with fail
    refine (KP.out p _ _ _ _ J0.out hp).mono ?_
    rintro e w1 hh
    obtain ⟨v1, b1, rfl, J1, c1, -⟩ := hh
    obtain ⟨rfl, rfl⟩ := c1 hf.1
    have J1 := Lib.hid J1
    clear c1
    go_wp2_with fail
    refine (KP.out q _ _ _ _ J1.out hq).mono ?_
    rintro e w2 hh
    obtain ⟨v2, b2, rfl, J2, c2, -⟩ := hh
    obtain ⟨rfl, rfl⟩ := c2 hf.2
    have J2 := Lib.hid J2
    clear c2 hf
    have hs : w2.heap.size = w.heap.size + 1 + 1 + 1 := J2.out.2.2.2.2
    have X3 := Lib.hid (Box.new w2 #[.int .i64 (p / dv p q), .int .i64 (q / dv p q)] 23)
    have XR0 := Lib.hid J2.out.1
    have XB := Lib.hid (J2.out.2.2.1.alloc (.cells #[.int .i64 (p / dv p q), .int .i64 (q / dv p q)] 23))
    have XW := Lib.hid J2.out.2.2.2.1
    have z1 := XB.out.cell 0
    obtain ⟨x0, x1, _, _⟩ := X3.out.two
    obtain ⟨r0, r1, r2, r3⟩ := XR0.out.two
    simp at z1
    go_wp2
    have Z := (XR0.out.set2 (.int .i64 (p / dv p q)) (.int .i64 (q / dv p q))).alloc (.cells #[.int .i64 (p / dv p q), .int .i64 (q / dv p q)] 23)
    obtain ⟨k0, k1, _, _⟩ := Z.two
    refine bodyPost_ret (v := .tuple #[.agg #[.int .i64 (p / dv p q), .int .i64 (q / dv p q)], .int .i64 0]) ?_ rfl ⟨HR.out, ?_⟩
    · simp [results, Tryd.results9, go_sem, k0, k1]
    · exact ((XW.out.setCell (p := ⟨w.heap.size, 0, none⟩) (by simp) _).setCell (p := ⟨w.heap.size, 1, none⟩) (by simp) _).alloc (by simp; omega) _
  · have HR := Lib.hid (ofV_out h0 hf)
    go_wp2_with fail
    refine (KP.out p _ _ _ _ J0.out hp).mono ?_
    rintro e w1 hh
    obtain ⟨v1, b1, rfl, J1, c1, d1⟩ := hh
    have J1 := Lib.hid J1
    have HH : Hid (b1 = true → Part (rX p q)) := by
      intro hb
      exact Decidable.byContradiction fun hc => by rw [d1 hc] at hb; cases hb
    clear c1 d1
    go_wp2_with fail
    refine (KP.out q _ _ _ _ J1.out hq).mono ?_
    rintro e w2 hh
    obtain ⟨v2, b2, rfl, J2, c2, d2⟩ := hh
    obtain rfl : b2 = false := by
      by_cases hc : Part (rY p q)
      · rw [(c2 hc).2]
        cases hb : b1 with
        | false => rfl
        | true => exact absurd ⟨HH.out hb, hc⟩ hf
      · exact d2 hc
    have J2 := Lib.hid J2
    clear c2 d2 hf
    have hs : w2.heap.size = w.heap.size + 1 + 1 + 1 := J2.out.2.2.2.2
    have XR0 := Lib.hid J2.out.1
    have XR := Lib.hid (J2.out.1.alloc (.cells #[.int .i64 v1, .int .i64 v2] 23))
    have XB := Lib.hid (J2.out.2.2.1.alloc (.cells #[.int .i64 v1, .int .i64 v2] 23))
    have XW := Lib.hid J2.out.2.2.2.1
    have z1 := XB.out.cell 0
    obtain ⟨r0, r1, r2, r3⟩ := XR0.out.two
    simp at z1
    go_wp2
    have Z := (XR0.out.set2 (.int .i64 0) (.int .i64 0)).alloc (.cells #[.int .i64 v1, .int .i64 v2] 23)
    obtain ⟨k0, k1, _, _⟩ := Z.two
    refine bodyPost_ret (v := .tuple #[.agg #[.int .i64 0, .int .i64 0], .int .i64 10]) ?_ rfl ⟨HR.out, ?_⟩
    · simp [results, Tryd.results9, go_sem, k0, k1]
    · exact ((XW.out.setCell (p := ⟨w.heap.size, 0, none⟩) (by simp) _).setCell (p := ⟨w.heap.size, 1, none⟩) (by simp) _).alloc (by simp; omega) _
end Go.Proofs.YtbnpbflndnjmcaaDoor
