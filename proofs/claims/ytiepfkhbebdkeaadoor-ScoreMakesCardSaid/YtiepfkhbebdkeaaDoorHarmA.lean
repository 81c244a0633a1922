import Derived.Test.YtiepfkhbebdkeaaDoorHarmM
import Derived.Test.YtiepfkhbebdkeaaDoorBigC

/-! Package harm: held, with, upTo, Low, High, ends, Ends, middle, Norm. -/
namespace Go.Proofs.YtiepfkhbebdkeaaDoor
open Go.RowKit
set_option linter.unusedVariables false
set_option linter.unusedSimpArgs false
set_option maxRecDepth 100000

theorem i64w (x : Int) : IntKind.i64.wrap x = (x + 9223372036854775808) % 18446744073709551616 - 9223372036854775808 := by
  simp [IntKind.wrap, IntKind.bits, IntKind.signed]
  split <;> omega
theorem harm_held (n : Int) (w : World) : Calls Tryd.prog 58 #[.int .i64 n] w fun e w' => e = .returned (.int .i64 (heldN n)) ∧ w = w' := by
  have h : Hid ((if n < 0 then 0 else if n > 256 then 256 else n) = (heldN n : Int)) := by
    show _ = _
    unfold heldN; split <;> (try split) <;> (try split) <;> omega
  generalize (heldN n : Int) = H at *
  go_enter Tryd.func58, Tryd.ntmps58
  go_wp2_with fail
  refine (num_clamp n 0 256 _).mono ?_
  rw [h.out]
  rintro e w1 ⟨rfl, rfl⟩
  go_wp2
  go_ret
  exact ⟨rfl, rfl⟩
abbrev sumsV (a b : Int) : Value := .agg #[.int .i64 a, .int .i64 b]
theorem harm_with (a b : Int) (k : Nat) (w : World) (ha : 0 ≤ a ∧ a ≤ 1000000000000) (hb : 0 ≤ b ∧ b ≤ 1000000000000) (hk : k ≤ 1000) :
    Calls Tryd.prog 81 #[sumsV a b, .int .i64 ((k : Int) + 1)] w fun e w' => e = .returned (sumsV (a + 1073741824 / ((k : Int) + 1)) (b + -(-1073741824 / ((k : Int) + 1)))) ∧ Below w.heap.size w w' := by
  have h1 : 0 ≤ 1073741824 / ((k : Int) + 1) := Int.ediv_nonneg (by omega) (by omega)
  have h2 : 1073741824 / ((k : Int) + 1) ≤ 1073741824 := Int.ediv_le_self _ (by omega)
  have h3 := ceil_step (k := k)
  have ht : Int.tdiv 1073741824 ((k : Int) + 1) = 1073741824 / ((k : Int) + 1) := Int.tdiv_eq_ediv_of_nonneg (by omega)
  have KC := Lib.hid (num_ceil 1073741824 ((k : Int) + 1) (by unfold I64; omega))
  unfold ceilV at KC
  rw [show ceilN 1073741824 ((k : Int) + 1) = -(-1073741824 / ((k : Int) + 1)) from by unfold ceilN; rw [if_neg (by omega)], show ceilE ((k : Int) + 1) = 0 from by unfold ceilE; rw [if_neg (by omega)]] at KC
  have J0 := Lib.hid (((Keeps.start w).alloc #[.int .i64 a, .int .i64 b] 81).alloc #[.int .i64 0, .int .i64 0] 81)
  simp only [alloc_size'] at J0
  obtain ⟨r0, r1, r2, r3⟩ := J0.out.head.two
  obtain ⟨x0, x1, _, _⟩ := J0.out.tail.head.two
  have hk0 : ¬ ((k : Int) + 1 = 0) := by omega
  have w1 : IntKind.i64.wrap (1073741824 / ((k : Int) + 1)) = 1073741824 / ((k : Int) + 1) := by simp only [i64w]; omega
  have w2 : IntKind.i64.wrap (a + 1073741824 / ((k : Int) + 1)) = a + 1073741824 / ((k : Int) + 1) := by simp only [i64w]; omega
  have w3 : IntKind.i64.wrap (b + -(-1073741824 / ((k : Int) + 1))) = b + -(-1073741824 / ((k : Int) + 1)) := by simp only [i64w]; omega
  generalize -(-1073741824 / ((k : Int) + 1)) = C at *
  generalize 1073741824 / ((k : Int) + 1) = q at *
  go_enter Tryd.func81, Tryd.ntmps81
  go_wp2_with fail
  refine (KC.out _).mono ?_
  rintro e w1 ⟨rfl, rfl⟩
  go_wp2_with fail
  go_region_with (fail)
  go_wp2
  all_goals
    refine bodyPost_ret (v := sumsV (a + q) (b + C)) ?_ rfl ⟨rfl, ?_⟩
    · have h2 := heap_alloc_new (w.alloc (.cells #[.int .i64 a, .int .i64 b] 81)) (.cells #[.int .i64 (a + q), .int .i64 (b + C)] 81)
      simp [results, Tryd.results81, go_sem]
    · exact (((Below.refl _ _).alloc (Nat.le_refl _) _).alloc (by simp) _).drew
theorem Keeps.put2 {B : Nat} {W w : World} {g : Nat} {a b : Value} {t : TypeId} {l : List (Nat × Array Value × TypeId)} (h : Keeps B W ((g, #[a, b], t) :: l) w) (hg : B ≤ g) (hne : ∀ x ∈ l, x.1 ≠ g) (u v : Value) :
    Keeps B W ((g, #[u, v], t) :: l) ((w.setCell ⟨g, 0, none⟩ u).setCell ⟨g, 1, none⟩ v) := by
  refine ⟨fun x hx => ?_, (h.2.1.setCell (p := ⟨g, 0, none⟩) hg _).setCell (p := ⟨g, 1, none⟩) hg _, by simp; exact h.2.2⟩
  rcases List.mem_cons.1 hx with rfl | hx
  · exact h.head.set2 u v
  · exact (h.1 x (List.mem_cons_of_mem _ hx)).off2 (fun e => hne x hx e.symm) u v
theorem sum_bds {k : Nat} (h : k ≤ 256) : (0 ≤ lowN k ∧ lowN k ≤ 1000000000000) ∧ (0 ≤ highN k ∧ highN k ≤ 1000000000000) := by
  have := lowN_bd k
  have := highN_bd k
  omega
set_option maxHeartbeats 1000000 in
theorem harm_upto (n : Int) (w : World) : Calls Tryd.prog 60 #[.int .i64 n] w fun e w' => e = .returned (sumsV (lowN (heldN n)) (highN (heldN n))) ∧ Below w.heap.size w w' := by
  have KH := Lib.hid (harm_held n)
  have hH := heldN_le n
  generalize heldN n = H at *
  go_enter Tryd.func60, Tryd.ntmps60
  go_wp2_with fail
  refine (KH.out _).mono ?_
  rintro e w1 ⟨rfl, rfl⟩
  have J0 := Lib.hid (((Keeps.start w).alloc #[.int .i64 0, .int .i64 0] 81).alloc #[.int .i64 0, .int .i64 0] 81)
  simp only [alloc_size'] at J0
  go_wp2
  go_loopw [4, 7] (fun u i wr => ∃ k : Nat, k ≤ H ∧ i = .int .i64 k ∧ Hid (Keeps w.heap.size w [(w.heap.size + 1, #[.int .i64 (lowN k), .int .i64 (highN k)], 81), (w.heap.size, #[.int .i64 0, .int .i64 0], 81)] wr)) (fun _ i _ => H - (intOf i).toNat)
  case atStart => exact ⟨0, by omega, rfl, J0.out⟩
  case round =>
    obtain ⟨k, hk, rfl, J⟩ := hrel
    obtain ⟨s0, s1, s2, s3⟩ := J.out.head.two
    obtain ⟨r0, r1, r2, r3⟩ := J.out.tail.head.two
    by_cases hlt : k < H
    · have KW := Lib.hid (fun W => harm_with (lowN k) (highN k) k W (sum_bds (by omega)).1 (sum_bds (by omega)).2 (by omega))
      rw [show lowN k + 1073741824 / ((k : Int) + 1) = lowN (k + 1) from rfl, show highN k + -(-1073741824 / ((k : Int) + 1)) = highN (k + 1) from rfl] at KW
      have HK1 := Lib.hid (rfl : (lowN (k + 1), highN (k + 1)) = (lowN (k + 1), highN (k + 1)))
      generalize hl1 : lowN (k + 1) = L1 at *
      generalize hh1 : highN (k + 1) = H1 at *
      have HL1 := Lib.hid hl1
      have HH1 := Lib.hid hh1
      clear hl1 hh1
      go_wp2_with fail
      refine (KW.out _).mono ?_
      rintro e w2 ⟨rfl, b2⟩
      have J2 := Lib.hid (J.out.below b2)
      obtain ⟨t0, t1, t2, t3⟩ := J2.out.head.two
      go_wp2
      have HK1' : Hid (Keeps w.heap.size w [(w.heap.size + 1, #[.int .i64 L1, .int .i64 H1], 81), (w.heap.size, #[.int .i64 0, .int .i64 0], 81)] _) := J2.out.put2 (by omega) (by intro x hx; simp at hx; subst hx; simp) (.int .i64 L1) (.int .i64 H1)
      exact ⟨⟨k + 1, by omega, by go_num, by rw [HL1.out, HH1.out]; exact HK1'⟩, by simp [intOf]; omega⟩
    · obtain rfl : k = H := by omega
      go_wp2
      have Z := J.out.tail.put2 (Nat.le_refl _) (by intro x hx; simp at hx) (.int .i64 (lowN k)) (.int .i64 (highN k))
      obtain ⟨z0, z1, z2, z3⟩ := Z.head.two
      refine bodyPost_ret (v := sumsV (lowN k) (highN k)) ?_ rfl ⟨rfl, Z.2.1⟩
      simp [results, Tryd.results60, go_sem, z0, z1]
end Go.Proofs.YtiepfkhbebdkeaaDoor
