/- Statement WideRoots: whatever the input is, the Go function returns true and each argument reads as it did. No condition. -/
import Derived.Test.YtbnpbflndnjmcaaRows
import Derived.Test.YtbnpbflndnjmcaaWideL
import Derived.Test.YtbnpbflndnjmcaaBigC
import Derived.Test.YtbnpbflndnjmcaaOpen
import Derived.ProofKit
import Derived.OpenShut
namespace Go.Proofs.Ytbnpbflndnjmcaa.wideRoots
open Go.ChangeShapes Go.WideShapes Go.ChangeAt Go.RowKit
set_option linter.unusedVariables false

theorem own : ownKnob Try.prog.godebug = none := by kernel_rfl
theorem laid : laidOutB Try.prog = true := by kernel_rfl

theorem root_sq {A r : Int} (hr : 0 ≤ r ∧ r < 18446744073709551616) : r * r < 340282366920938463463374607431768211456 ∧ (r + 1) * (r + 1) ≤ 340282366920938463463374607431768211456 := by
  have h1 := Int.mul_le_mul (show r ≤ 18446744073709551615 by omega) (show r ≤ 18446744073709551615 by omega) (by omega) (by omega)
  have h2 := Int.mul_le_mul (show r + 1 ≤ 18446744073709551616 by omega) (show r + 1 ≤ 18446744073709551616 by omega) (by omega) (by omega)
  exact ⟨by omega, by omega⟩
theorem pw40 {n : Int} (h : n ≤ 340282366920938463463374607431768211456) : n < pw 40 := by
  have h1 := pw_mono (show 9 ≤ 40 by omega)
  have h2 : pw 9 = 22300745198530623141535718272648361505980416 := by unfold pw; rfl
  omega

set_option maxHeartbeats 2000000 in
theorem walk (h l : Int) (hh : U64 h) (hl : U64 l) (w : World) :
    Calls Try.prog 5 #[.agg #[.int .u64 h, .int .u64 l]] w fun e w' => e = .returned (.bool true) ∧ Below w.heap.size w w' := by
  have KR := Lib.hid (fun W => wide_root h l hh hl W)
  have KB := Lib.hid (fun W => big_wide h l hh hl W)
  have hN : Hid (wv h l < pw 40) := pw40 (by unfold wv U64 at *; omega)
  have J0 := Lib.hid ((Keeps.start w).alloc #[.int .u64 h, .int .u64 l] 24)
  generalize wv h l = n at *
  go_enter Try.func5, Try.ntmps5
  go_wp2_with fail
  refine (KR.out _).mono ?_
  rintro e w1 hp
  obtain ⟨r, rfl, hr, b1⟩ := hp
  have J1 := Lib.hid (J0.out.below b1)
  have hsq := root_sq (A := n) ⟨hr.1, hr.2.1⟩
  have HR := Lib.hid hr.2.2
  have ur : U64 r := ⟨hr.1, by have := hr.2.1; omega⟩
  have P1 : Hid (r < pw 40) := pw40 (by have := hr.2.1; omega)
  have P2 : Hid (r + 1 < pw 40) := pw40 (by have := hr.2.1; omega)
  have P3 : Hid (r * r < pw 40) := pw40 (by omega)
  have P4 : Hid ((r + 1) * (r + 1) < pw 40) := pw40 (by omega)
  have C1 : cmpI (r * r) n ≤ 0 := by
    have := HR.out.1
    rcases cmp_cases (r * r) n with ⟨_, e⟩ | ⟨_, e⟩ | ⟨_, e⟩ <;> rw [e] <;> omega
  have C2 : 0 < cmpI ((r + 1) * (r + 1)) n := by
    have := HR.out.2
    rcases cmp_cases ((r + 1) * (r + 1)) n with ⟨_, e⟩ | ⟨_, e⟩ | ⟨_, e⟩ <;> rw [e] <;> omega
  have I1 : Hid (∀ va vb W, IsBig W (r * r) va → IsBig W n vb → Calls Try.prog 23 #[va, vb] W fun e w' => e = .returned (.int .i64 (cmpI (r * r) n)) ∧ Below W.heap.size W w') := fun va vb W a b => big_order a b P3.out
  have I2 : Hid (∀ va vb W, IsBig W ((r + 1) * (r + 1)) va → IsBig W n vb → Calls Try.prog 23 #[va, vb] W fun e w' => e = .returned (.int .i64 (cmpI ((r + 1) * (r + 1)) n)) ∧ Below W.heap.size W w') := fun va vb W a b => big_order a b P4.out
  generalize cmpI (r * r) n = c1 at *
  generalize cmpI ((r + 1) * (r + 1)) n = c2 at *
  clear hr b1 hsq
  go_wp2_with fail
  refine (big_of r ur _).mono ?_
  rintro e w2 hp
  obtain ⟨v, rfl, hv, b2⟩ := hp
  have J2 := Lib.hid (J1.out.below b2)
  have V2 := Lib.hid hv
  clear hv b2
  go_wp2_with fail
  have O3 := Lib.hid (is_one w2)
  have V3 := Lib.hid (V2.out.below ((Below.refl _ _).alloc (Nat.le_refl _) (.cells #[.int .i64 1] 3)))
  have J3 := Lib.hid (J2.out.below ((Below.refl _ _).alloc (Nat.le_refl _) (.cells #[.int .i64 1] 3)))
  refine (big_plus V3.out O3.out P1.out (by have := P1.out; unfold pw at *; omega)).mono ?_
  rintro e w4 hp
  obtain ⟨u, rfl, hu, b4⟩ := hp
  have J4 := Lib.hid (J3.out.below b4).drew
  have V4 := Lib.hid (V3.out.below b4).drew
  have U4 := Lib.hid hu.drew
  clear hu b4
  go_wp2
  obtain ⟨x0, x1, _, _⟩ := J4.out.head.two
  go_region_held3 (fun wr => wr.cell? ⟨w.heap.size, 0, none⟩ = some (.int .u64 h) ∧ wr.cell? ⟨w.heap.size, 1, none⟩ = some (.int .u64 l)) (go_keep)
    (first
      | (go_at_call 20; ((with_reducible refine (big_times V4.out V4.out P1.out P1.out).mono ?_); rintro e w5 hp; obtain ⟨t, rfl, ht, b5⟩ := hp; have T := Lib.hid ht; have V4 := Lib.hid (V4.out.below b5); have U4 := Lib.hid (U4.out.below b5); have J4 := Lib.hid (J4.out.below b5); obtain ⟨x0, x1, _, _⟩ := J4.out.head.two; clear ht b5))
      | (go_at_call 20; ((with_reducible refine (big_times U4.out U4.out P2.out P2.out).mono ?_); rintro e w5 hp; obtain ⟨t, rfl, ht, b5⟩ := hp; have T := Lib.hid ht; have U4 := Lib.hid (U4.out.below b5); have J4 := Lib.hid (J4.out.below b5); obtain ⟨x0, x1, _, _⟩ := J4.out.head.two; clear ht b5))
      | (go_at_call 21; ((with_reducible refine (KB.out _).mono ?_); rintro e w5 hp; obtain ⟨bv, rfl, hbv, b5⟩ := hp; have T := Lib.hid (T.out.below b5); have BV := Lib.hid hbv; have U4 := Lib.hid (U4.out.below b5); have J4 := Lib.hid (J4.out.below b5); obtain ⟨x0, x1, _, _⟩ := J4.out.head.two; clear hbv b5))
      | (go_at_call 23; ((with_reducible refine (I1.out _ _ _ T.out BV.out).mono ?_); rintro e w5 ⟨rfl, b5⟩; have U4 := Lib.hid (U4.out.below b5); have J4 := Lib.hid (J4.out.below b5); obtain ⟨x0, x1, _, _⟩ := J4.out.head.two; clear b5))
      | (go_at_call 23; ((with_reducible refine (I2.out _ _ _ T.out BV.out).mono ?_); rintro e w5 ⟨rfl, b5⟩; have J4 := Lib.hid (J4.out.below b5); obtain ⟨x0, x1, _, _⟩ := J4.out.head.two; clear b5))
      | (go_at_call 10; ((with_reducible refine (lives2 _).mono ?_); rintro e w5 ⟨rfl, b5⟩; have J4 := Lib.hid (J4.out.below b5); obtain ⟨x0, x1, _, _⟩ := J4.out.head.two; clear b5)))
  all_goals
    go_wp2
    go_ret
    exact ⟨rfl, J4.out.2.1⟩

set_option maxRecDepth 100000 in
theorem lifted (os : Os) (started : os.Started) (H : Type) (enc : TypeId × Value → H) :
    ReturnsInHanded {} Try.checked os 5 .any (Rows.wideRootsSpec.pre6 enc Try.prog Try.f5 Rows.wideRootsRow.domain false) (Rows.wideRootsSpec.post enc Try.prog Try.f5 false true false false) := by
  refine returnsInHanded_of_change (C := Try.checked) own started (by kernel_rfl) Try.func5
    (ChangeSpec.witness6 (enc := enc) (C := Try.checked) false ⟨#[], #[.agg #[.int .u64 0, .int .u64 0]], []⟩ 8 (by kernel_rfl) (by kernel_rfl) (by kernel_rfl) (by kernel_rfl)) ?_
  intro W base args ds gs before hval0 hW hcnd _
  have hval : ∀ (j : Nat) t v, Try.f5.params[j]? = some t → args[j]? = some v → Value.okWide Try.prog W .any base t v := hval0
  have hW' := hW
  obtain ⟨p, q, hA0, hV, rfl, hfz, hnd⟩ := hW
  obtain ⟨rfl, rfl⟩ := trodVars_none hV
  have hA : DataW.TrodAll enc Try.prog W 0 (fun _ => true) true Try.f5.params.toList args.toList ds p := hA0
  rw [Try.params5] at hA hval
  obtain ⟨v0, vs0, d0, ds0, p0, q0, hargs, rfl, rfl, h0, r0⟩ := trodAll_cons hA
  obtain ⟨rfl, rfl, rfl⟩ := trodAll_nil r0
  obtain rfl : args = #[v0] := by cases args; simp_all
  obtain ⟨a0, b0, rfl, w0, z0⟩ := open_two Try.underlying24 Try.underlying22 Try.underlying22 (by kernel_rfl) (by kernel_rfl) (hval 0 24 v0 rfl rfl) h0
  refine (walk a0 b0 (u64_of_wf w0) (u64_of_wf z0) W).mono fun e W' ⟨he, hg⟩ => ?_
  subst he
  exact ⟨_, rfl, law_post laid (by rw [Try.params5]; exact (by decide +kernel)) rfl (by kernel_rfl) Try.underlying4 rfl hW' hg⟩

theorem over : Rows.wideRootsRow.holds Try.pinned (OpenSpec.ofChange Rows.wideRootsSpec) :=
  OpenClaim.holds_of_wide 5 Try.f5 rfl rfl rfl rfl rfl rfl rfl ⟨rfl, rfl, rfl, rfl, rfl⟩ rfl rfl rfl rfl rfl (by kernel_rfl) Try.func5 (by kernel_rfl)
    (of_decide_eq_true (by kernel_rfl)) (by unfold Func.isWrapper; first | (rw [if_pos (by decide +kernel)]; kernel_rfl) | (rw [if_neg (by decide +kernel)]; exact ⟨rfl, rfl⟩))
    (fun os started H enc _ => lifted os started H enc)
theorem proved : Rows.WideRootsSaid := over
end Go.Proofs.Ytbnpbflndnjmcaa.wideRoots
