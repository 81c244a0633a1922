/- Statement WideDivides: whatever the input is, the Go function returns true and each argument reads as it did. No condition. -/
import Derived.Test.YtbnpbflndnjmcaaRows
import Derived.Test.YtbnpbflndnjmcaaWideL
import Derived.Test.YtbnpbflndnjmcaaBigC
import Derived.Test.YtbnpbflndnjmcaaOpen
import Derived.ProofKit
import Derived.OpenShut
namespace Go.Proofs.Ytbnpbflndnjmcaa.wideDivides
open Go.ChangeShapes Go.WideShapes Go.ChangeAt Go.RowKit
set_option linter.unusedVariables false

theorem own : ownKnob Try.prog.godebug = none := by kernel_rfl
theorem laid : laidOutB Try.prog = true := by kernel_rfl

theorem walk_0 (h l : Int) (hh : U64 h) (hl : U64 l) (w : World) :
    Calls Try.prog 4 #[.agg #[.int .u64 h, .int .u64 l], .int .u64 0] w fun e w' => e = .returned (.bool true) ∧ Below w.heap.size w w' := by
  have K := Lib.hid (fun W => wide_div_0 h l W)
  have J0 := Lib.hid ((Keeps.start w).alloc #[.int .u64 h, .int .u64 l] 24)
  go_enter Try.func4, Try.ntmps4
  go_wp2_with fail
  refine (K.out _).mono ?_
  rintro e w1 ⟨rfl, b1⟩
  have J1 := Lib.hid ((J0.out.below b1).alloc #[.int .u64 0, .int .u64 0] 24)
  clear b1
  go_wp2_with fail
  refine (lives2 _).mono ?_
  rintro e w2 ⟨rfl, b2⟩
  go_wp2
  go_ret
  exact ⟨rfl, (J1.out.below b2).2.1⟩
theorem pw40 {n : Int} (h : n ≤ 340282366920938463463374607431768211456) : n < pw 40 := by
  have h1 := pw_mono (show 9 ≤ 40 by omega)
  have h2 : pw 9 = 22300745198530623141535718272648361505980416 := by unfold pw; rfl
  omega
set_option maxHeartbeats 2000000 in
theorem walk_1 (h l d : Int) (hh : U64 h) (hl : U64 l) (hd : U64 d) (hd0 : 0 < d) (w : World) :
    Calls Try.prog 4 #[.agg #[.int .u64 h, .int .u64 l], .int .u64 d] w fun e w' => e = .returned (.bool true) ∧ Below w.heap.size w w' := by
  have KB := Lib.hid (fun W => big_wide h l hh hl W)
  have J0 := Lib.hid ((Keeps.start w).alloc #[.int .u64 h, .int .u64 l] 24)
  obtain ⟨qh, ql, r, uq, ul, hr, hq, KD⟩ : ∃ qh ql r, U64 qh ∧ U64 ql ∧ (0 ≤ r ∧ r < d) ∧ Hid (wv qh ql = wv h l / d ∧ r = wv h l % d) ∧ Hid (∀ W, Calls Try.prog 18 #[.agg #[.int .u64 h, .int .u64 l], .int .u64 d] W fun e w' => e = .returned (.tuple #[.agg #[.int .u64 qh, .int .u64 ql], .int .u64 r, .int .i64 0]) ∧ Below W.heap.size W w') := by
    have e2 := two_steps h l d hd0
    have e0 : wv 0 h = h := by unfold wv; omega
    have e3 := q2_bd h l d hd0 hl
    refine ⟨wv 0 h / d, wv (wv 0 h % d) l / d, wv (wv 0 h % d) l % d, ?_, ?_, ?_, ⟨e2.1.symm, e2.2.symm⟩, fun W => wide_div h l d hh hl hd hd0 W⟩
    · rw [e0]; unfold U64 at *
      exact ⟨Int.ediv_nonneg hh.1 (by omega), Int.lt_of_le_of_lt (Int.ediv_le_self _ hh.1) hh.2⟩
    · rw [e0]; unfold U64; exact e3
    · exact ⟨Int.emod_nonneg _ (by omega), Int.emod_lt_of_pos _ hd0⟩
  have ur : U64 r := by unfold U64 at *; omega
  have hN : 0 ≤ wv h l ∧ wv h l ≤ 340282366920938463463374607431768211455 := by unfold wv U64 at *; omega
  have hM : Hid (wv qh ql * d + r = wv h l) := by
    show _ = _
    rw [hq.out.1, hq.out.2]
    exact Int.ediv_mul_add_emod _ _
  have hQ : 0 ≤ wv qh ql ∧ wv qh ql ≤ 340282366920938463463374607431768211455 := by unfold wv U64 at *; omega
  have hP : wv qh ql * d ≤ 340282366920938463463374607431768211455 := by have := hM.out; omega
  have P1 : Hid (wv qh ql < pw 40) := pw40 (by omega)
  have P2 : Hid (d < pw 40) := pw40 (by unfold U64 at hd; omega)
  have P3 : Hid (wv qh ql * d < pw 40) := pw40 (by omega)
  have P4 : Hid (r < pw 40) := pw40 (by unfold U64 at ur; omega)
  have P5 : Hid (wv h l < pw 40) := pw40 (by omega)
  have KQ := Lib.hid (fun W => big_wide qh ql uq ul W)
  have hc : Hid (cmpI (wv h l) (wv h l) = 0) := by
    show _ = _
    unfold cmpI; rw [if_neg (by omega), if_pos rfl]
  have hd0' : (d == 0) = false := by simp; omega
  have hlt : r < d := hr.2
  clear hN hP hQ hr
  generalize wv qh ql = q at *
  generalize wv h l = n at *
  go_enter Try.func4, Try.ntmps4
  go_wp2_with fail
  refine (KD.out _).mono ?_
  rintro e w1 ⟨rfl, b1⟩
  have J1 := Lib.hid ((J0.out.below b1).alloc #[.int .u64 qh, .int .u64 ql] 24)
  clear b1
  go_wp2_with fail
  refine (KQ.out _).mono ?_
  rintro e w2 hp
  obtain ⟨v, rfl, hv, b2⟩ := hp
  have J2 := Lib.hid (J1.out.below b2)
  have V := Lib.hid hv
  clear hv b2
  go_wp2_with fail
  refine (big_of d hd _).mono ?_
  rintro e w3 hp
  obtain ⟨u, rfl, hu, b3⟩ := hp
  have J3 := Lib.hid (J2.out.below b3)
  have V3 := Lib.hid (V.out.below b3)
  have U := Lib.hid hu
  clear hu b3
  go_wp2_with fail
  refine (big_times V3.out U.out P1.out P2.out).mono ?_
  rintro e w4 hp
  obtain ⟨t, rfl, ht, b4⟩ := hp
  have J4 := Lib.hid (J3.out.below b4)
  have T := Lib.hid ht
  clear ht b4
  go_wp2_with fail
  refine (big_of r ur _).mono ?_
  rintro e w5 hp
  obtain ⟨s, rfl, hs, b5⟩ := hp
  have J5 := Lib.hid (J4.out.below b5)
  have T5 := Lib.hid (T.out.below b5)
  have S := Lib.hid hs
  clear hs b5
  go_wp2_with fail
  refine (big_plus T5.out S.out P3.out P4.out).mono ?_
  rintro e w6 hp
  obtain ⟨y, rfl, hy, b6⟩ := hp
  rw [hM.out] at hy
  have J6 := Lib.hid (J5.out.below b6)
  have Y := Lib.hid hy
  clear hy b6
  obtain ⟨x0, x1, _, _⟩ := J6.out.tail.head.two
  go_wp2_with fail
  refine (KB.out _).mono ?_
  rintro e w7 hp
  obtain ⟨z, rfl, hz, b7⟩ := hp
  have J7 := Lib.hid (J6.out.below b7)
  have Y7 := Lib.hid (Y.out.below b7)
  have Z := Lib.hid hz
  clear hz b7
  go_wp2_with fail
  refine (big_order Y7.out Z.out P5.out).mono ?_
  rw [hc.out]
  rintro e w8 ⟨rfl, b8⟩
  have J8 := Lib.hid (J7.out.below b8)
  clear b8
  go_wp2_with fail
  refine (lives2 _).mono ?_
  rintro e w9 ⟨rfl, b9⟩
  go_wp2
  go_ret
  exact ⟨rfl, (J8.out.below b9).2.1⟩
theorem walk (h l : Int) (hh : U64 h) (hl : U64 l) (d : Int) (hd : U64 d) (w : World) :
    Calls Try.prog 4 #[.agg #[.int .u64 h, .int .u64 l], .int .u64 d] w fun e w' => e = .returned (.bool true) ∧ Below w.heap.size w w' := by
  by_cases hz : d = 0
  · subst hz; exact walk_0 h l hh hl w
  · exact walk_1 h l d hh hl hd (by unfold U64 at hd; omega) w

set_option maxRecDepth 100000 in
theorem lifted (os : Os) (started : os.Started) (H : Type) (enc : TypeId × Value → H) :
    ReturnsInHanded {} Try.checked os 4 .any (Rows.wideDividesSpec.pre6 enc Try.prog Try.f4 Rows.wideDividesRow.domain false) (Rows.wideDividesSpec.post enc Try.prog Try.f4 false true false false) := by
  refine returnsInHanded_of_change (C := Try.checked) own started (by kernel_rfl) Try.func4
    (ChangeSpec.witness6 (enc := enc) (C := Try.checked) false ⟨#[], #[.agg #[.int .u64 0, .int .u64 0], .int .u64 0], []⟩ 8 (by kernel_rfl) (by kernel_rfl) (by kernel_rfl) (by kernel_rfl)) ?_
  intro W base args ds gs before hval0 hW hcnd _
  have hval : ∀ (j : Nat) t v, Try.f4.params[j]? = some t → args[j]? = some v → Value.okWide Try.prog W .any base t v := hval0
  have hW' := hW
  obtain ⟨p, q, hA0, hV, rfl, hfz, hnd⟩ := hW
  obtain ⟨rfl, rfl⟩ := trodVars_none hV
  have hA : DataW.TrodAll enc Try.prog W 0 (fun _ => true) true Try.f4.params.toList args.toList ds p := hA0
  rw [Try.params4] at hA hval
  obtain ⟨v0, vs0, d0, ds0, p0, q0, hargs, rfl, rfl, h0, r0⟩ := trodAll_cons hA
  obtain ⟨v1, vs1, d1, ds1, p1, q1, rfl, rfl, rfl, h1, r1⟩ := trodAll_cons r0
  obtain ⟨rfl, rfl, rfl⟩ := trodAll_nil r1
  obtain rfl : args = #[v0, v1] := by cases args; simp_all
  obtain ⟨a0, b0, rfl, w0, z0⟩ := open_two Try.underlying24 Try.underlying22 Try.underlying22 (by kernel_rfl) (by kernel_rfl) (hval 0 24 v0 rfl rfl) h0
  obtain ⟨a1, rfl, _, _, w1⟩ := open_int Try.underlying22 (hval 1 22 v1 rfl rfl) h1
  refine (walk a0 b0 (u64_of_wf w0) (u64_of_wf z0) a1 (u64_of_wf w1) W).mono fun e W' ⟨he, hg⟩ => ?_
  subst he
  exact ⟨_, rfl, law_post laid (by rw [Try.params4]; exact (by decide +kernel)) rfl (by kernel_rfl) Try.underlying4 rfl hW' hg⟩

theorem over : Rows.wideDividesRow.holds Try.pinned (OpenSpec.ofChange Rows.wideDividesSpec) :=
  OpenClaim.holds_of_wide 4 Try.f4 rfl rfl rfl rfl rfl rfl rfl ⟨rfl, rfl, rfl, rfl, rfl⟩ rfl rfl rfl rfl rfl (by kernel_rfl) Try.func4 (by kernel_rfl)
    (of_decide_eq_true (by kernel_rfl)) (by unfold Func.isWrapper; first | (rw [if_pos (by decide +kernel)]; kernel_rfl) | (rw [if_neg (by decide +kernel)]; exact ⟨rfl, rfl⟩))
    (fun os started H enc _ => lifted os started H enc)
theorem proved : Rows.WideDividesSaid := over
end Go.Proofs.Ytbnpbflndnjmcaa.wideDivides
