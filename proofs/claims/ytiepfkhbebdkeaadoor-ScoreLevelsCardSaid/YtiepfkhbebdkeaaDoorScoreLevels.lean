/- Statement ScoreLevels: whatever the input is, the Go function returns true and each argument reads as it did. No condition. -/
import Derived.Test.YtiepfkhbebdkeaaDoorRows
import Derived.Test.YtiepfkhbebdkeaaDoorScoF
import Derived.Test.YtiepfkhbebdkeaaDoorBase
import Derived.Test.YtiepfkhbebdkeaaDoorTie
import Derived.Test.YtiepfkhbebdkeaaDoorCards
import Derived.SevenTiedAt
import Derived.ProofKit
import Derived.OpenShut
namespace Go.Proofs.YtiepfkhbebdkeaaDoor.scoreLevels
open Go.ChangeShapes Go.WideShapes Go.ChangeAt Go.RowKit
set_option linter.unusedVariables false

theorem own : ownKnob Tryd.prog.godebug = none := by kernel_rfl
theorem laid : laidOutB Tryd.prog = true := by kernel_rfl

theorem lvE_cases (p q n : Int) : (lvE p q n = 1 ∨ lvE p q n = 130) ∨ (lvE p q n = 0 ∧ (2 ≤ n ∧ n ≤ 64) ∧ ScoOk p q) := by
  unfold lvE
  by_cases h : 2 ≤ n ∧ n ≤ 64
  · by_cases g : ScoOk p q
    · right; rw [if_neg (fun k => k h), if_pos g]; exact ⟨rfl, h, g⟩
    · left; right; rw [if_neg (fun k => k h), if_neg g]
  · left; left; rw [if_pos h]
theorem lvN_range (p q n : Int) : 0 ≤ lvN p q n ∧ lvN p q n ≤ 1000 := by
  unfold lvN
  split
  · rename_i h
    exact lvC_range (by have := norm_of h.1; omega) h.2
  · omega
set_option maxHeartbeats 2000000 in
theorem walk (p q : Int) (hp : I64 p) (hq : I64 q) (r s : Int) (hr : I64 r) (hs : I64 s) (n : Int) (hn : I64 n) (w : World) (hT : Tab w ∧ Ers w) :
    Calls Tryd.prog 5 #[.agg #[.int .i64 p, .int .i64 q], .agg #[.int .i64 r, .int .i64 s], .int .i64 n] w fun e w' => e = .returned (.bool true) ∧ Below w.heap.size w w' := by
  have J0 := Lib.hid (((Keeps.start w).alloc #[.int .i64 p, .int .i64 q] 23).alloc #[.int .i64 r, .int .i64 s] 23)
  have T0 := Lib.hid ((hT.1.alloc (.cells #[.int .i64 p, .int .i64 q] 23)).alloc (.cells #[.int .i64 r, .int .i64 s] 23))
  have E0 := Lib.hid ((hT.2.alloc (.cells #[.int .i64 p, .int .i64 q] 23)).alloc (.cells #[.int .i64 r, .int .i64 s] 23))
  have K1 := Lib.hid (fun W => sco_level p q n hp hq W)
  have K2 := Lib.hid (fun W => ref13_level p q n W)
  have K3 := Lib.hid (fun W => sco_level r s n hr hs W)
  have KL := Lib.hid (fun W hT hE => lives13 W hT hE)
  obtain ⟨x1, x2⟩ := lvN_range p q n
  obtain ⟨z1, z2⟩ := lvN_range r s n
  clear hT hp hq hr hs hn
  rcases lvE_cases p q n with he | ⟨he, hn, h1⟩
  · have he0 : (lvE p q n == 0) = false := by simp; omega
    have he1 : ¬ lvE p q n = 0 := by omega
    clear he
    unfold lvV at K1 K2 K3
    generalize lvN p q n = x at *
    generalize lvE p q n = e at *
    generalize lvN r s n = z at *
    generalize lvE r s n = g at *
    go_enter Tryd.func5, Tryd.ntmps5
    obtain ⟨y0, y1, _, _⟩ := J0.out.head.two
    obtain ⟨v0, v1, _, _⟩ := J0.out.tail.head.two
    go_wp2_with fail
    refine (K1.out _).mono ?_
    rintro r w1 ⟨rfl, b⟩
    have J1 := Lib.hid (J0.out.below b)
    have T1 := Lib.hid (T0.out.below b)
    have E1 := Lib.hid (E0.out.below b)
    clear b
    try clear y0 y1 v0 v1
    obtain ⟨y0, y1, _, _⟩ := J1.out.head.two
    obtain ⟨v0, v1, _, _⟩ := J1.out.tail.head.two
    simp only [alloc_size'] at y0 y1
    go_wp2_with fail
    refine (K2.out _).mono ?_
    rintro r w2 ⟨rfl, b⟩
    have J2 := Lib.hid (J1.out.below b)
    have T2 := Lib.hid (T1.out.below b)
    have E2 := Lib.hid (E1.out.below b)
    clear b
    try clear y0 y1 v0 v1
    obtain ⟨y0, y1, _, _⟩ := J2.out.head.two
    obtain ⟨v0, v1, _, _⟩ := J2.out.tail.head.two
    simp only [alloc_size'] at y0 y1
    go_wp2_with fail
    refine (K3.out _).mono ?_
    rintro r w3 ⟨rfl, b⟩
    have J3 := Lib.hid (J2.out.below b)
    have T3 := Lib.hid (T2.out.below b)
    have E3 := Lib.hid (E2.out.below b)
    clear b
    try clear y0 y1 v0 v1
    obtain ⟨y0, y1, _, _⟩ := J3.out.head.two
    obtain ⟨v0, v1, _, _⟩ := J3.out.tail.head.two
    simp only [alloc_size'] at y0 y1
    go_wp2_with fail
    refine (KL.out _ T3.out E3.out).mono ?_
    rintro r w4 ⟨rfl, b⟩
    go_wp2
    go_ret
    exact ⟨rfl, (J3.out.below b).2.1⟩
  · rcases lvE_cases r s n with hg | ⟨hg, _, h2⟩
    · have he0 : (lvE r s n == 0) = false := by simp; omega
      have he1 : ¬ lvE r s n = 0 := by omega
      clear hg
      unfold lvV at K1 K2 K3
      rw [he] at K1 K2
      generalize lvN p q n = x at *
      generalize lvN r s n = z at *
      generalize lvE r s n = g at *
      go_enter Tryd.func5, Tryd.ntmps5
      obtain ⟨y0, y1, _, _⟩ := J0.out.head.two
      obtain ⟨v0, v1, _, _⟩ := J0.out.tail.head.two
      go_wp2_with fail
      refine (K1.out _).mono ?_
      rintro r w1 ⟨rfl, b⟩
      have J1 := Lib.hid (J0.out.below b)
      have T1 := Lib.hid (T0.out.below b)
      have E1 := Lib.hid (E0.out.below b)
      clear b
      try clear y0 y1 v0 v1
      obtain ⟨y0, y1, _, _⟩ := J1.out.head.two
      obtain ⟨v0, v1, _, _⟩ := J1.out.tail.head.two
      simp only [alloc_size'] at y0 y1
      go_wp2_with fail
      refine (K2.out _).mono ?_
      rintro r w2 ⟨rfl, b⟩
      have J2 := Lib.hid (J1.out.below b)
      have T2 := Lib.hid (T1.out.below b)
      have E2 := Lib.hid (E1.out.below b)
      clear b
      try clear y0 y1 v0 v1
      obtain ⟨y0, y1, _, _⟩ := J2.out.head.two
      obtain ⟨v0, v1, _, _⟩ := J2.out.tail.head.two
      simp only [alloc_size'] at y0 y1
      go_wp2_with fail
      refine (K3.out _).mono ?_
      rintro r w3 ⟨rfl, b⟩
      have J3 := Lib.hid (J2.out.below b)
      have T3 := Lib.hid (T2.out.below b)
      have E3 := Lib.hid (E2.out.below b)
      clear b
      try clear y0 y1 v0 v1
      obtain ⟨y0, y1, _, _⟩ := J3.out.head.two
      obtain ⟨v0, v1, _, _⟩ := J3.out.tail.head.two
      simp only [alloc_size'] at y0 y1
      go_wp2_with fail
      refine (KL.out _ T3.out E3.out).mono ?_
      rintro r w4 ⟨rfl, b⟩
      go_wp2
      go_ret
      exact ⟨rfl, (J3.out.below b).2.1⟩
    · have KO := Lib.hid (fun W => ref13_odder p q r s h1 h2 W)
      have hm : 0 ≤ oddC p q r s → lvN r s n ≤ lvN p q n := fun ho => by
        have := lvC_mono (c := normN (heldN n)) (by have := norm_of hn; omega) h1 h2 ho
        unfold lvN
        rw [if_pos (show LvOk p q n from ⟨hn, h1⟩), if_pos (show LvOk r s n from ⟨hn, h2⟩)]
        exact this
      unfold lvV at K1 K2 K3
      rw [he] at K1 K2
      rw [hg] at K3
      clear he hg hn h1 h2
      generalize lvN p q n = x at *
      generalize lvN r s n = z at *
      generalize oddC p q r s = o at *
      by_cases ho : o < 0
      · clear hm
        go_enter Tryd.func5, Tryd.ntmps5
        obtain ⟨y0, y1, _, _⟩ := J0.out.head.two
        obtain ⟨v0, v1, _, _⟩ := J0.out.tail.head.two
        go_wp2_with fail
        refine (K1.out _).mono ?_
        rintro r w1 ⟨rfl, b⟩
        have J1 := Lib.hid (J0.out.below b)
        have T1 := Lib.hid (T0.out.below b)
        have E1 := Lib.hid (E0.out.below b)
        clear b
        try clear y0 y1 v0 v1
        obtain ⟨y0, y1, _, _⟩ := J1.out.head.two
        obtain ⟨v0, v1, _, _⟩ := J1.out.tail.head.two
        simp only [alloc_size'] at y0 y1
        go_wp2_with fail
        refine (K2.out _).mono ?_
        rintro r w2 ⟨rfl, b⟩
        have J2 := Lib.hid (J1.out.below b)
        have T2 := Lib.hid (T1.out.below b)
        have E2 := Lib.hid (E1.out.below b)
        clear b
        try clear y0 y1 v0 v1
        obtain ⟨y0, y1, _, _⟩ := J2.out.head.two
        obtain ⟨v0, v1, _, _⟩ := J2.out.tail.head.two
        simp only [alloc_size'] at y0 y1
        go_wp2_with fail
        refine (K3.out _).mono ?_
        rintro r w3 ⟨rfl, b⟩
        have J3 := Lib.hid (J2.out.below b)
        have T3 := Lib.hid (T2.out.below b)
        have E3 := Lib.hid (E2.out.below b)
        clear b
        try clear y0 y1 v0 v1
        obtain ⟨y0, y1, _, _⟩ := J3.out.head.two
        obtain ⟨v0, v1, _, _⟩ := J3.out.tail.head.two
        simp only [alloc_size'] at y0 y1
        go_wp2_with fail
        refine (KO.out _).mono ?_
        rintro r w4 ⟨rfl, b⟩
        have J4 := Lib.hid (J3.out.below b)
        have T4 := Lib.hid (T3.out.below b)
        have E4 := Lib.hid (E3.out.below b)
        clear b
        go_wp2_with fail
        refine (KL.out _ T4.out E4.out).mono ?_
        rintro r w5 ⟨rfl, b⟩
        go_wp2
        go_ret
        exact ⟨rfl, (J4.out.below b).2.1⟩
      · have hzx := hm (by omega)
        have hzx2 : ¬ x < z := by omega
        clear hm
        go_enter Tryd.func5, Tryd.ntmps5
        obtain ⟨y0, y1, _, _⟩ := J0.out.head.two
        obtain ⟨v0, v1, _, _⟩ := J0.out.tail.head.two
        go_wp2_with fail
        refine (K1.out _).mono ?_
        rintro r w1 ⟨rfl, b⟩
        have J1 := Lib.hid (J0.out.below b)
        have T1 := Lib.hid (T0.out.below b)
        have E1 := Lib.hid (E0.out.below b)
        clear b
        try clear y0 y1 v0 v1
        obtain ⟨y0, y1, _, _⟩ := J1.out.head.two
        obtain ⟨v0, v1, _, _⟩ := J1.out.tail.head.two
        simp only [alloc_size'] at y0 y1
        go_wp2_with fail
        refine (K2.out _).mono ?_
        rintro r w2 ⟨rfl, b⟩
        have J2 := Lib.hid (J1.out.below b)
        have T2 := Lib.hid (T1.out.below b)
        have E2 := Lib.hid (E1.out.below b)
        clear b
        try clear y0 y1 v0 v1
        obtain ⟨y0, y1, _, _⟩ := J2.out.head.two
        obtain ⟨v0, v1, _, _⟩ := J2.out.tail.head.two
        simp only [alloc_size'] at y0 y1
        go_wp2_with fail
        refine (K3.out _).mono ?_
        rintro r w3 ⟨rfl, b⟩
        have J3 := Lib.hid (J2.out.below b)
        have T3 := Lib.hid (T2.out.below b)
        have E3 := Lib.hid (E2.out.below b)
        clear b
        try clear y0 y1 v0 v1
        obtain ⟨y0, y1, _, _⟩ := J3.out.head.two
        obtain ⟨v0, v1, _, _⟩ := J3.out.tail.head.two
        simp only [alloc_size'] at y0 y1
        go_wp2_with fail
        refine (KO.out _).mono ?_
        rintro r w4 ⟨rfl, b⟩
        have J4 := Lib.hid (J3.out.below b)
        have T4 := Lib.hid (T3.out.below b)
        have E4 := Lib.hid (E3.out.below b)
        clear b
        go_wp2_with fail
        refine (KL.out _ T4.out E4.out).mono ?_
        rintro r w5 ⟨rfl, b⟩
        go_wp2
        go_ret
        exact ⟨rfl, (J4.out.below b).2.1⟩

set_option maxRecDepth 100000 in
theorem lifted (os : Os) (started : os.Started) (H : Type) (enc : TypeId × Value → H) :
    ReturnsInHanded {} Tryd.checked os 5 .any (fun w args => (Rows.scoreLevelsSpec.pre enc Tryd.prog Tryd.f5 [] false w args ∧ laidMetH Tryd.prog lst13 w) ∧ sizedMet enc Tryd.prog Tryd.f5 (OpenSpec.ofChange Rows.scoreLevelsSpec) false w args) (Rows.scoreLevelsSpec.post enc Tryd.prog Tryd.f5 false true false false) := by
  refine returnsInHanded_of_change_and (C := Tryd.checked) (X := fun w _ => laidMetH Tryd.prog lst13 w) (fun _ _ _ hh h => h.of_heap hh) own started (by kernel_rfl) Tryd.func5
    (ChangeSpec.witness_shaped (enc := enc) (C := Tryd.checked) (os := os) (X := fun w _ => laidMetH Tryd.prog lst13 w) false (World.doorLaid Tryd.prog 400 os) #[.agg #[.int .i64 0, .int .i64 0], .agg #[.int .i64 0, .int .i64 0], .int .i64 0] 8 rfl (World.shaped_of_RefB (by kernel_rfl) (by kernel_rfl)) (by kernel_rfl) (by kernel_rfl) (by kernel_rfl) (door_met13 os _)) ?_
  intro W base args ds gs before hval0 hW _ _ hL _
  have hT := tab_of13 hL
  have hval : ∀ (j : Nat) t v, Tryd.f5.params[j]? = some t → args[j]? = some v → Value.okWide Tryd.prog W .any base t v := hval0
  have hW' := hW
  obtain ⟨p, q, hA0, hV, rfl, hfz, hnd⟩ := hW
  obtain ⟨rfl, rfl⟩ := trodVars_none hV
  have hA : DataW.TrodAll enc Tryd.prog W 0 (fun _ => true) true Tryd.f5.params.toList args.toList ds p := hA0
  rw [Tryd.params5] at hA hval
  obtain ⟨v0, vs0, d0, ds0, p0, q0, hargs, rfl, rfl, h0, r0⟩ := trodAll_cons hA
  obtain ⟨v1, vs1, d1, ds1, p1, q1, rfl, rfl, rfl, h1, r1⟩ := trodAll_cons r0
  obtain ⟨v2, vs2, d2, ds2, p2, q2, rfl, rfl, rfl, h2, r2⟩ := trodAll_cons r1
  obtain ⟨rfl, rfl, rfl⟩ := trodAll_nil r2
  obtain rfl : args = #[v0, v1, v2] := by cases args; simp_all
  obtain ⟨a0, b0, rfl, w0, z0⟩ := open_two Tryd.underlying23 Tryd.underlying3 Tryd.underlying3 (by kernel_rfl) (by kernel_rfl) (hval 0 23 v0 rfl rfl) h0
  obtain ⟨a1, b1, rfl, w1, z1⟩ := open_two Tryd.underlying23 Tryd.underlying3 Tryd.underlying3 (by kernel_rfl) (by kernel_rfl) (hval 1 23 v1 rfl rfl) h1
  obtain ⟨a2, rfl, _, _, w2⟩ := open_int Tryd.underlying3 (hval 2 3 v2 rfl rfl) h2
  refine (walk a0 b0 (i64_of_wf w0) (i64_of_wf z0) a1 b1 (i64_of_wf w1) (i64_of_wf z1) a2 (i64_of_wf w2) W hT).mono fun e W' ⟨he, hg⟩ => ?_
  subst he
  exact ⟨_, rfl, law_post laid (by rw [Tryd.params5]; exact (by decide +kernel)) rfl (by kernel_rfl) Tryd.underlying4 rfl hW' hg⟩

theorem over : Rows.scoreLevelsRow.holds Tryd.pinned (OpenSpec.ofChange Rows.scoreLevelsSpec) :=
  OpenClaim.holds_of_wide 5 Tryd.f5 rfl rfl rfl rfl rfl rfl rfl ⟨rfl, rfl, rfl, rfl, rfl⟩ rfl rfl rfl rfl rfl (by kernel_rfl) Tryd.func5 (by kernel_rfl)
    (of_decide_eq_true (by kernel_rfl)) (by unfold Func.isWrapper; first | (rw [if_pos (by decide +kernel)]; kernel_rfl) | (rw [if_neg (by decide +kernel)]; exact ⟨rfl, rfl⟩))
    (fun os started H enc _ => lifted os started H enc)
theorem proved : Rows.ScoreLevelsCardSaid :=
  Claim7.holds_tied_plain_at .later [] [.data, .data, .data, .sentinel, .sentinel] true Rows.scoreLevelsCard.stood.harness true
    over (fun _ h => by cases h) (by kernel_rfl) (fun _ h => by cases h) scoreLevels_row_tie rfl ⟨rfl, rfl⟩ (by kernel_rfl) rfl
    (fun f fn hf hfn => by
      obtain rfl : f = 5 := Option.some.inj ((show Tryd.prog.funcNamed Rows.scoreLevelsRow.func = some 5 by kernel_rfl).symm.trans hf) |>.symm
      obtain rfl : fn = Tryd.f5 := (Option.some.inj (Tryd.func5.symm.trans hfn)).symm
      exact ⟨by kernel_rfl, fun j t ht => by
        rw [Tryd.params5] at ht
        have hm : t ∈ [23, 23, 3] := by simpa using Array.mem_of_getElem? ht
        have hall : ([23, 23, 3].all fun u => !Tryd.prog.wantsStandIn u) = true := by kernel_rfl
        exact (show Tryd.prog.wantsStandIn t = false by simpa using List.all_eq_true.1 hall t hm)⟩)
    (by kernel_rfl)
end Go.Proofs.YtiepfkhbebdkeaaDoor.scoreLevels
