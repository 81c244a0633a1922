/- Statement RatioMakes: whatever the input is, the Go function returns true and each argument reads as it did. No condition. -/
import Derived.Test.YtbnpbflndnjmcaaDoorRows
import Derived.Test.YtbnpbflndnjmcaaDoorRatL
import Derived.Test.YtbnpbflndnjmcaaDoorRatF
import Derived.Test.YtbnpbflndnjmcaaDoorRatM
import Derived.Test.YtbnpbflndnjmcaaDoorRatG
import Derived.Test.YtbnpbflndnjmcaaDoorRatK
import Derived.Test.YtbnpbflndnjmcaaDoorBase
import Derived.Test.YtbnpbflndnjmcaaDoorTie
import Derived.Test.YtbnpbflndnjmcaaDoorCards
import Derived.SevenTiedAt
import Derived.ProofKit
import Derived.OpenShut
namespace Go.Proofs.YtbnpbflndnjmcaaDoor.ratioMakes
open Go.ChangeShapes Go.WideShapes Go.ChangeAt Go.RowKit
set_option linter.unusedVariables false

theorem own : ownKnob Tryd.prog.godebug = none := by kernel_rfl
theorem laid : laidOutB Tryd.prog = true := by kernel_rfl

set_option maxHeartbeats 4000000 in
theorem way (p q a b x y e1 : Int) (br : Bool) (k g : Int) (w : World) (hT : Tab w)
    (A1 : ∀ W, Calls Tryd.prog 9 #[.int .i64 p, .int .i64 q] W fun e w' => e = .returned (.tuple #[.agg #[.int .i64 x, .int .i64 y], .int .i64 e1]) ∧ Below W.heap.size W w')
    (B1 : ∀ W, Calls Tryd.prog 10 #[.int .i64 p, .int .i64 q] W fun e w' => e = .returned (.tuple #[.agg #[.int .i64 x, .int .i64 y], .int .i64 e1]) ∧ Below W.heap.size W w')
    (A2 : ∀ W, Calls Tryd.prog 12 #[.agg #[.int .i64 a, .int .i64 b]] W fun e w' => e = .returned (.bool br) ∧ Below W.heap.size W w')
    (B2 : ∀ W, Calls Tryd.prog 13 #[.agg #[.int .i64 a, .int .i64 b]] W fun e w' => e = .returned (.bool br) ∧ Below W.heap.size W w')
    (hw : ((e1 != 0) = true ∧ (((e1 == 11) = true ∧ (q == 0) = true) ∨ ((e1 == 11) = false ∧ (q == 0) = false))) ∨
      ((e1 != 0) = false ∧ (∀ W, Calls Tryd.prog 14 #[.int .i64 x, .int .i64 y, .int .i64 p, .int .i64 q] W fun e w' => e = .returned (.tuple #[.int .i64 k, .int .i64 g]) ∧ Below W.heap.size W w') ∧
        (∀ W, Calls Tryd.prog 12 #[.agg #[.int .i64 x, .int .i64 y]] W fun e w' => e = .returned (.bool true) ∧ Below W.heap.size W w') ∧
        (q < 1 ∨ (¬ q < 1 ∧ (g == 0) = true ∧ (k == 0) = true)))) :
    Calls Tryd.prog 3 #[.int .i64 p, .int .i64 q, .agg #[.int .i64 a, .int .i64 b]] w fun e w' => e = .returned (.bool true) ∧ Below w.heap.size w w' := by
  have A1 := Lib.hid A1
  have B1 := Lib.hid B1
  have A2 := Lib.hid A2
  have B2 := Lib.hid B2
  have z1 : (x != x) = false := by simp
  have z2 : (y != y) = false := by simp
  have z3 : (e1 != e1) = false := by simp
  have z4 : (br != br) = false := by simp
  have J0 := Lib.hid ((Keeps.start w).alloc #[.int .i64 a, .int .i64 b] 23)
  have T0 := Lib.hid (hT.alloc (.cells #[.int .i64 a, .int .i64 b] 23))
  clear hT
  rcases hw with ⟨he, hh⟩ | ⟨he, O, I, hh⟩
  · rcases hh with ⟨h1, h2⟩ | ⟨h1, h2⟩
    all_goals
      go_enter Tryd.func3, Tryd.ntmps3
      go_wp2_with fail
      refine (A1.out _).mono ?_
      rintro e w1 ⟨rfl, bb⟩
      have J := Lib.hid ((J0.out.below bb).alloc #[.int .i64 x, .int .i64 y] 23)
      have T := Lib.hid ((T0.out.below bb).alloc (.cells #[.int .i64 x, .int .i64 y] 23))
      clear bb
      go_wp2_with fail
      refine (B1.out _).mono ?_
      rintro e w2 ⟨rfl, bb⟩
      have J := Lib.hid ((J.out.below bb).alloc #[.int .i64 x, .int .i64 y] 23)
      have T := Lib.hid ((T.out.below bb).alloc (.cells #[.int .i64 x, .int .i64 y] 23))
      clear bb
      go_wp2
      have T := Lib.hid T.out.drew
      have J := Lib.hid J.out.drew
      obtain ⟨x0, x1, _, _⟩ := J.out.tail.tail.head.two
      obtain ⟨g0, g1, _, _⟩ := J.out.tail.head.two
      obtain ⟨k0, k1, _, _⟩ := J.out.head.two
      go_region_held3 (fun wr => (wr.cell? ⟨w.heap.size, 0, none⟩ = some (.int .i64 a) ∧ wr.cell? ⟨w.heap.size, 1, none⟩ = some (.int .i64 b)) ∧ (wr.cell? ⟨w1.heap.size, 0, none⟩ = some (.int .i64 x) ∧ wr.cell? ⟨w1.heap.size, 1, none⟩ = some (.int .i64 y)) ∧ (wr.cell? ⟨w2.heap.size, 0, none⟩ = some (.int .i64 x) ∧ wr.cell? ⟨w2.heap.size, 1, none⟩ = some (.int .i64 y))) (go_keep)
        (first
          | (go_at_call 11; (refine (lives3 _ T.out).mono ?_; rintro e w3 ⟨rfl, bb⟩; have J := Lib.hid (J.out.below bb); obtain ⟨x0, x1, _, _⟩ := J.out.tail.tail.head.two; obtain ⟨g0, g1, _, _⟩ := J.out.tail.head.two; obtain ⟨k0, k1, _, _⟩ := J.out.head.two; clear bb))
          | (go_at_call 12; ((with_reducible refine (A2.out _).mono ?_); rintro e w4 ⟨rfl, bb⟩; have J := Lib.hid (J.out.below bb); obtain ⟨x0, x1, _, _⟩ := J.out.tail.tail.head.two; obtain ⟨g0, g1, _, _⟩ := J.out.tail.head.two; obtain ⟨k0, k1, _, _⟩ := J.out.head.two; clear bb))
          | (go_at_call 13; ((with_reducible refine (B2.out _).mono ?_); rintro e w5 ⟨rfl, bb⟩; have J := Lib.hid (J.out.below bb); obtain ⟨x0, x1, _, _⟩ := J.out.tail.tail.head.two; obtain ⟨g0, g1, _, _⟩ := J.out.tail.head.two; obtain ⟨k0, k1, _, _⟩ := J.out.head.two; clear bb)))
      all_goals
        go_wp2
        go_ret
        exact ⟨rfl, J.out.2.1⟩
  · have O := Lib.hid O
    have I := Lib.hid I
    rcases hh with h1 | ⟨h1, h2, h3⟩
    all_goals
      go_enter Tryd.func3, Tryd.ntmps3
      go_wp2_with fail
      refine (A1.out _).mono ?_
      rintro e w1 ⟨rfl, bb⟩
      have J := Lib.hid ((J0.out.below bb).alloc #[.int .i64 x, .int .i64 y] 23)
      have T := Lib.hid ((T0.out.below bb).alloc (.cells #[.int .i64 x, .int .i64 y] 23))
      clear bb
      go_wp2_with fail
      refine (B1.out _).mono ?_
      rintro e w2 ⟨rfl, bb⟩
      have J := Lib.hid ((J.out.below bb).alloc #[.int .i64 x, .int .i64 y] 23)
      have T := Lib.hid ((T.out.below bb).alloc (.cells #[.int .i64 x, .int .i64 y] 23))
      clear bb
      go_wp2
      have T := Lib.hid T.out.drew
      have J := Lib.hid J.out.drew
      obtain ⟨x0, x1, _, _⟩ := J.out.tail.tail.head.two
      obtain ⟨g0, g1, _, _⟩ := J.out.tail.head.two
      obtain ⟨k0, k1, _, _⟩ := J.out.head.two
      go_region_held3 (fun wr => (wr.cell? ⟨w.heap.size, 0, none⟩ = some (.int .i64 a) ∧ wr.cell? ⟨w.heap.size, 1, none⟩ = some (.int .i64 b)) ∧ (wr.cell? ⟨w1.heap.size, 0, none⟩ = some (.int .i64 x) ∧ wr.cell? ⟨w1.heap.size, 1, none⟩ = some (.int .i64 y)) ∧ (wr.cell? ⟨w2.heap.size, 0, none⟩ = some (.int .i64 x) ∧ wr.cell? ⟨w2.heap.size, 1, none⟩ = some (.int .i64 y))) (go_keep)
        (first
          | (go_at_call 11; (refine (lives3 _ T.out).mono ?_; rintro e w3 ⟨rfl, bb⟩; have J := Lib.hid (J.out.below bb); obtain ⟨x0, x1, _, _⟩ := J.out.tail.tail.head.two; obtain ⟨g0, g1, _, _⟩ := J.out.tail.head.two; obtain ⟨k0, k1, _, _⟩ := J.out.head.two; clear bb))
          | (go_at_call 12; ((with_reducible refine (A2.out _).mono ?_); rintro e w4 ⟨rfl, bb⟩; have J := Lib.hid (J.out.below bb); obtain ⟨x0, x1, _, _⟩ := J.out.tail.tail.head.two; obtain ⟨g0, g1, _, _⟩ := J.out.tail.head.two; obtain ⟨k0, k1, _, _⟩ := J.out.head.two; clear bb))
          | (go_at_call 13; ((with_reducible refine (B2.out _).mono ?_); rintro e w5 ⟨rfl, bb⟩; have J := Lib.hid (J.out.below bb); obtain ⟨x0, x1, _, _⟩ := J.out.tail.tail.head.two; obtain ⟨g0, g1, _, _⟩ := J.out.tail.head.two; obtain ⟨k0, k1, _, _⟩ := J.out.head.two; clear bb)))
      all_goals
        go_wp2_with fail
        refine (O.out _).mono ?_
        rintro e w6 ⟨rfl, bb⟩
        have J := Lib.hid (J.out.below bb)
        obtain ⟨g0, g1, _, _⟩ := J.out.tail.head.two
        clear bb
        go_wp2_with fail
        refine (I.out _).mono ?_
        rintro e w7 ⟨rfl, bb⟩
        go_wp2
        go_ret
        exact ⟨rfl, (J.out.below bb).2.1⟩

theorem walk (p : Int) (hp : I64 p) (q : Int) (hq : I64 q) (a b : Int) (ha : I64 a) (hb : I64 b) (w : World) (hT : Tab w) :
    Calls Tryd.prog 3 #[.int .i64 p, .int .i64 q, .agg #[.int .i64 a, .int .i64 b]] w fun e w' => e = .returned (.bool true) ∧ Below w.heap.size w w' := by
  by_cases he : ofE p q = 0
  · obtain ⟨h0, hv, hm⟩ := of_ok he
    have hi := valid_bd hv
    refine way p q a b (ofP p q) (ofQ p q) (ofE p q) (isB a b) (orN (ofP p q) (ofQ p q) p q) (orE (ofQ p q) q) w hT (fun W => rat_of p q hp hq W) (fun W => ref3_of p q hp hq W) (fun W => rat_is a b ha hb W) (fun W => ref3_is a b ha hb W) (.inr ⟨by rw [he]; rfl, fun W => ref3_order _ _ _ _ hi.1 hi.2 hp hq W, fun W => ?_, ?_⟩)
    · have h := rat_is _ _ hi.1 hi.2 W
      rw [isB_of hv] at h
      exact h
    · by_cases h1 : q < 1
      · exact .inl h1
      · refine .inr ⟨h1, ?_, ?_⟩
        · have := hv.1
          unfold orE
          rw [if_neg (by omega)]; rfl
        · have := hv.1
          unfold orN
          rw [if_neg (by omega), hm]
          unfold cmpI
          rw [if_neg (by omega), if_pos rfl]; rfl
  · refine way p q a b (ofP p q) (ofQ p q) (ofE p q) (isB a b) 0 0 w hT (fun W => rat_of p q hp hq W) (fun W => ref3_of p q hp hq W) (fun W => rat_is a b ha hb W) (fun W => ref3_is a b ha hb W) (.inl ⟨by simpa using he, ?_⟩)
    by_cases h0 : q = 0
    · subst h0
      exact .inl ⟨by unfold ofE; rw [if_pos rfl]; rfl, rfl⟩
    · refine .inr ⟨?_, by simpa using h0⟩
      unfold ofE at *
      rw [if_neg h0] at *
      split at he
      · omega
      · rename_i hf
        rw [if_neg hf]; rfl

set_option maxRecDepth 100000 in
theorem lifted (os : Os) (started : os.Started) (H : Type) (enc : TypeId × Value → H) :
    ReturnsInHanded {} Tryd.checked os 3 .any (fun w args => (Rows.ratioMakesSpec.pre enc Tryd.prog Tryd.f3 [] false w args ∧ laidMetH Tryd.prog lst w) ∧ sizedMet enc Tryd.prog Tryd.f3 (OpenSpec.ofChange Rows.ratioMakesSpec) false w args) (Rows.ratioMakesSpec.post enc Tryd.prog Tryd.f3 false true false false) := by
  refine returnsInHanded_of_change_and (C := Tryd.checked) (X := fun w _ => laidMetH Tryd.prog lst w) (fun _ _ _ hh h => h.of_heap hh) own started (by kernel_rfl) Tryd.func3
    (ChangeSpec.witness_shaped (enc := enc) (C := Tryd.checked) (os := os) (X := fun w _ => laidMetH Tryd.prog lst w) false (World.doorLaid Tryd.prog 400 os) #[.int .i64 0, .int .i64 0, .agg #[.int .i64 0, .int .i64 0]] 8 rfl (World.shaped_of_RefB (by kernel_rfl) (by kernel_rfl)) (by kernel_rfl) (by kernel_rfl) (by kernel_rfl) (door_met os _)) ?_
  intro W base args ds gs before hval0 hW _ _ hL _
  have hT := tab_of hL
  have hval : ∀ (j : Nat) t v, Tryd.f3.params[j]? = some t → args[j]? = some v → Value.okWide Tryd.prog W .any base t v := hval0
  have hW' := hW
  obtain ⟨p, q, hA0, hV, rfl, hfz, hnd⟩ := hW
  obtain ⟨rfl, rfl⟩ := trodVars_none hV
  have hA : DataW.TrodAll enc Tryd.prog W 0 (fun _ => true) true Tryd.f3.params.toList args.toList ds p := hA0
  rw [Tryd.params3] at hA hval
  obtain ⟨v0, vs0, d0, ds0, p0, q0, hargs, rfl, rfl, h0, r0⟩ := trodAll_cons hA
  obtain ⟨v1, vs1, d1, ds1, p1, q1, rfl, rfl, rfl, h1, r1⟩ := trodAll_cons r0
  obtain ⟨v2, vs2, d2, ds2, p2, q2, rfl, rfl, rfl, h2, r2⟩ := trodAll_cons r1
  obtain ⟨rfl, rfl, rfl⟩ := trodAll_nil r2
  obtain rfl : args = #[v0, v1, v2] := by cases args; simp_all
  obtain ⟨a0, rfl, _, _, w0⟩ := open_int Tryd.underlying3 (hval 0 3 v0 rfl rfl) h0
  obtain ⟨a1, rfl, _, _, w1⟩ := open_int Tryd.underlying3 (hval 1 3 v1 rfl rfl) h1
  obtain ⟨a2, b2, rfl, w2, z2⟩ := open_two Tryd.underlying23 Tryd.underlying3 Tryd.underlying3 (by kernel_rfl) (by kernel_rfl) (hval 2 23 v2 rfl rfl) h2
  refine (walk a0 (i64_of_wf w0) a1 (i64_of_wf w1) a2 b2 (i64_of_wf w2) (i64_of_wf z2) W hT).mono fun e W' ⟨he, hg⟩ => ?_
  subst he
  exact ⟨_, rfl, law_post laid (by rw [Tryd.params3]; exact (by decide +kernel)) rfl (by kernel_rfl) Tryd.underlying4 rfl hW' hg⟩

theorem over : Rows.ratioMakesRow.holds Tryd.pinned (OpenSpec.ofChange Rows.ratioMakesSpec) :=
  OpenClaim.holds_of_wide 3 Tryd.f3 rfl rfl rfl rfl rfl rfl rfl ⟨rfl, rfl, rfl, rfl, rfl⟩ rfl rfl rfl rfl rfl (by kernel_rfl) Tryd.func3 (by kernel_rfl)
    (of_decide_eq_true (by kernel_rfl)) (by unfold Func.isWrapper; first | (rw [if_pos (by decide +kernel)]; kernel_rfl) | (rw [if_neg (by decide +kernel)]; exact ⟨rfl, rfl⟩))
    (fun os started H enc _ => lifted os started H enc)
theorem proved : Rows.RatioMakesCardSaid :=
  Claim7.holds_tied_plain_at .later [] [.data, .data, .data] true Rows.ratioMakesCard.stood.harness false
    over (fun _ h => by cases h) (by kernel_rfl) (fun _ h => by cases h) ratioMakes_row_tie rfl ⟨rfl, rfl⟩ (by kernel_rfl) rfl
    (fun f fn hf hfn => by
      obtain rfl : f = 3 := Option.some.inj ((show Tryd.prog.funcNamed Rows.ratioMakesRow.func = some 3 by kernel_rfl).symm.trans hf) |>.symm
      obtain rfl : fn = Tryd.f3 := (Option.some.inj (Tryd.func3.symm.trans hfn)).symm
      exact ⟨by kernel_rfl, fun j t ht => by
        rw [Tryd.params3] at ht
        have hm : t ∈ [3, 3, 23] := by simpa using Array.mem_of_getElem? ht
        have hall : ([3, 3, 23].all fun u => !Tryd.prog.wantsStandIn u) = true := by kernel_rfl
        exact (show Tryd.prog.wantsStandIn t = false by simpa using List.all_eq_true.1 hall t hm)⟩)
    (by kernel_rfl)
end Go.Proofs.YtbnpbflndnjmcaaDoor.ratioMakes
