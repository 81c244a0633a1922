/- Statement ScoreMakes: whatever the input is, the Go function returns true and each argument reads as it did. No condition. -/
import Derived.Test.YtiepfkhbebdkeaaDoorRows
import Derived.Test.YtiepfkhbebdkeaaDoorScoF
import Derived.Test.YtiepfkhbebdkeaaDoorBase
import Derived.Test.YtiepfkhbebdkeaaDoorTie
import Derived.Test.YtiepfkhbebdkeaaDoorCards
import Derived.SevenTiedAt
import Derived.ProofKit
import Derived.OpenShut
namespace Go.Proofs.YtiepfkhbebdkeaaDoor.scoreMakes
open Go.ChangeShapes Go.WideShapes Go.ChangeAt Go.RowKit
set_option linter.unusedVariables false
set_option linter.unusedSimpArgs false
set_option maxRecDepth 100000

theorem own : ownKnob Tryd.prog.godebug = none := by kernel_rfl
theorem laid : laidOutB Tryd.prog = true := by kernel_rfl

theorem prod_ok {s t : Int} (h : SumOk s t) : 0 ≤ scP s t * t ∧ scP s t * t ≤ 4398046511104 := by
  obtain ⟨h1, -⟩ := sc_ok h
  obtain ⟨-, -, g3, g4, -⟩ := h1
  obtain ⟨-, -, h3, h4⟩ := h
  have := Int.mul_le_mul g4 h4 (by omega) (by omega)
  exact ⟨Int.mul_nonneg g3 (by omega), by omega⟩
theorem sc_i64 (s t : Int) (h : SumOk s t) : I64 (scP s t) ∧ I64 (scQ s t) := by
  obtain ⟨g1, g2, g3, g4, -⟩ := (sc_ok h).1
  exact ⟨⟨by omega, by omega⟩, ⟨by omega, by omega⟩⟩
set_option maxHeartbeats 4000000 in
theorem walk (a : Int) (ha : I64 a) (t : Int) (ht : I64 t) (p q : Int) (hp : I64 p) (hq : I64 q) (w : World) (hT : Tab w ∧ Ers w) :
    Calls Tryd.prog 3 #[.int .i64 a, .int .i64 t, .agg #[.int .i64 p, .int .i64 q]] w fun e w' => e = .returned (.bool true) ∧ Below w.heap.size w w' := by
  have J := Lib.hid ((Keeps.start w).alloc #[.int .i64 p, .int .i64 q] 23)
  have T := Lib.hid (hT.1.alloc (.cells #[.int .i64 p, .int .i64 q] 23))
  have E := Lib.hid (hT.2.alloc (.cells #[.int .i64 p, .int .i64 q] 23))
  have KL := Lib.hid (fun W hT hE => lives13 W hT hE)
  have K1 := Lib.hid (fun W => sco_of a t ha ht W)
  have K2 := Lib.hid (fun W => ref13_of a t ha ht W)
  have KS := Lib.hid (fun W => sco_is p q hp hq W)
  have KR := Lib.hid (fun W => ref13_is p q W)
  have KM := Lib.hid (fun W => sco_mean p q hp hq W)
  clear hT
  by_cases h1 : SumOk a t
  · obtain ⟨g1, g2⟩ := sc_ok h1
    obtain ⟨m1, m2⟩ := prod_ok h1
    obtain ⟨iP, iQ⟩ := sc_i64 a t h1
    have KA := Lib.hid (fun W => sco_is (scP a t) (scQ a t) iP iQ W)
    rw [scoB_of g1] at KA
    unfold scV at K1 K2
    have hE : scE a t = 0 := by unfold scE; rw [if_pos h1]
    rw [hE] at K1 K2
    clear g1 h1 hE iP iQ
    generalize scP a t = P at *
    generalize scQ a t = Q at *
    obtain ⟨M, hM⟩ : ∃ M, M = P * t := ⟨_, rfl⟩
    have hm1 : wrap64 (P * t) = M := by rw [← hM] at m1 m2 ⊢; unfold wrap64; omega
    have hm2 : wrap64 (a * Q) = M := by rw [← g2, ← hM]; rw [← hM] at m1 m2; unfold wrap64; omega
    have hm3 : IntKind.i64.wrap (P * t) = M := by rw [← hM] at m1 m2 ⊢; simp only [i64w]; omega
    have hm4 : IntKind.i64.wrap (a * Q) = M := by rw [← g2, ← hM]; rw [← hM] at m1 m2; simp only [i64w]; omega
    clear m1 m2 g2 hM
    by_cases h2 : ScoOk p q
    · rw [scoB_of h2] at KS KR
      rw [← mnV_ok h2] at KM
      obtain ⟨u1, u2, u3, u4, -⟩ := h2
      have hz : (q == 0) = false := by simp; omega
      have hz2 : ¬ q = 0 := by omega
      have gm : ¬ (p = -9223372036854775808 ∧ q = -1) := by omega
      clear ha ht hp hq
      go_enter Tryd.func3, Tryd.ntmps3
      go_wp2_with fail
      refine (K1.out _).mono ?_
      rintro r w1 ⟨rfl, b⟩
      have J := Lib.hid ((J.out.below b).alloc #[.int .i64 P, .int .i64 Q] 23)
      have T := Lib.hid ((T.out.below b).alloc (.cells #[.int .i64 P, .int .i64 Q] 23))
      have E := Lib.hid ((E.out.below b).alloc (.cells #[.int .i64 P, .int .i64 Q] 23))
      clear b
      go_wp2_with fail
      refine (K2.out _).mono ?_
      rintro r w2 ⟨rfl, b⟩
      have J := Lib.hid ((J.out.below b).alloc #[.int .i64 P, .int .i64 Q] 23)
      have T := Lib.hid ((T.out.below b).alloc (.cells #[.int .i64 P, .int .i64 Q] 23))
      have E := Lib.hid ((E.out.below b).alloc (.cells #[.int .i64 P, .int .i64 Q] 23))
      clear b
      have J := Lib.hid J.out.drew
      have T := Lib.hid T.out.drew
      have E := Lib.hid E.out.drew
      obtain ⟨b0, b1, _, _⟩ := J.out.head.two
      obtain ⟨a0, a1, _, _⟩ := J.out.tail.head.two
      obtain ⟨s0, s1, _, _⟩ := J.out.tail.tail.head.two
      go_wp2
      go_region_held3 (fun wr => wr.cell? ⟨w.heap.size, 0, none⟩ = some (.int .i64 p) ∧ wr.cell? ⟨w.heap.size, 1, none⟩ = some (.int .i64 q) ∧ wr.cell? ⟨w1.heap.size, 0, none⟩ = some (.int .i64 P) ∧ wr.cell? ⟨w1.heap.size, 1, none⟩ = some (.int .i64 Q) ∧ wr.cell? ⟨w2.heap.size, 0, none⟩ = some (.int .i64 P) ∧ wr.cell? ⟨w2.heap.size, 1, none⟩ = some (.int .i64 Q)) (go_keep) (first | (go_at_call 10; ((with_reducible refine (KL.out _ T.out E.out).mono ?_); rintro e w3 ⟨rfl, b⟩; have J := Lib.hid (J.out.below b); have T := Lib.hid (T.out.below b); have E := Lib.hid (E.out.below b); clear b; obtain ⟨b0, b1, _, _⟩ := J.out.head.two; obtain ⟨a0, a1, _, _⟩ := J.out.tail.head.two; obtain ⟨s0, s1, _, _⟩ := J.out.tail.tail.head.two)) | (go_at_call 11; ((with_reducible refine (KS.out _).mono ?_); rintro e w3 ⟨rfl, b⟩; have J := Lib.hid (J.out.below b); have T := Lib.hid (T.out.below b); have E := Lib.hid (E.out.below b); clear b; obtain ⟨b0, b1, _, _⟩ := J.out.head.two; obtain ⟨a0, a1, _, _⟩ := J.out.tail.head.two; obtain ⟨s0, s1, _, _⟩ := J.out.tail.tail.head.two)) | (go_at_call 12; ((with_reducible refine (KR.out _).mono ?_); rintro e w3 ⟨rfl, b⟩; have J := Lib.hid (J.out.below b); have T := Lib.hid (T.out.below b); have E := Lib.hid (E.out.below b); clear b; obtain ⟨b0, b1, _, _⟩ := J.out.head.two; obtain ⟨a0, a1, _, _⟩ := J.out.tail.head.two; obtain ⟨s0, s1, _, _⟩ := J.out.tail.tail.head.two)) | (go_at_call 11; ((with_reducible refine (KA.out _).mono ?_); rintro e w3 ⟨rfl, b⟩; have J := Lib.hid (J.out.below b); have T := Lib.hid (T.out.below b); have E := Lib.hid (E.out.below b); clear b; obtain ⟨b0, b1, _, _⟩ := J.out.head.two; obtain ⟨a0, a1, _, _⟩ := J.out.tail.head.two; obtain ⟨s0, s1, _, _⟩ := J.out.tail.tail.head.two)))
      all_goals
        clear a0 a1 b0 b1
        go_wp2_with fail
        refine (KM.out _).mono ?_
        rintro r w6 ⟨rfl, b⟩
        have J := Lib.hid (J.out.below b)
        clear b s0 s1
        obtain ⟨s0, s1, _, _⟩ := J.out.tail.tail.head.two
        go_wp2_with fail
        refine (KR.out _).mono ?_
        rintro r w7 ⟨rfl, b⟩
        have J := Lib.hid (J.out.below b)
        clear b s0 s1
        obtain ⟨s0, s1, _, _⟩ := J.out.tail.tail.head.two
        go_wp2
        go_ret
        exact ⟨rfl, J.out.2.1⟩
    · rw [scoB_no h2] at KS KR
      rw [← mnV_no h2] at KM
      clear h2 ha ht hp hq
      go_enter Tryd.func3, Tryd.ntmps3
      go_wp2_with fail
      refine (K1.out _).mono ?_
      rintro r w1 ⟨rfl, b⟩
      have J := Lib.hid ((J.out.below b).alloc #[.int .i64 P, .int .i64 Q] 23)
      have T := Lib.hid ((T.out.below b).alloc (.cells #[.int .i64 P, .int .i64 Q] 23))
      have E := Lib.hid ((E.out.below b).alloc (.cells #[.int .i64 P, .int .i64 Q] 23))
      clear b
      go_wp2_with fail
      refine (K2.out _).mono ?_
      rintro r w2 ⟨rfl, b⟩
      have J := Lib.hid ((J.out.below b).alloc #[.int .i64 P, .int .i64 Q] 23)
      have T := Lib.hid ((T.out.below b).alloc (.cells #[.int .i64 P, .int .i64 Q] 23))
      have E := Lib.hid ((E.out.below b).alloc (.cells #[.int .i64 P, .int .i64 Q] 23))
      clear b
      have J := Lib.hid J.out.drew
      have T := Lib.hid T.out.drew
      have E := Lib.hid E.out.drew
      obtain ⟨b0, b1, _, _⟩ := J.out.head.two
      obtain ⟨a0, a1, _, _⟩ := J.out.tail.head.two
      obtain ⟨s0, s1, _, _⟩ := J.out.tail.tail.head.two
      go_wp2
      go_region_held3 (fun wr => wr.cell? ⟨w.heap.size, 0, none⟩ = some (.int .i64 p) ∧ wr.cell? ⟨w.heap.size, 1, none⟩ = some (.int .i64 q) ∧ wr.cell? ⟨w1.heap.size, 0, none⟩ = some (.int .i64 P) ∧ wr.cell? ⟨w1.heap.size, 1, none⟩ = some (.int .i64 Q) ∧ wr.cell? ⟨w2.heap.size, 0, none⟩ = some (.int .i64 P) ∧ wr.cell? ⟨w2.heap.size, 1, none⟩ = some (.int .i64 Q)) (go_keep) (first | (go_at_call 10; ((with_reducible refine (KL.out _ T.out E.out).mono ?_); rintro e w3 ⟨rfl, b⟩; have J := Lib.hid (J.out.below b); have T := Lib.hid (T.out.below b); have E := Lib.hid (E.out.below b); clear b; obtain ⟨b0, b1, _, _⟩ := J.out.head.two; obtain ⟨a0, a1, _, _⟩ := J.out.tail.head.two; obtain ⟨s0, s1, _, _⟩ := J.out.tail.tail.head.two)) | (go_at_call 11; ((with_reducible refine (KS.out _).mono ?_); rintro e w3 ⟨rfl, b⟩; have J := Lib.hid (J.out.below b); have T := Lib.hid (T.out.below b); have E := Lib.hid (E.out.below b); clear b; obtain ⟨b0, b1, _, _⟩ := J.out.head.two; obtain ⟨a0, a1, _, _⟩ := J.out.tail.head.two; obtain ⟨s0, s1, _, _⟩ := J.out.tail.tail.head.two)) | (go_at_call 12; ((with_reducible refine (KR.out _).mono ?_); rintro e w3 ⟨rfl, b⟩; have J := Lib.hid (J.out.below b); have T := Lib.hid (T.out.below b); have E := Lib.hid (E.out.below b); clear b; obtain ⟨b0, b1, _, _⟩ := J.out.head.two; obtain ⟨a0, a1, _, _⟩ := J.out.tail.head.two; obtain ⟨s0, s1, _, _⟩ := J.out.tail.tail.head.two)) | (go_at_call 11; ((with_reducible refine (KA.out _).mono ?_); rintro e w3 ⟨rfl, b⟩; have J := Lib.hid (J.out.below b); have T := Lib.hid (T.out.below b); have E := Lib.hid (E.out.below b); clear b; obtain ⟨b0, b1, _, _⟩ := J.out.head.two; obtain ⟨a0, a1, _, _⟩ := J.out.tail.head.two; obtain ⟨s0, s1, _, _⟩ := J.out.tail.tail.head.two)))
      all_goals
        clear a0 a1 b0 b1
        go_wp2_with fail
        refine (KM.out _).mono ?_
        rintro r w6 ⟨rfl, b⟩
        have J := Lib.hid (J.out.below b)
        clear b s0 s1
        obtain ⟨s0, s1, _, _⟩ := J.out.tail.tail.head.two
        go_wp2_with fail
        refine (KR.out _).mono ?_
        rintro r w7 ⟨rfl, b⟩
        have J := Lib.hid (J.out.below b)
        clear b s0 s1
        obtain ⟨s0, s1, _, _⟩ := J.out.tail.tail.head.two
        go_wp2
        go_ret
        exact ⟨rfl, J.out.2.1⟩
  · rw [← scV_out h1] at K1 K2
    obtain ⟨P, hP⟩ : ∃ P : Int, P = 0 := ⟨_, rfl⟩
    obtain ⟨Q, hQ⟩ : ∃ Q : Int, Q = 0 := ⟨_, rfl⟩
    obtain ⟨e1, he1⟩ : ∃ e1 : Int, e1 = 1 := ⟨_, rfl⟩
    have he2 : (e1 == 0) = false := by rw [he1]; rfl
    have he3 : ¬ e1 = 0 := by omega
    have K1 : Hid (∀ W, Calls Tryd.prog 8 #[.int .i64 a, .int .i64 t] W fun e w' => e = .returned (.tuple #[.agg #[.int .i64 P, .int .i64 Q], .int .i64 e1]) ∧ Below W.heap.size W w') := by rw [hP, hQ, he1]; exact K1
    have K2 : Hid (∀ W, Calls Tryd.prog 9 #[.int .i64 a, .int .i64 t] W fun e w' => e = .returned (.tuple #[.agg #[.int .i64 P, .int .i64 Q], .int .i64 e1]) ∧ Below W.heap.size W w') := by rw [hP, hQ, he1]; exact K2
    clear h1 hP hQ he1
    by_cases h2 : ScoOk p q
    · rw [scoB_of h2] at KS KR
      rw [← mnV_ok h2] at KM
      obtain ⟨u1, u2, u3, u4, -⟩ := h2
      have hz : (q == 0) = false := by simp; omega
      have hz2 : ¬ q = 0 := by omega
      have gm : ¬ (p = -9223372036854775808 ∧ q = -1) := by omega
      clear ha ht hp hq
      go_enter Tryd.func3, Tryd.ntmps3
      go_wp2_with fail
      refine (K1.out _).mono ?_
      rintro r w1 ⟨rfl, b⟩
      have J := Lib.hid ((J.out.below b).alloc #[.int .i64 P, .int .i64 Q] 23)
      have T := Lib.hid ((T.out.below b).alloc (.cells #[.int .i64 P, .int .i64 Q] 23))
      have E := Lib.hid ((E.out.below b).alloc (.cells #[.int .i64 P, .int .i64 Q] 23))
      clear b
      go_wp2_with fail
      refine (K2.out _).mono ?_
      rintro r w2 ⟨rfl, b⟩
      have J := Lib.hid ((J.out.below b).alloc #[.int .i64 P, .int .i64 Q] 23)
      have T := Lib.hid ((T.out.below b).alloc (.cells #[.int .i64 P, .int .i64 Q] 23))
      have E := Lib.hid ((E.out.below b).alloc (.cells #[.int .i64 P, .int .i64 Q] 23))
      clear b
      have J := Lib.hid J.out.drew
      have T := Lib.hid T.out.drew
      have E := Lib.hid E.out.drew
      obtain ⟨b0, b1, _, _⟩ := J.out.head.two
      obtain ⟨a0, a1, _, _⟩ := J.out.tail.head.two
      obtain ⟨s0, s1, _, _⟩ := J.out.tail.tail.head.two
      go_wp2
      refine wp_region_held_drew (S := (fun wr : World => wr.cell? ⟨w.heap.size, 0, none⟩ = some (.int .i64 p) ∧ wr.cell? ⟨w.heap.size, 1, none⟩ = some (.int .i64 q) ∧ wr.cell? ⟨w1.heap.size, 0, none⟩ = some (.int .i64 P) ∧ wr.cell? ⟨w1.heap.size, 1, none⟩ = some (.int .i64 Q) ∧ wr.cell? ⟨w2.heap.size, 0, none⟩ = some (.int .i64 P) ∧ wr.cell? ⟨w2.heap.size, 1, none⟩ = some (.int .i64 Q))) (by kernel_rfl) (by exact ⟨s0, s1, a0, a1, b0, b1⟩) (fun hHeld => ?_)
      refine wpAnyH_ready (rs := [0]) (by kernel_rfl) (by simp) ?_
      refine AllReadyH.cons (o := ?o1) ?ho1 (fun K hK => ?_) AllReadyH.nil
      case ho1 => (simp only [List.getElem?_toArray, List.getElem?_cons_zero, List.getElem?_cons_succ]; rfl)
      go_simp
      go_at_call 10
      with_reducible refine (KL.out _ T.out E.out).mono ?_
      rintro e w3 ⟨rfl, b⟩
      have J := Lib.hid (J.out.below b)
      have T := Lib.hid (T.out.below b)
      have E := Lib.hid (E.out.below b)
      clear b s0 s1 a0 a1 b0 b1
      obtain ⟨b0, b1, _, _⟩ := J.out.head.two
      obtain ⟨a0, a1, _, _⟩ := J.out.tail.head.two
      obtain ⟨s0, s1, _, _⟩ := J.out.tail.tail.head.two
      try go_wp2_with fail
      refine hK.out _ _ (by exact ⟨s0, s1, a0, a1, b0, b1⟩) (fun hHeld => ?_)
      clear hK
      try simp only [Act.put, List.setIfInBounds_toArray, List.set_cons_zero, List.set_cons_succ]
      refine wpAnyH_take (i := 1) (oi := ?oi2) (v := ?v2) ?hi2 (by kernel_rfl) (by kernel_rfl) (by kernel_rfl) ?hQ2 (Or.inl ⟨?hw2, ?hy2⟩) (by assumption) ?_
      case hi2 => (simp only [List.getElem?_toArray, List.getElem?_cons_zero, List.getElem?_cons_succ]; rfl)
      case hQ2 => exact fun _ _ _ h => h
      case hw2 => rfl
      case hy2 => (intro wq hSw; (try dsimp only at hSw); go_simp; try with_reducible rfl)
      try simp only [Act.put, List.setIfInBounds_toArray, List.set_cons_zero, List.set_cons_succ]
      refine wpAnyH_take (i := 2) (oi := ?oi3) (v := ?v3) ?hi3 (by kernel_rfl) (by kernel_rfl) (by kernel_rfl) ?hQ3 (Or.inl ⟨?hw3, ?hy3⟩) (by assumption) ?_
      case hi3 => (simp only [List.getElem?_toArray, List.getElem?_cons_zero, List.getElem?_cons_succ]; rfl)
      case hQ3 => exact fun _ _ _ h => h
      case hw3 => rfl
      case hy3 => (intro wq hSw; (try dsimp only at hSw); go_simp; try with_reducible rfl)
      try simp only [Act.put, List.setIfInBounds_toArray, List.set_cons_zero, List.set_cons_succ]
      refine wpAnyH_take (i := 3) (oi := ?oi4) (v := ?v4) ?hi4 (by kernel_rfl) (by kernel_rfl) (by kernel_rfl) ?hQ4 (Or.inl ⟨?hw4, ?hy4⟩) (by assumption) ?_
      case hi4 => (simp only [List.getElem?_toArray, List.getElem?_cons_zero, List.getElem?_cons_succ]; rfl)
      case hQ4 => exact fun _ _ _ h => h
      case hw4 => rfl
      case hy4 => (intro wq hSw; (try dsimp only at hSw); go_simp; try with_reducible rfl)
      try simp only [Act.put, List.setIfInBounds_toArray, List.set_cons_zero, List.set_cons_succ]
      refine wpAnyH_take (i := 4) (oi := ?oi5) (v := ?v5) ?hi5 (by kernel_rfl) (by kernel_rfl) (by kernel_rfl) ?hQ5 (Or.inl ⟨?hw5, ?hy5⟩) (by assumption) ?_
      case hi5 => (simp only [List.getElem?_toArray, List.getElem?_cons_zero, List.getElem?_cons_succ]; rfl)
      case hQ5 => exact fun _ _ _ h => h
      case hw5 => rfl
      case hy5 => (intro wq hSw; (try dsimp only at hSw); go_simp; try with_reducible rfl)
      try simp only [Act.put, List.setIfInBounds_toArray, List.set_cons_zero, List.set_cons_succ]
      refine wpAnyH_take (i := 5) (oi := ?oi6) (v := ?v6) ?hi6 (by kernel_rfl) (by kernel_rfl) (by kernel_rfl) ?hQ6 (Or.inl ⟨?hw6, ?hy6⟩) (by assumption) ?_
      case hi6 => (simp only [List.getElem?_toArray, List.getElem?_cons_zero, List.getElem?_cons_succ]; rfl)
      case hQ6 => exact fun _ _ _ h => h
      case hw6 => rfl
      case hy6 => (intro wq hSw; (try dsimp only at hSw); go_simp; try with_reducible rfl)
      try simp only [Act.put, List.setIfInBounds_toArray, List.set_cons_zero, List.set_cons_succ]
      refine wpAnyH_take (i := 6) (oi := ?oi7) (v := ?v7) ?hi7 (by kernel_rfl) (by kernel_rfl) (by kernel_rfl) ?hQ7 (Or.inl ⟨?hw7, ?hy7⟩) (by assumption) ?_
      case hi7 => (simp only [List.getElem?_toArray, List.getElem?_cons_zero, List.getElem?_cons_succ]; rfl)
      case hQ7 => exact fun _ _ _ h => h
      case hw7 => rfl
      case hy7 => (intro wq hSw; (try dsimp only at hSw); go_simp; try with_reducible rfl)
      try simp only [Act.put, List.setIfInBounds_toArray, List.set_cons_zero, List.set_cons_succ]
      refine wpAnyH_take (i := 7) (oi := ?oi8) (v := ?v8) ?hi8 (by kernel_rfl) (by kernel_rfl) (by kernel_rfl) ?hQ8 (Or.inl ⟨?hw8, ?hy8⟩) (by assumption) ?_
      case hi8 => (simp only [List.getElem?_toArray, List.getElem?_cons_zero, List.getElem?_cons_succ]; rfl)
      case hQ8 => exact fun _ _ _ h => h
      case hw8 => rfl
      case hy8 => (intro wq hSw; (try dsimp only at hSw); go_simp; try with_reducible rfl)
      try simp only [Act.put, List.setIfInBounds_toArray, List.set_cons_zero, List.set_cons_succ]
      refine wpAnyH_take (i := 8) (oi := ?oi9) (v := ?v9) ?hi9 (by kernel_rfl) (by kernel_rfl) (by kernel_rfl) ?hQ9 (Or.inl ⟨?hw9, ?hy9⟩) (by assumption) ?_
      case hi9 => (simp only [List.getElem?_toArray, List.getElem?_cons_zero, List.getElem?_cons_succ]; rfl)
      case hQ9 => exact fun _ _ _ h => h
      case hw9 => rfl
      case hy9 => (intro wq hSw; (try dsimp only at hSw); go_simp; try with_reducible rfl)
      try simp only [Act.put, List.setIfInBounds_toArray, List.set_cons_zero, List.set_cons_succ]
      refine wpAnyH_take (i := 9) (oi := ?oi10) (v := ?v10) ?hi10 (by kernel_rfl) (by kernel_rfl) (by kernel_rfl) ?hQ10 (Or.inl ⟨?hw10, ?hy10⟩) (by assumption) ?_
      case hi10 => (simp only [List.getElem?_toArray, List.getElem?_cons_zero, List.getElem?_cons_succ]; rfl)
      case hQ10 => exact fun _ _ _ h => h
      case hw10 => rfl
      case hy10 => (intro wq hSw; (try dsimp only at hSw); go_simp; try with_reducible rfl)
      try simp only [Act.put, List.setIfInBounds_toArray, List.set_cons_zero, List.set_cons_succ]
      refine wpAnyH_take (i := 10) (oi := ?oi11) (v := ?v11) ?hi11 (by kernel_rfl) (by kernel_rfl) (by kernel_rfl) ?hQ11 (Or.inl ⟨?hw11, ?hy11⟩) (by assumption) ?_
      case hi11 => (simp only [List.getElem?_toArray, List.getElem?_cons_zero, List.getElem?_cons_succ]; rfl)
      case hQ11 => exact fun _ _ _ h => h
      case hw11 => rfl
      case hy11 => (intro wq hSw; (try dsimp only at hSw); go_simp; try with_reducible rfl)
      try simp only [Act.put, List.setIfInBounds_toArray, List.set_cons_zero, List.set_cons_succ]
      refine wpAnyH_take (i := 11) (oi := ?oi12) (v := ?v12) ?hi12 (by kernel_rfl) (by kernel_rfl) (by kernel_rfl) ?hQ12 (Or.inl ⟨?hw12, ?hy12⟩) (by assumption) ?_
      case hi12 => (simp only [List.getElem?_toArray, List.getElem?_cons_zero, List.getElem?_cons_succ]; rfl)
      case hQ12 => exact fun _ _ _ h => h
      case hw12 => rfl
      case hy12 => (intro wq hSw; (try dsimp only at hSw); go_simp; try with_reducible rfl)
      try simp only [Act.put, List.setIfInBounds_toArray, List.set_cons_zero, List.set_cons_succ]
      refine wpAnyH_take (i := 12) (oi := ?oi13) (v := ?v13) ?hi13 (by kernel_rfl) (by kernel_rfl) (by kernel_rfl) ?hQ13 (Or.inl ⟨?hw13, ?hy13⟩) (by assumption) ?_
      case hi13 => (simp only [List.getElem?_toArray, List.getElem?_cons_zero, List.getElem?_cons_succ]; rfl)
      case hQ13 => exact fun _ _ _ h => h
      case hw13 => rfl
      case hy13 => (intro wq hSw; (try dsimp only at hSw); go_simp; try with_reducible rfl)
      try simp only [Act.put, List.setIfInBounds_toArray, List.set_cons_zero, List.set_cons_succ]
      refine wpAnyH_take (i := 13) (oi := ?oi14) (v := ?v14) ?hi14 (by kernel_rfl) (by kernel_rfl) (by kernel_rfl) ?hQ14 (Or.inl ⟨?hw14, ?hy14⟩) (by assumption) ?_
      case hi14 => (simp only [List.getElem?_toArray, List.getElem?_cons_zero, List.getElem?_cons_succ]; rfl)
      case hQ14 => exact fun _ _ _ h => h
      case hw14 => rfl
      case hy14 => (intro wq hSw; (try dsimp only at hSw); go_simp; try with_reducible rfl)
      try simp only [Act.put, List.setIfInBounds_toArray, List.set_cons_zero, List.set_cons_succ]
      refine wpAnyH_take (i := 15) (oi := ?oi15) (v := ?v15) ?hi15 (by kernel_rfl) (by kernel_rfl) (by kernel_rfl) ?hQ15 (Or.inl ⟨?hw15, ?hy15⟩) (by assumption) ?_
      case hi15 => (simp only [List.getElem?_toArray, List.getElem?_cons_zero, List.getElem?_cons_succ]; rfl)
      case hQ15 => exact fun _ _ _ h => h
      case hw15 => rfl
      case hy15 => (intro wq hSw; (try dsimp only at hSw); go_simp; try with_reducible rfl)
      try simp only [Act.put, List.setIfInBounds_toArray, List.set_cons_zero, List.set_cons_succ]
      refine wpAnyH_ready (rs := [14]) (by kernel_rfl) (by simp) ?_
      refine AllReadyH.cons (o := ?o16) ?ho16 (fun K hK => ?_) AllReadyH.nil
      case ho16 => (simp only [List.getElem?_toArray, List.getElem?_cons_zero, List.getElem?_cons_succ]; rfl)
      go_simp
      go_at_call 11
      with_reducible refine (KS.out _).mono ?_
      rintro e w4 ⟨rfl, b⟩
      have J := Lib.hid (J.out.below b)
      have T := Lib.hid (T.out.below b)
      have E := Lib.hid (E.out.below b)
      clear b s0 s1 a0 a1 b0 b1
      obtain ⟨b0, b1, _, _⟩ := J.out.head.two
      obtain ⟨a0, a1, _, _⟩ := J.out.tail.head.two
      obtain ⟨s0, s1, _, _⟩ := J.out.tail.tail.head.two
      try go_wp2_with fail
      refine hK.out _ _ (by exact ⟨s0, s1, a0, a1, b0, b1⟩) (fun hHeld => ?_)
      clear hK
      try simp only [Act.put, List.setIfInBounds_toArray, List.set_cons_zero, List.set_cons_succ]
      refine wpAnyH_ready (rs := [16]) (by kernel_rfl) (by simp) ?_
      refine AllReadyH.cons (o := ?o17) ?ho17 (fun K hK => ?_) AllReadyH.nil
      case ho17 => (simp only [List.getElem?_toArray, List.getElem?_cons_zero, List.getElem?_cons_succ]; rfl)
      go_simp
      go_at_call 12
      with_reducible refine (KR.out _).mono ?_
      rintro e w5 ⟨rfl, b⟩
      have J := Lib.hid (J.out.below b)
      have T := Lib.hid (T.out.below b)
      have E := Lib.hid (E.out.below b)
      clear b s0 s1 a0 a1 b0 b1
      obtain ⟨b0, b1, _, _⟩ := J.out.head.two
      obtain ⟨a0, a1, _, _⟩ := J.out.tail.head.two
      obtain ⟨s0, s1, _, _⟩ := J.out.tail.tail.head.two
      try go_wp2_with fail
      refine hK.out _ _ (by exact ⟨s0, s1, a0, a1, b0, b1⟩) (fun hHeld => ?_)
      clear hK
      try simp only [Act.put, List.setIfInBounds_toArray, List.set_cons_zero, List.set_cons_succ]
      refine wpAnyH_take (i := 17) (oi := ?oi18) (v := ?v18) ?hi18 (by kernel_rfl) (by kernel_rfl) (by kernel_rfl) ?hQ18 (Or.inl ⟨?hw18, ?hy18⟩) (by assumption) ?_
      case hi18 => (simp only [List.getElem?_toArray, List.getElem?_cons_zero, List.getElem?_cons_succ]; rfl)
      case hQ18 => exact fun _ _ _ h => h
      case hw18 => rfl
      case hy18 => (intro wq hSw; (try dsimp only at hSw); go_simp; try with_reducible rfl)
      try simp only [Act.put, List.setIfInBounds_toArray, List.set_cons_zero, List.set_cons_succ]
      refine wpAnyH_take (i := 18) (oi := ?oi19) (v := ?v19) ?hi19 (by kernel_rfl) (by kernel_rfl) (by kernel_rfl) ?hQ19 (Or.inl ⟨?hw19, ?hy19⟩) (by assumption) ?_
      case hi19 => (simp only [List.getElem?_toArray, List.getElem?_cons_zero, List.getElem?_cons_succ]; rfl)
      case hQ19 => exact fun _ _ _ h => h
      case hw19 => rfl
      case hy19 => (intro wq hSw; (try dsimp only at hSw); go_simp; try with_reducible rfl)
      try simp only [Act.put, List.setIfInBounds_toArray, List.set_cons_zero, List.set_cons_succ]
      refine wpAnyH_take (i := 19) (oi := ?oi20) (v := ?v20) ?hi20 (by kernel_rfl) (by kernel_rfl) (by kernel_rfl) ?hQ20 (Or.inl ⟨?hw20, ?hy20⟩) (by assumption) ?_
      case hi20 => (simp only [List.getElem?_toArray, List.getElem?_cons_zero, List.getElem?_cons_succ]; rfl)
      case hQ20 => exact fun _ _ _ h => h
      case hw20 => rfl
      case hy20 => (intro wq hSw; (try dsimp only at hSw); go_simp; try with_reducible rfl)
      try simp only [Act.put, List.setIfInBounds_toArray, List.set_cons_zero, List.set_cons_succ]
      refine wpAnyH_take (i := 20) (oi := ?oi21) (v := ?v21) ?hi21 (by kernel_rfl) (by kernel_rfl) (by kernel_rfl) ?hQ21 (Or.inl ⟨?hw21, ?hy21⟩) (by assumption) ?_
      case hi21 => (simp only [List.getElem?_toArray, List.getElem?_cons_zero, List.getElem?_cons_succ]; rfl)
      case hQ21 => exact fun _ _ _ h => h
      case hw21 => rfl
      case hy21 => (intro wq hSw; (try dsimp only at hSw); go_simp; try with_reducible rfl)
      try simp only [Act.put, List.setIfInBounds_toArray, List.set_cons_zero, List.set_cons_succ]
      refine wpAnyH_take (i := 21) (oi := ?oi22) (v := ?v22) ?hi22 (by kernel_rfl) (by kernel_rfl) (by kernel_rfl) ?hQ22 (Or.inl ⟨?hw22, ?hy22⟩) (by assumption) ?_
      case hi22 => (simp only [List.getElem?_toArray, List.getElem?_cons_zero, List.getElem?_cons_succ]; rfl)
      case hQ22 => exact fun _ _ _ h => h
      case hw22 => rfl
      case hy22 => (intro wq hSw; (try dsimp only at hSw); go_simp; try with_reducible rfl)
      try simp only [Act.put, List.setIfInBounds_toArray, List.set_cons_zero, List.set_cons_succ]
      refine wpAnyH_take (i := 22) (oi := ?oi23) (v := ?v23) ?hi23 (by kernel_rfl) (by kernel_rfl) (by kernel_rfl) ?hQ23 (Or.inl ⟨?hw23, ?hy23⟩) (by assumption) ?_
      case hi23 => (simp only [List.getElem?_toArray, List.getElem?_cons_zero, List.getElem?_cons_succ]; rfl)
      case hQ23 => exact fun _ _ _ h => h
      case hw23 => rfl
      case hy23 => (intro wq hSw; (try dsimp only at hSw); go_simp; try with_reducible rfl)
      try simp only [Act.put, List.setIfInBounds_toArray, List.set_cons_zero, List.set_cons_succ]
      refine wpAnyH_take (i := 23) (oi := ?oi24) (v := undef) ?hi24 (by kernel_rfl) (by kernel_rfl) (by kernel_rfl) ?hQ24 (Or.inr ⟨?hw24, rfl⟩) (by assumption) ?_
      case hi24 => (simp only [List.getElem?_toArray, List.getElem?_cons_zero, List.getElem?_cons_succ]; rfl)
      case hQ24 => exact fun _ _ _ h => h
      case hw24 => rfl
      try simp only [Act.put, List.setIfInBounds_toArray, List.set_cons_zero, List.set_cons_succ]
      refine wpAnyH_take (i := 24) (oi := ?oi25) (v := undef) ?hi25 (by kernel_rfl) (by kernel_rfl) (by kernel_rfl) ?hQ25 (Or.inr ⟨?hw25, rfl⟩) (by assumption) ?_
      case hi25 => (simp only [List.getElem?_toArray, List.getElem?_cons_zero, List.getElem?_cons_succ]; rfl)
      case hQ25 => exact fun _ _ _ h => h
      case hw25 => rfl
      try simp only [Act.put, List.setIfInBounds_toArray, List.set_cons_zero, List.set_cons_succ]
      refine wpAnyH_take (i := 25) (oi := ?oi26) (v := undef) ?hi26 (by kernel_rfl) (by kernel_rfl) (by kernel_rfl) ?hQ26 (Or.inr ⟨?hw26, rfl⟩) (by assumption) ?_
      case hi26 => (simp only [List.getElem?_toArray, List.getElem?_cons_zero, List.getElem?_cons_succ]; rfl)
      case hQ26 => exact fun _ _ _ h => h
      case hw26 => rfl
      try simp only [Act.put, List.setIfInBounds_toArray, List.set_cons_zero, List.set_cons_succ]
      refine wpAnyH_take (i := 26) (oi := ?oi27) (v := undef) ?hi27 (by kernel_rfl) (by kernel_rfl) (by kernel_rfl) ?hQ27 (Or.inr ⟨?hw27, rfl⟩) (by assumption) ?_
      case hi27 => (simp only [List.getElem?_toArray, List.getElem?_cons_zero, List.getElem?_cons_succ]; rfl)
      case hQ27 => exact fun _ _ _ h => h
      case hw27 => rfl
      try simp only [Act.put, List.setIfInBounds_toArray, List.set_cons_zero, List.set_cons_succ]
      refine wpAnyH_take (i := 27) (oi := ?oi28) (v := undef) ?hi28 (by kernel_rfl) (by kernel_rfl) (by kernel_rfl) ?hQ28 (Or.inr ⟨?hw28, rfl⟩) (by assumption) ?_
      case hi28 => (simp only [List.getElem?_toArray, List.getElem?_cons_zero, List.getElem?_cons_succ]; rfl)
      case hQ28 => exact fun _ _ _ h => h
      case hw28 => rfl
      try simp only [Act.put, List.setIfInBounds_toArray, List.set_cons_zero, List.set_cons_succ]
      refine wpAnyH_take (i := 28) (oi := ?oi29) (v := undef) ?hi29 (by kernel_rfl) (by kernel_rfl) (by kernel_rfl) ?hQ29 (Or.inr ⟨?hw29, rfl⟩) (by assumption) ?_
      case hi29 => (simp only [List.getElem?_toArray, List.getElem?_cons_zero, List.getElem?_cons_succ]; rfl)
      case hQ29 => exact fun _ _ _ h => h
      case hw29 => rfl
      try simp only [Act.put, List.setIfInBounds_toArray, List.set_cons_zero, List.set_cons_succ]
      refine wpAnyH_take (i := 29) (oi := ?oi30) (v := undef) ?hi30 (by kernel_rfl) (by kernel_rfl) (by kernel_rfl) ?hQ30 (Or.inr ⟨?hw30, rfl⟩) (by assumption) ?_
      case hi30 => (simp only [List.getElem?_toArray, List.getElem?_cons_zero, List.getElem?_cons_succ]; rfl)
      case hQ30 => exact fun _ _ _ h => h
      case hw30 => rfl
      try simp only [Act.put, List.setIfInBounds_toArray, List.set_cons_zero, List.set_cons_succ]
      refine wpAnyH_take (i := 30) (oi := ?oi31) (v := undef) ?hi31 (by kernel_rfl) (by kernel_rfl) (by kernel_rfl) ?hQ31 (Or.inr ⟨?hw31, rfl⟩) (by assumption) ?_
      case hi31 => (simp only [List.getElem?_toArray, List.getElem?_cons_zero, List.getElem?_cons_succ]; rfl)
      case hQ31 => exact fun _ _ _ h => h
      case hw31 => rfl
      try simp only [Act.put, List.setIfInBounds_toArray, List.set_cons_zero, List.set_cons_succ]
      refine wpAnyH_take (i := 31) (oi := ?oi32) (v := undef) ?hi32 (by kernel_rfl) (by kernel_rfl) (by kernel_rfl) ?hQ32 (Or.inr ⟨?hw32, rfl⟩) (by assumption) ?_
      case hi32 => (simp only [List.getElem?_toArray, List.getElem?_cons_zero, List.getElem?_cons_succ]; rfl)
      case hQ32 => exact fun _ _ _ h => h
      case hw32 => rfl
      try simp only [Act.put, List.setIfInBounds_toArray, List.set_cons_zero, List.set_cons_succ]
      refine wpAnyH_take (i := 32) (oi := ?oi33) (v := undef) ?hi33 (by kernel_rfl) (by kernel_rfl) (by kernel_rfl) ?hQ33 (Or.inr ⟨?hw33, rfl⟩) (by assumption) ?_
      case hi33 => (simp only [List.getElem?_toArray, List.getElem?_cons_zero, List.getElem?_cons_succ]; rfl)
      case hQ33 => exact fun _ _ _ h => h
      case hw33 => rfl
      try simp only [Act.put, List.setIfInBounds_toArray, List.set_cons_zero, List.set_cons_succ]
      refine wpAnyH_take (i := 33) (oi := ?oi34) (v := undef) ?hi34 (by kernel_rfl) (by kernel_rfl) (by kernel_rfl) ?hQ34 (Or.inr ⟨?hw34, rfl⟩) (by assumption) ?_
      case hi34 => (simp only [List.getElem?_toArray, List.getElem?_cons_zero, List.getElem?_cons_succ]; rfl)
      case hQ34 => exact fun _ _ _ h => h
      case hw34 => rfl
      try simp only [Act.put, List.setIfInBounds_toArray, List.set_cons_zero, List.set_cons_succ]
      refine wpAnyH_take (i := 34) (oi := ?oi35) (v := undef) ?hi35 (by kernel_rfl) (by kernel_rfl) (by kernel_rfl) ?hQ35 (Or.inr ⟨?hw35, rfl⟩) (by assumption) ?_
      case hi35 => (simp only [List.getElem?_toArray, List.getElem?_cons_zero, List.getElem?_cons_succ]; rfl)
      case hQ35 => exact fun _ _ _ h => h
      case hw35 => rfl
      try simp only [Act.put, List.setIfInBounds_toArray, List.set_cons_zero, List.set_cons_succ]
      refine wpAnyH_take (i := 35) (oi := ?oi36) (v := undef) ?hi36 (by kernel_rfl) (by kernel_rfl) (by kernel_rfl) ?hQ36 (Or.inr ⟨?hw36, rfl⟩) (by assumption) ?_
      case hi36 => (simp only [List.getElem?_toArray, List.getElem?_cons_zero, List.getElem?_cons_succ]; rfl)
      case hQ36 => exact fun _ _ _ h => h
      case hw36 => rfl
      try simp only [Act.put, List.setIfInBounds_toArray, List.set_cons_zero, List.set_cons_succ]
      refine wpAnyH_take (i := 36) (oi := ?oi37) (v := undef) ?hi37 (by kernel_rfl) (by kernel_rfl) (by kernel_rfl) ?hQ37 (Or.inr ⟨?hw37, rfl⟩) (by assumption) ?_
      case hi37 => (simp only [List.getElem?_toArray, List.getElem?_cons_zero, List.getElem?_cons_succ]; rfl)
      case hQ37 => exact fun _ _ _ h => h
      case hw37 => rfl
      try simp only [Act.put, List.setIfInBounds_toArray, List.set_cons_zero, List.set_cons_succ]
      refine wpAnyH_take (i := 37) (oi := ?oi38) (v := ?v38) ?hi38 (by kernel_rfl) (by kernel_rfl) (by kernel_rfl) ?hQ38 (Or.inl ⟨?hw38, ?hy38⟩) (by assumption) ?_
      case hi38 => (simp only [List.getElem?_toArray, List.getElem?_cons_zero, List.getElem?_cons_succ]; rfl)
      case hQ38 => exact fun _ _ _ h => h
      case hw38 => rfl
      case hy38 => (intro wq hSw; (try dsimp only at hSw); go_simp; try with_reducible rfl)
      try simp only [Act.put, List.setIfInBounds_toArray, List.set_cons_zero, List.set_cons_succ]
      refine wpAnyH_take (i := 38) (oi := ?oi39) (v := ?v39) ?hi39 (by kernel_rfl) (by kernel_rfl) (by kernel_rfl) ?hQ39 (Or.inl ⟨?hw39, ?hy39⟩) (by assumption) ?_
      case hi39 => (simp only [List.getElem?_toArray, List.getElem?_cons_zero, List.getElem?_cons_succ]; rfl)
      case hQ39 => exact fun _ _ _ h => h
      case hw39 => rfl
      case hy39 => (intro wq hSw; (try dsimp only at hSw); go_simp; try with_reducible rfl)
      try simp only [Act.put, List.setIfInBounds_toArray, List.set_cons_zero, List.set_cons_succ]
      refine wpAnyH_done (by kernel_rfl) ?_ _
      go_wp2_with fail
      refine (KM.out _).mono ?_
      rintro r w6 ⟨rfl, b⟩
      have J := Lib.hid (J.out.below b)
      clear b s0 s1
      obtain ⟨s0, s1, _, _⟩ := J.out.tail.tail.head.two
      go_wp2_with fail
      refine (KR.out _).mono ?_
      rintro r w7 ⟨rfl, b⟩
      have J := Lib.hid (J.out.below b)
      clear b s0 s1
      obtain ⟨s0, s1, _, _⟩ := J.out.tail.tail.head.two
      go_wp2
      go_ret
      exact ⟨rfl, J.out.2.1⟩
    · rw [scoB_no h2] at KS KR
      rw [← mnV_no h2] at KM
      clear h2 ha ht hp hq
      go_enter Tryd.func3, Tryd.ntmps3
      go_wp2_with fail
      refine (K1.out _).mono ?_
      rintro r w1 ⟨rfl, b⟩
      have J := Lib.hid ((J.out.below b).alloc #[.int .i64 P, .int .i64 Q] 23)
      have T := Lib.hid ((T.out.below b).alloc (.cells #[.int .i64 P, .int .i64 Q] 23))
      have E := Lib.hid ((E.out.below b).alloc (.cells #[.int .i64 P, .int .i64 Q] 23))
      clear b
      go_wp2_with fail
      refine (K2.out _).mono ?_
      rintro r w2 ⟨rfl, b⟩
      have J := Lib.hid ((J.out.below b).alloc #[.int .i64 P, .int .i64 Q] 23)
      have T := Lib.hid ((T.out.below b).alloc (.cells #[.int .i64 P, .int .i64 Q] 23))
      have E := Lib.hid ((E.out.below b).alloc (.cells #[.int .i64 P, .int .i64 Q] 23))
      clear b
      have J := Lib.hid J.out.drew
      have T := Lib.hid T.out.drew
      have E := Lib.hid E.out.drew
      obtain ⟨b0, b1, _, _⟩ := J.out.head.two
      obtain ⟨a0, a1, _, _⟩ := J.out.tail.head.two
      obtain ⟨s0, s1, _, _⟩ := J.out.tail.tail.head.two
      go_wp2
      refine wp_region_held_drew (S := (fun wr : World => wr.cell? ⟨w.heap.size, 0, none⟩ = some (.int .i64 p) ∧ wr.cell? ⟨w.heap.size, 1, none⟩ = some (.int .i64 q) ∧ wr.cell? ⟨w1.heap.size, 0, none⟩ = some (.int .i64 P) ∧ wr.cell? ⟨w1.heap.size, 1, none⟩ = some (.int .i64 Q) ∧ wr.cell? ⟨w2.heap.size, 0, none⟩ = some (.int .i64 P) ∧ wr.cell? ⟨w2.heap.size, 1, none⟩ = some (.int .i64 Q))) (by kernel_rfl) (by exact ⟨s0, s1, a0, a1, b0, b1⟩) (fun hHeld => ?_)
      refine wpAnyH_ready (rs := [0]) (by kernel_rfl) (by simp) ?_
      refine AllReadyH.cons (o := ?o40) ?ho40 (fun K hK => ?_) AllReadyH.nil
      case ho40 => (simp only [List.getElem?_toArray, List.getElem?_cons_zero, List.getElem?_cons_succ]; rfl)
      go_simp
      go_at_call 10
      with_reducible refine (KL.out _ T.out E.out).mono ?_
      rintro e w3 ⟨rfl, b⟩
      have J := Lib.hid (J.out.below b)
      have T := Lib.hid (T.out.below b)
      have E := Lib.hid (E.out.below b)
      clear b s0 s1 a0 a1 b0 b1
      obtain ⟨b0, b1, _, _⟩ := J.out.head.two
      obtain ⟨a0, a1, _, _⟩ := J.out.tail.head.two
      obtain ⟨s0, s1, _, _⟩ := J.out.tail.tail.head.two
      try go_wp2_with fail
      refine hK.out _ _ (by exact ⟨s0, s1, a0, a1, b0, b1⟩) (fun hHeld => ?_)
      clear hK
      try simp only [Act.put, List.setIfInBounds_toArray, List.set_cons_zero, List.set_cons_succ]
      refine wpAnyH_take (i := 1) (oi := ?oi41) (v := ?v41) ?hi41 (by kernel_rfl) (by kernel_rfl) (by kernel_rfl) ?hQ41 (Or.inl ⟨?hw41, ?hy41⟩) (by assumption) ?_
      case hi41 => (simp only [List.getElem?_toArray, List.getElem?_cons_zero, List.getElem?_cons_succ]; rfl)
      case hQ41 => exact fun _ _ _ h => h
      case hw41 => rfl
      case hy41 => (intro wq hSw; (try dsimp only at hSw); go_simp; try with_reducible rfl)
      try simp only [Act.put, List.setIfInBounds_toArray, List.set_cons_zero, List.set_cons_succ]
      refine wpAnyH_take (i := 2) (oi := ?oi42) (v := ?v42) ?hi42 (by kernel_rfl) (by kernel_rfl) (by kernel_rfl) ?hQ42 (Or.inl ⟨?hw42, ?hy42⟩) (by assumption) ?_
      case hi42 => (simp only [List.getElem?_toArray, List.getElem?_cons_zero, List.getElem?_cons_succ]; rfl)
      case hQ42 => exact fun _ _ _ h => h
      case hw42 => rfl
      case hy42 => (intro wq hSw; (try dsimp only at hSw); go_simp; try with_reducible rfl)
      try simp only [Act.put, List.setIfInBounds_toArray, List.set_cons_zero, List.set_cons_succ]
      refine wpAnyH_take (i := 3) (oi := ?oi43) (v := ?v43) ?hi43 (by kernel_rfl) (by kernel_rfl) (by kernel_rfl) ?hQ43 (Or.inl ⟨?hw43, ?hy43⟩) (by assumption) ?_
      case hi43 => (simp only [List.getElem?_toArray, List.getElem?_cons_zero, List.getElem?_cons_succ]; rfl)
      case hQ43 => exact fun _ _ _ h => h
      case hw43 => rfl
      case hy43 => (intro wq hSw; (try dsimp only at hSw); go_simp; try with_reducible rfl)
      try simp only [Act.put, List.setIfInBounds_toArray, List.set_cons_zero, List.set_cons_succ]
      refine wpAnyH_take (i := 4) (oi := ?oi44) (v := ?v44) ?hi44 (by kernel_rfl) (by kernel_rfl) (by kernel_rfl) ?hQ44 (Or.inl ⟨?hw44, ?hy44⟩) (by assumption) ?_
      case hi44 => (simp only [List.getElem?_toArray, List.getElem?_cons_zero, List.getElem?_cons_succ]; rfl)
      case hQ44 => exact fun _ _ _ h => h
      case hw44 => rfl
      case hy44 => (intro wq hSw; (try dsimp only at hSw); go_simp; try with_reducible rfl)
      try simp only [Act.put, List.setIfInBounds_toArray, List.set_cons_zero, List.set_cons_succ]
      refine wpAnyH_take (i := 5) (oi := ?oi45) (v := ?v45) ?hi45 (by kernel_rfl) (by kernel_rfl) (by kernel_rfl) ?hQ45 (Or.inl ⟨?hw45, ?hy45⟩) (by assumption) ?_
      case hi45 => (simp only [List.getElem?_toArray, List.getElem?_cons_zero, List.getElem?_cons_succ]; rfl)
      case hQ45 => exact fun _ _ _ h => h
      case hw45 => rfl
      case hy45 => (intro wq hSw; (try dsimp only at hSw); go_simp; try with_reducible rfl)
      try simp only [Act.put, List.setIfInBounds_toArray, List.set_cons_zero, List.set_cons_succ]
      refine wpAnyH_take (i := 6) (oi := ?oi46) (v := ?v46) ?hi46 (by kernel_rfl) (by kernel_rfl) (by kernel_rfl) ?hQ46 (Or.inl ⟨?hw46, ?hy46⟩) (by assumption) ?_
      case hi46 => (simp only [List.getElem?_toArray, List.getElem?_cons_zero, List.getElem?_cons_succ]; rfl)
      case hQ46 => exact fun _ _ _ h => h
      case hw46 => rfl
      case hy46 => (intro wq hSw; (try dsimp only at hSw); go_simp; try with_reducible rfl)
      try simp only [Act.put, List.setIfInBounds_toArray, List.set_cons_zero, List.set_cons_succ]
      refine wpAnyH_take (i := 7) (oi := ?oi47) (v := ?v47) ?hi47 (by kernel_rfl) (by kernel_rfl) (by kernel_rfl) ?hQ47 (Or.inl ⟨?hw47, ?hy47⟩) (by assumption) ?_
      case hi47 => (simp only [List.getElem?_toArray, List.getElem?_cons_zero, List.getElem?_cons_succ]; rfl)
      case hQ47 => exact fun _ _ _ h => h
      case hw47 => rfl
      case hy47 => (intro wq hSw; (try dsimp only at hSw); go_simp; try with_reducible rfl)
      try simp only [Act.put, List.setIfInBounds_toArray, List.set_cons_zero, List.set_cons_succ]
      refine wpAnyH_take (i := 8) (oi := ?oi48) (v := ?v48) ?hi48 (by kernel_rfl) (by kernel_rfl) (by kernel_rfl) ?hQ48 (Or.inl ⟨?hw48, ?hy48⟩) (by assumption) ?_
      case hi48 => (simp only [List.getElem?_toArray, List.getElem?_cons_zero, List.getElem?_cons_succ]; rfl)
      case hQ48 => exact fun _ _ _ h => h
      case hw48 => rfl
      case hy48 => (intro wq hSw; (try dsimp only at hSw); go_simp; try with_reducible rfl)
      try simp only [Act.put, List.setIfInBounds_toArray, List.set_cons_zero, List.set_cons_succ]
      refine wpAnyH_take (i := 9) (oi := ?oi49) (v := ?v49) ?hi49 (by kernel_rfl) (by kernel_rfl) (by kernel_rfl) ?hQ49 (Or.inl ⟨?hw49, ?hy49⟩) (by assumption) ?_
      case hi49 => (simp only [List.getElem?_toArray, List.getElem?_cons_zero, List.getElem?_cons_succ]; rfl)
      case hQ49 => exact fun _ _ _ h => h
      case hw49 => rfl
      case hy49 => (intro wq hSw; (try dsimp only at hSw); go_simp; try with_reducible rfl)
      try simp only [Act.put, List.setIfInBounds_toArray, List.set_cons_zero, List.set_cons_succ]
      refine wpAnyH_take (i := 10) (oi := ?oi50) (v := ?v50) ?hi50 (by kernel_rfl) (by kernel_rfl) (by kernel_rfl) ?hQ50 (Or.inl ⟨?hw50, ?hy50⟩) (by assumption) ?_
      case hi50 => (simp only [List.getElem?_toArray, List.getElem?_cons_zero, List.getElem?_cons_succ]; rfl)
      case hQ50 => exact fun _ _ _ h => h
      case hw50 => rfl
      case hy50 => (intro wq hSw; (try dsimp only at hSw); go_simp; try with_reducible rfl)
      try simp only [Act.put, List.setIfInBounds_toArray, List.set_cons_zero, List.set_cons_succ]
      refine wpAnyH_take (i := 11) (oi := ?oi51) (v := ?v51) ?hi51 (by kernel_rfl) (by kernel_rfl) (by kernel_rfl) ?hQ51 (Or.inl ⟨?hw51, ?hy51⟩) (by assumption) ?_
      case hi51 => (simp only [List.getElem?_toArray, List.getElem?_cons_zero, List.getElem?_cons_succ]; rfl)
      case hQ51 => exact fun _ _ _ h => h
      case hw51 => rfl
      case hy51 => (intro wq hSw; (try dsimp only at hSw); go_simp; try with_reducible rfl)
      try simp only [Act.put, List.setIfInBounds_toArray, List.set_cons_zero, List.set_cons_succ]
      refine wpAnyH_take (i := 12) (oi := ?oi52) (v := ?v52) ?hi52 (by kernel_rfl) (by kernel_rfl) (by kernel_rfl) ?hQ52 (Or.inl ⟨?hw52, ?hy52⟩) (by assumption) ?_
      case hi52 => (simp only [List.getElem?_toArray, List.getElem?_cons_zero, List.getElem?_cons_succ]; rfl)
      case hQ52 => exact fun _ _ _ h => h
      case hw52 => rfl
      case hy52 => (intro wq hSw; (try dsimp only at hSw); go_simp; try with_reducible rfl)
      try simp only [Act.put, List.setIfInBounds_toArray, List.set_cons_zero, List.set_cons_succ]
      refine wpAnyH_take (i := 13) (oi := ?oi53) (v := ?v53) ?hi53 (by kernel_rfl) (by kernel_rfl) (by kernel_rfl) ?hQ53 (Or.inl ⟨?hw53, ?hy53⟩) (by assumption) ?_
      case hi53 => (simp only [List.getElem?_toArray, List.getElem?_cons_zero, List.getElem?_cons_succ]; rfl)
      case hQ53 => exact fun _ _ _ h => h
      case hw53 => rfl
      case hy53 => (intro wq hSw; (try dsimp only at hSw); go_simp; try with_reducible rfl)
      try simp only [Act.put, List.setIfInBounds_toArray, List.set_cons_zero, List.set_cons_succ]
      refine wpAnyH_take (i := 15) (oi := ?oi54) (v := ?v54) ?hi54 (by kernel_rfl) (by kernel_rfl) (by kernel_rfl) ?hQ54 (Or.inl ⟨?hw54, ?hy54⟩) (by assumption) ?_
      case hi54 => (simp only [List.getElem?_toArray, List.getElem?_cons_zero, List.getElem?_cons_succ]; rfl)
      case hQ54 => exact fun _ _ _ h => h
      case hw54 => rfl
      case hy54 => (intro wq hSw; (try dsimp only at hSw); go_simp; try with_reducible rfl)
      try simp only [Act.put, List.setIfInBounds_toArray, List.set_cons_zero, List.set_cons_succ]
      refine wpAnyH_ready (rs := [14]) (by kernel_rfl) (by simp) ?_
      refine AllReadyH.cons (o := ?o55) ?ho55 (fun K hK => ?_) AllReadyH.nil
      case ho55 => (simp only [List.getElem?_toArray, List.getElem?_cons_zero, List.getElem?_cons_succ]; rfl)
      go_simp
      go_at_call 11
      with_reducible refine (KS.out _).mono ?_
      rintro e w4 ⟨rfl, b⟩
      have J := Lib.hid (J.out.below b)
      have T := Lib.hid (T.out.below b)
      have E := Lib.hid (E.out.below b)
      clear b s0 s1 a0 a1 b0 b1
      obtain ⟨b0, b1, _, _⟩ := J.out.head.two
      obtain ⟨a0, a1, _, _⟩ := J.out.tail.head.two
      obtain ⟨s0, s1, _, _⟩ := J.out.tail.tail.head.two
      try go_wp2_with fail
      refine hK.out _ _ (by exact ⟨s0, s1, a0, a1, b0, b1⟩) (fun hHeld => ?_)
      clear hK
      try simp only [Act.put, List.setIfInBounds_toArray, List.set_cons_zero, List.set_cons_succ]
      refine wpAnyH_ready (rs := [16]) (by kernel_rfl) (by simp) ?_
      refine AllReadyH.cons (o := ?o56) ?ho56 (fun K hK => ?_) AllReadyH.nil
      case ho56 => (simp only [List.getElem?_toArray, List.getElem?_cons_zero, List.getElem?_cons_succ]; rfl)
      go_simp
      go_at_call 12
      with_reducible refine (KR.out _).mono ?_
      rintro e w5 ⟨rfl, b⟩
      have J := Lib.hid (J.out.below b)
      have T := Lib.hid (T.out.below b)
      have E := Lib.hid (E.out.below b)
      clear b s0 s1 a0 a1 b0 b1
      obtain ⟨b0, b1, _, _⟩ := J.out.head.two
      obtain ⟨a0, a1, _, _⟩ := J.out.tail.head.two
      obtain ⟨s0, s1, _, _⟩ := J.out.tail.tail.head.two
      try go_wp2_with fail
      refine hK.out _ _ (by exact ⟨s0, s1, a0, a1, b0, b1⟩) (fun hHeld => ?_)
      clear hK
      try simp only [Act.put, List.setIfInBounds_toArray, List.set_cons_zero, List.set_cons_succ]
      refine wpAnyH_take (i := 17) (oi := ?oi57) (v := ?v57) ?hi57 (by kernel_rfl) (by kernel_rfl) (by kernel_rfl) ?hQ57 (Or.inl ⟨?hw57, ?hy57⟩) (by assumption) ?_
      case hi57 => (simp only [List.getElem?_toArray, List.getElem?_cons_zero, List.getElem?_cons_succ]; rfl)
      case hQ57 => exact fun _ _ _ h => h
      case hw57 => rfl
      case hy57 => (intro wq hSw; (try dsimp only at hSw); go_simp; try with_reducible rfl)
      try simp only [Act.put, List.setIfInBounds_toArray, List.set_cons_zero, List.set_cons_succ]
      refine wpAnyH_take (i := 18) (oi := ?oi58) (v := ?v58) ?hi58 (by kernel_rfl) (by kernel_rfl) (by kernel_rfl) ?hQ58 (Or.inl ⟨?hw58, ?hy58⟩) (by assumption) ?_
      case hi58 => (simp only [List.getElem?_toArray, List.getElem?_cons_zero, List.getElem?_cons_succ]; rfl)
      case hQ58 => exact fun _ _ _ h => h
      case hw58 => rfl
      case hy58 => (intro wq hSw; (try dsimp only at hSw); go_simp; try with_reducible rfl)
      try simp only [Act.put, List.setIfInBounds_toArray, List.set_cons_zero, List.set_cons_succ]
      refine wpAnyH_take (i := 19) (oi := ?oi59) (v := ?v59) ?hi59 (by kernel_rfl) (by kernel_rfl) (by kernel_rfl) ?hQ59 (Or.inl ⟨?hw59, ?hy59⟩) (by assumption) ?_
      case hi59 => (simp only [List.getElem?_toArray, List.getElem?_cons_zero, List.getElem?_cons_succ]; rfl)
      case hQ59 => exact fun _ _ _ h => h
      case hw59 => rfl
      case hy59 => (intro wq hSw; (try dsimp only at hSw); go_simp; try with_reducible rfl)
      try simp only [Act.put, List.setIfInBounds_toArray, List.set_cons_zero, List.set_cons_succ]
      refine wpAnyH_take (i := 20) (oi := ?oi60) (v := ?v60) ?hi60 (by kernel_rfl) (by kernel_rfl) (by kernel_rfl) ?hQ60 (Or.inl ⟨?hw60, ?hy60⟩) (by assumption) ?_
      case hi60 => (simp only [List.getElem?_toArray, List.getElem?_cons_zero, List.getElem?_cons_succ]; rfl)
      case hQ60 => exact fun _ _ _ h => h
      case hw60 => rfl
      case hy60 => (intro wq hSw; (try dsimp only at hSw); go_simp; try with_reducible rfl)
      try simp only [Act.put, List.setIfInBounds_toArray, List.set_cons_zero, List.set_cons_succ]
      refine wpAnyH_take (i := 21) (oi := ?oi61) (v := ?v61) ?hi61 (by kernel_rfl) (by kernel_rfl) (by kernel_rfl) ?hQ61 (Or.inl ⟨?hw61, ?hy61⟩) (by assumption) ?_
      case hi61 => (simp only [List.getElem?_toArray, List.getElem?_cons_zero, List.getElem?_cons_succ]; rfl)
      case hQ61 => exact fun _ _ _ h => h
      case hw61 => rfl
      case hy61 => (intro wq hSw; (try dsimp only at hSw); go_simp; try with_reducible rfl)
      try simp only [Act.put, List.setIfInBounds_toArray, List.set_cons_zero, List.set_cons_succ]
      refine wpAnyH_take (i := 22) (oi := ?oi62) (v := ?v62) ?hi62 (by kernel_rfl) (by kernel_rfl) (by kernel_rfl) ?hQ62 (Or.inl ⟨?hw62, ?hy62⟩) (by assumption) ?_
      case hi62 => (simp only [List.getElem?_toArray, List.getElem?_cons_zero, List.getElem?_cons_succ]; rfl)
      case hQ62 => exact fun _ _ _ h => h
      case hw62 => rfl
      case hy62 => (intro wq hSw; (try dsimp only at hSw); go_simp; try with_reducible rfl)
      try simp only [Act.put, List.setIfInBounds_toArray, List.set_cons_zero, List.set_cons_succ]
      refine wpAnyH_take (i := 23) (oi := ?oi63) (v := undef) ?hi63 (by kernel_rfl) (by kernel_rfl) (by kernel_rfl) ?hQ63 (Or.inr ⟨?hw63, rfl⟩) (by assumption) ?_
      case hi63 => (simp only [List.getElem?_toArray, List.getElem?_cons_zero, List.getElem?_cons_succ]; rfl)
      case hQ63 => exact fun _ _ _ h => h
      case hw63 => rfl
      try simp only [Act.put, List.setIfInBounds_toArray, List.set_cons_zero, List.set_cons_succ]
      refine wpAnyH_take (i := 24) (oi := ?oi64) (v := undef) ?hi64 (by kernel_rfl) (by kernel_rfl) (by kernel_rfl) ?hQ64 (Or.inr ⟨?hw64, rfl⟩) (by assumption) ?_
      case hi64 => (simp only [List.getElem?_toArray, List.getElem?_cons_zero, List.getElem?_cons_succ]; rfl)
      case hQ64 => exact fun _ _ _ h => h
      case hw64 => rfl
      try simp only [Act.put, List.setIfInBounds_toArray, List.set_cons_zero, List.set_cons_succ]
      refine wpAnyH_take (i := 25) (oi := ?oi65) (v := undef) ?hi65 (by kernel_rfl) (by kernel_rfl) (by kernel_rfl) ?hQ65 (Or.inr ⟨?hw65, rfl⟩) (by assumption) ?_
      case hi65 => (simp only [List.getElem?_toArray, List.getElem?_cons_zero, List.getElem?_cons_succ]; rfl)
      case hQ65 => exact fun _ _ _ h => h
      case hw65 => rfl
      try simp only [Act.put, List.setIfInBounds_toArray, List.set_cons_zero, List.set_cons_succ]
      refine wpAnyH_take (i := 26) (oi := ?oi66) (v := undef) ?hi66 (by kernel_rfl) (by kernel_rfl) (by kernel_rfl) ?hQ66 (Or.inr ⟨?hw66, rfl⟩) (by assumption) ?_
      case hi66 => (simp only [List.getElem?_toArray, List.getElem?_cons_zero, List.getElem?_cons_succ]; rfl)
      case hQ66 => exact fun _ _ _ h => h
      case hw66 => rfl
      try simp only [Act.put, List.setIfInBounds_toArray, List.set_cons_zero, List.set_cons_succ]
      refine wpAnyH_take (i := 27) (oi := ?oi67) (v := undef) ?hi67 (by kernel_rfl) (by kernel_rfl) (by kernel_rfl) ?hQ67 (Or.inr ⟨?hw67, rfl⟩) (by assumption) ?_
      case hi67 => (simp only [List.getElem?_toArray, List.getElem?_cons_zero, List.getElem?_cons_succ]; rfl)
      case hQ67 => exact fun _ _ _ h => h
      case hw67 => rfl
      try simp only [Act.put, List.setIfInBounds_toArray, List.set_cons_zero, List.set_cons_succ]
      refine wpAnyH_take (i := 28) (oi := ?oi68) (v := undef) ?hi68 (by kernel_rfl) (by kernel_rfl) (by kernel_rfl) ?hQ68 (Or.inr ⟨?hw68, rfl⟩) (by assumption) ?_
      case hi68 => (simp only [List.getElem?_toArray, List.getElem?_cons_zero, List.getElem?_cons_succ]; rfl)
      case hQ68 => exact fun _ _ _ h => h
      case hw68 => rfl
      try simp only [Act.put, List.setIfInBounds_toArray, List.set_cons_zero, List.set_cons_succ]
      refine wpAnyH_take (i := 29) (oi := ?oi69) (v := undef) ?hi69 (by kernel_rfl) (by kernel_rfl) (by kernel_rfl) ?hQ69 (Or.inr ⟨?hw69, rfl⟩) (by assumption) ?_
      case hi69 => (simp only [List.getElem?_toArray, List.getElem?_cons_zero, List.getElem?_cons_succ]; rfl)
      case hQ69 => exact fun _ _ _ h => h
      case hw69 => rfl
      try simp only [Act.put, List.setIfInBounds_toArray, List.set_cons_zero, List.set_cons_succ]
      refine wpAnyH_take (i := 30) (oi := ?oi70) (v := undef) ?hi70 (by kernel_rfl) (by kernel_rfl) (by kernel_rfl) ?hQ70 (Or.inr ⟨?hw70, rfl⟩) (by assumption) ?_
      case hi70 => (simp only [List.getElem?_toArray, List.getElem?_cons_zero, List.getElem?_cons_succ]; rfl)
      case hQ70 => exact fun _ _ _ h => h
      case hw70 => rfl
      try simp only [Act.put, List.setIfInBounds_toArray, List.set_cons_zero, List.set_cons_succ]
      refine wpAnyH_take (i := 31) (oi := ?oi71) (v := undef) ?hi71 (by kernel_rfl) (by kernel_rfl) (by kernel_rfl) ?hQ71 (Or.inr ⟨?hw71, rfl⟩) (by assumption) ?_
      case hi71 => (simp only [List.getElem?_toArray, List.getElem?_cons_zero, List.getElem?_cons_succ]; rfl)
      case hQ71 => exact fun _ _ _ h => h
      case hw71 => rfl
      try simp only [Act.put, List.setIfInBounds_toArray, List.set_cons_zero, List.set_cons_succ]
      refine wpAnyH_take (i := 32) (oi := ?oi72) (v := undef) ?hi72 (by kernel_rfl) (by kernel_rfl) (by kernel_rfl) ?hQ72 (Or.inr ⟨?hw72, rfl⟩) (by assumption) ?_
      case hi72 => (simp only [List.getElem?_toArray, List.getElem?_cons_zero, List.getElem?_cons_succ]; rfl)
      case hQ72 => exact fun _ _ _ h => h
      case hw72 => rfl
      try simp only [Act.put, List.setIfInBounds_toArray, List.set_cons_zero, List.set_cons_succ]
      refine wpAnyH_take (i := 33) (oi := ?oi73) (v := undef) ?hi73 (by kernel_rfl) (by kernel_rfl) (by kernel_rfl) ?hQ73 (Or.inr ⟨?hw73, rfl⟩) (by assumption) ?_
      case hi73 => (simp only [List.getElem?_toArray, List.getElem?_cons_zero, List.getElem?_cons_succ]; rfl)
      case hQ73 => exact fun _ _ _ h => h
      case hw73 => rfl
      try simp only [Act.put, List.setIfInBounds_toArray, List.set_cons_zero, List.set_cons_succ]
      refine wpAnyH_take (i := 34) (oi := ?oi74) (v := undef) ?hi74 (by kernel_rfl) (by kernel_rfl) (by kernel_rfl) ?hQ74 (Or.inr ⟨?hw74, rfl⟩) (by assumption) ?_
      case hi74 => (simp only [List.getElem?_toArray, List.getElem?_cons_zero, List.getElem?_cons_succ]; rfl)
      case hQ74 => exact fun _ _ _ h => h
      case hw74 => rfl
      try simp only [Act.put, List.setIfInBounds_toArray, List.set_cons_zero, List.set_cons_succ]
      refine wpAnyH_take (i := 35) (oi := ?oi75) (v := undef) ?hi75 (by kernel_rfl) (by kernel_rfl) (by kernel_rfl) ?hQ75 (Or.inr ⟨?hw75, rfl⟩) (by assumption) ?_
      case hi75 => (simp only [List.getElem?_toArray, List.getElem?_cons_zero, List.getElem?_cons_succ]; rfl)
      case hQ75 => exact fun _ _ _ h => h
      case hw75 => rfl
      try simp only [Act.put, List.setIfInBounds_toArray, List.set_cons_zero, List.set_cons_succ]
      refine wpAnyH_take (i := 36) (oi := ?oi76) (v := undef) ?hi76 (by kernel_rfl) (by kernel_rfl) (by kernel_rfl) ?hQ76 (Or.inr ⟨?hw76, rfl⟩) (by assumption) ?_
      case hi76 => (simp only [List.getElem?_toArray, List.getElem?_cons_zero, List.getElem?_cons_succ]; rfl)
      case hQ76 => exact fun _ _ _ h => h
      case hw76 => rfl
      try simp only [Act.put, List.setIfInBounds_toArray, List.set_cons_zero, List.set_cons_succ]
      refine wpAnyH_take (i := 37) (oi := ?oi77) (v := ?v77) ?hi77 (by kernel_rfl) (by kernel_rfl) (by kernel_rfl) ?hQ77 (Or.inl ⟨?hw77, ?hy77⟩) (by assumption) ?_
      case hi77 => (simp only [List.getElem?_toArray, List.getElem?_cons_zero, List.getElem?_cons_succ]; rfl)
      case hQ77 => exact fun _ _ _ h => h
      case hw77 => rfl
      case hy77 => (intro wq hSw; (try dsimp only at hSw); go_simp; try with_reducible rfl)
      try simp only [Act.put, List.setIfInBounds_toArray, List.set_cons_zero, List.set_cons_succ]
      refine wpAnyH_take (i := 38) (oi := ?oi78) (v := ?v78) ?hi78 (by kernel_rfl) (by kernel_rfl) (by kernel_rfl) ?hQ78 (Or.inl ⟨?hw78, ?hy78⟩) (by assumption) ?_
      case hi78 => (simp only [List.getElem?_toArray, List.getElem?_cons_zero, List.getElem?_cons_succ]; rfl)
      case hQ78 => exact fun _ _ _ h => h
      case hw78 => rfl
      case hy78 => (intro wq hSw; (try dsimp only at hSw); go_simp; try with_reducible rfl)
      try simp only [Act.put, List.setIfInBounds_toArray, List.set_cons_zero, List.set_cons_succ]
      refine wpAnyH_done (by kernel_rfl) ?_ _
      go_wp2_with fail
      refine (KM.out _).mono ?_
      rintro r w6 ⟨rfl, b⟩
      have J := Lib.hid (J.out.below b)
      clear b s0 s1
      obtain ⟨s0, s1, _, _⟩ := J.out.tail.tail.head.two
      go_wp2_with fail
      refine (KR.out _).mono ?_
      rintro r w7 ⟨rfl, b⟩
      have J := Lib.hid (J.out.below b)
      clear b s0 s1
      obtain ⟨s0, s1, _, _⟩ := J.out.tail.tail.head.two
      go_wp2
      go_ret
      exact ⟨rfl, J.out.2.1⟩

set_option maxRecDepth 100000 in
theorem lifted (os : Os) (started : os.Started) (H : Type) (enc : TypeId × Value → H) :
    ReturnsInHanded {} Tryd.checked os 3 .any (fun w args => (Rows.scoreMakesSpec.pre enc Tryd.prog Tryd.f3 [] false w args ∧ laidMetH Tryd.prog lst13 w) ∧ sizedMet enc Tryd.prog Tryd.f3 (OpenSpec.ofChange Rows.scoreMakesSpec) false w args) (Rows.scoreMakesSpec.post enc Tryd.prog Tryd.f3 false true false false) := by
  refine returnsInHanded_of_change_and (C := Tryd.checked) (X := fun w _ => laidMetH Tryd.prog lst13 w) (fun _ _ _ hh h => h.of_heap hh) own started (by kernel_rfl) Tryd.func3
    (ChangeSpec.witness_shaped (enc := enc) (C := Tryd.checked) (os := os) (X := fun w _ => laidMetH Tryd.prog lst13 w) false (World.doorLaid Tryd.prog 400 os) #[.int .i64 0, .int .i64 0, .agg #[.int .i64 0, .int .i64 0]] 8 rfl (World.shaped_of_RefB (by kernel_rfl) (by kernel_rfl)) (by kernel_rfl) (by kernel_rfl) (by kernel_rfl) (door_met13 os _)) ?_
  intro W base args ds gs before hval0 hW _ _ hL _
  have hT := tab_of13 hL
  have hval : ∀ (j : Nat) t v, Tryd.f3.params[j]? = some t → args[j]? = some v → Value.okWide Tryd.prog W .any base t v := hval0
  have hW' := hW
  obtain ⟨p, q, hA0, hV, rfl, hfz, hnd⟩ := hW
  obtain ⟨rfl, rfl⟩ := trodVars_none hV
  have hA : DataW.TrodAll enc Tryd.prog W 0 (fun _ => true) true Tryd.f3.params.toList args.toList ds p := hA0
  rw [Tryd.params3] at hA hval
  obtain ⟨v0, vs0, d0, ds0, p0, q0, hargs, rfl, rfl, h0, r0⟩ := trodAll_cons hA
  obtain ⟨v1, vs1, d1, ds1, p1, q1, rfl, rfl, rfl, h1, r1⟩ := trodAll_cons r0
  obtain ⟨v2, vs2, d2, ds2, p2, q2, rfl, rfl, rfl, h2, r2⟩ := trodAll_cons r1
  obtain ⟨rfl, rfl, rfl⟩ := trodAll_nil r2
  obtain rfl : args = #[v0, v1, v2] := by cases args; simp_all
  obtain ⟨a0, rfl, _, _, w0⟩ := open_int Tryd.underlying3 (hval 0 3 v0 rfl rfl) h0
  obtain ⟨a1, rfl, _, _, w1⟩ := open_int Tryd.underlying3 (hval 1 3 v1 rfl rfl) h1
  obtain ⟨a2, b2, rfl, w2, z2⟩ := open_two Tryd.underlying23 Tryd.underlying3 Tryd.underlying3 (by kernel_rfl) (by kernel_rfl) (hval 2 23 v2 rfl rfl) h2
  refine (walk a0 (i64_of_wf w0) a1 (i64_of_wf w1) a2 b2 (i64_of_wf w2) (i64_of_wf z2) W hT).mono fun e W' ⟨he, hg⟩ => ?_
  subst he
  exact ⟨_, rfl, law_post laid (by rw [Tryd.params3]; exact (by decide +kernel)) rfl (by kernel_rfl) Tryd.underlying4 rfl hW' hg⟩

theorem over : Rows.scoreMakesRow.holds Tryd.pinned (OpenSpec.ofChange Rows.scoreMakesSpec) :=
  OpenClaim.holds_of_wide 3 Tryd.f3 rfl rfl rfl rfl rfl rfl rfl ⟨rfl, rfl, rfl, rfl, rfl⟩ rfl rfl rfl rfl rfl (by kernel_rfl) Tryd.func3 (by kernel_rfl)
    (of_decide_eq_true (by kernel_rfl)) (by unfold Func.isWrapper; first | (rw [if_pos (by decide +kernel)]; kernel_rfl) | (rw [if_neg (by decide +kernel)]; exact ⟨rfl, rfl⟩))
    (fun os started H enc _ => lifted os started H enc)
theorem proved : Rows.ScoreMakesCardSaid :=
  Claim7.holds_tied_plain_at .later [] [.data, .data, .data, .sentinel, .sentinel] true Rows.scoreMakesCard.stood.harness true
    over (fun _ h => by cases h) (by kernel_rfl) (fun _ h => by cases h) scoreMakes_row_tie rfl ⟨rfl, rfl⟩ (by kernel_rfl) rfl
    (fun f fn hf hfn => by
      obtain rfl : f = 3 := Option.some.inj ((show Tryd.prog.funcNamed Rows.scoreMakesRow.func = some 3 by kernel_rfl).symm.trans hf) |>.symm
      obtain rfl : fn = Tryd.f3 := (Option.some.inj (Tryd.func3.symm.trans hfn)).symm
      exact ⟨by kernel_rfl, fun j t ht => by
        rw [Tryd.params3] at ht
        have hm : t ∈ [3, 3, 23] := by simpa using Array.mem_of_getElem? ht
        have hall : ([3, 3, 23].all fun u => !Tryd.prog.wantsStandIn u) = true := by kernel_rfl
        exact (show Tryd.prog.wantsStandIn t = false by simpa using List.all_eq_true.1 hall t hm)⟩)
    (by kernel_rfl)
end Go.Proofs.YtiepfkhbebdkeaaDoor.scoreMakes
