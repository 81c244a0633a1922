import Derived.Test.YteenemdiokajbaaTreeE

/-! Layer 10: an inner node. -/
namespace Go.Proofs.Yteenemdiokajbaa
open Go.RowKit
set_option linter.unusedVariables false
set_option linter.unusedSimpArgs false
theorem Kpc.swap {B : Nat} {W w : World} {x y : Nat × Array Value × TypeId} {l : List (Nat × Array Value × TypeId)} (h : Kpc B W (x :: y :: l) w) : Kpc B W (y :: x :: l) w := by
  refine ⟨fun z hz => h.1 z ?_, h.2⟩
  rcases List.mem_cons.1 hz with rfl | hz
  · exact List.mem_cons_of_mem _ List.mem_cons_self
  · rcases List.mem_cons.1 hz with rfl | hz
    · exact List.mem_cons_self
    · exact List.mem_cons_of_mem _ (List.mem_cons_of_mem _ hz)


set_option maxRecDepth 100000 in
set_option maxHeartbeats 8000000 in
theorem inner_good (N : List TN) (S : List (Int × Int)) (dim : Int) (A : Option Addr) (c B g i : Nat) (w : World) (hl : N.length ≤ 1000) (hA : LiesT w B A N) (hB : B ≤ w.heap.size) (hi : i < N.length) (hS : OwnS w g S) (hSl : S.length = N.length) (hlast : ¬ (i : Int) = N.length - 1) (hlf : (N.getD i tn0).lf = (i : Int) + 1) (r : Nat) (hrt : (N.getD i tn0).rt = r) (hsp : (S.getD (i + 1) (0, 0)).1 = r) (hr : r < N.length) (hco : (N.getD i tn0).co.length ≤ (N.getD i tn0).c) (hcl : ((N.getD i tn0).co.length : Int) ≤ 9223372036854775807) (hd1 : 0 ≤ (S.getD (i + 1) (0, 0)).2 ∧ (S.getD (i + 1) (0, 0)).2 ≤ 1000) (hd2 : 0 ≤ (S.getD r (0, 0)).2 ∧ (S.getD r (0, 0)).2 ≤ 1000) (hz1 : 0 ≤ (N.getD (i + 1) tn0).sz ∧ (N.getD (i + 1) tn0).sz ≤ 6400000) (hz2 : 0 ≤ (N.getD r tn0).sz ∧ (N.getD r tn0).sz ≤ 6400000) :
    Calls Try.prog 78 #[.agg #[.int .i64 dim, .slice A N.length c], .int .i64 i, .slice (some ⟨g, 0, none⟩) N.length N.length] w fun e w' => e = .returned (.tuple #[.agg #[.int .i64 (S.getD r (0, 0)).1, .int .i64 (1 + max (S.getD (i + 1) (0, 0)).2 (S.getD r (0, 0)).2)], .bool (isC (N.getD i tn0).co (N.getD i tn0).lv dim && decide ((N.getD i tn0).sz = (N.getD (i + 1) tn0).sz + (N.getD r tn0).sz))]) ∧ Below w.heap.size w w' := by
  have HX := Lib.hid (((Kpc.start w).alloc #[.int .i64 dim, .slice A N.length c] 24).alloc #[.int .i64 0, .int .i64 0] 121)
  rw [alloc_size'] at HX
  obtain ⟨ad1, e1, _, ⟨c0, c1, c2, c3, c4⟩, hli⟩ := (hA.below (HX.out.2.1.mono hB)).at hi
  subst e1
  have HZ := Lib.hid (HX.out.alloc #[.slice none 0 0, .int .i64 0, .int .i64 0, .int .i64 0, .int .i64 0] 81)
  obtain ⟨ad2, e2, _, ⟨d0, d1, d2, d3, d4⟩, _⟩ := (hA.below (HZ.out.2.1.mono hB)).at hi
  cases e2
  have HSA := Lib.hid (fun W (h : Below w.heap.size w W) k (hk : k < N.length) => (show OwnS W g S from Box.below hS h hS.lt).at (k := k) (by omega))
  obtain ⟨x0, x1⟩ := box_cut HX.out.head
  obtain ⟨y0, y1⟩ := box_cut HX.out.tail.head
  have hli0 := hA.2 _ (mem_tn hi)
  have KI := Lib.hid (fun W (h : Below w.heap.size w W) => cut_Is (N.getD i tn0).a (N.getD i tn0).co (N.getD i tn0).c B (N.getD i tn0).lv dim W (hli0.below (h.mono hB)) (Nat.le_trans hB h.size) hcl hco)
  have HS4 : Hid (∀ W (h : Below w.heap.size w W) k (hk : k < N.length), W.cell? ⟨(ad1.add (k * 5)).block, (ad1.add (k * 5)).off + 4, none⟩ = some (.int .i64 (N.getD k tn0).sz)) := fun W h k hk => by
    obtain ⟨ad', e, _, ⟨_, _, _, _, d4⟩, _⟩ := (hA.below (h.mono hB)).at hk
    cases e; exact d4
  have S4A := Lib.hid (fun W h => HS4.out W h (i + 1) (by omega))
  have S4B := Lib.hid (fun W h => HS4.out W h r hr)
  generalize (N.getD (i + 1) tn0).sz = za at *
  generalize (N.getD r tn0).sz = zb at *
  clear hli0 HS4
  have SQ := Lib.hid (fun W h => HSA.out W h (i + 1) (by omega))
  have SR := Lib.hid (fun W h => HSA.out W h r (by omega))
  generalize S.getD (i + 1) (0, 0) = sp at *
  generalize S.getD r (0, 0) = sq at *
  generalize N.getD i tn0 = n at *
  obtain ⟨na, nc, nco, nlv, nlf, nrt, nsz⟩ := n
  simp only at *
  obtain ⟨v0, v1⟩ := box_cut HZ.out.tail.tail.head
  clear hA hS
  subst hlf
  subst hrt
  generalize nco.length = L at *
  generalize hM : N.length = M at *
  clear hM
  have hg : (i : Int) < (M : Int) := by omega
  have hq : ((i : Int) == (M : Int) - 1) = false := by rw [beq_eq_false_iff_ne]; exact hlast
  have hq2 : decide ((i : Int) = (M : Int) - 1) = false := decide_eq_false hlast
  have hq3 : ¬ (i : Int) = (M : Int) - 1 := hlast
  have hwi := i64wT (i := i) (by omega)
  clear hlast
  obtain ⟨sa, sb⟩ := sp
  obtain ⟨sc, sd⟩ := sq
  simp only at hsp SQ SR
  subst hsp
  have hf1 : ((i : Int) + 1 != (i : Int) + 1) = false := by simp
  have hr1 : ((r : Int) != (r : Int)) = false := by simp
  have hov : decide ((M : Int) - 1 < (r : Int)) = false := by simp; omega
  have hov2 : ¬ (M : Int) - 1 < (r : Int) := by omega
  have t1 : (i : Int) + 1 < (M : Int) := by omega
  have t0 : (0 : Int) ≤ (i : Int) + 1 := by omega
  have t2 : ((i : Int) + 1).toNat = i + 1 := by omega
  have t3 : (r : Int) < (M : Int) := by omega
  generalize isC nco nlv dim = R at *
  have hzw : Hid (IntKind.i64.wrap (za + zb) = za + zb) := by show _ = _; simp [IntKind.wrap, IntKind.bits, IntKind.signed]; omega
  go_enter Try.func78, Try.ntmps78
  go_wp2
  go_region
  have J0 := Lib.hid (HX.out.alloc #[.slice na L nc, .int .i64 nlv, .int .i64 ((i : Int) + 1), .int .i64 (r : Int), .int .i64 nsz] 81)
  have J := Lib.hid J0.out.drew
  rw [alloc_size', alloc_size'] at J
  clear J0
  generalize ((((w.alloc (.cells #[.int .i64 dim, .slice (some ad1) M c] 24)).alloc (.cells #[.int .i64 0, .int .i64 0] 121)).alloc (.cells #[.slice na L nc, .int .i64 nlv, .int .i64 ((i : Int) + 1), .int .i64 (r : Int), .int .i64 nsz] 81)).drew) = W1 at *
  obtain ⟨z0, z1, z2, z3, z4⟩ := box5' J.out.head
  obtain ⟨x0, x1, xf0, xf1⟩ := J.out.tail.head.two
  obtain ⟨y0, y1⟩ := box_cut J.out.tail.tail.head
  obtain ⟨s0, s1⟩ := SQ.out _ J.out.2.1
  go_wp2
  go_quiet (fail)
  have J := Lib.hid (J.out.drewN nq)
  generalize hW2 : W1.drewN nq = W2 at *
  clear hW2 s0 s1 z0 z1 z2 z3 z4 x0 x1 xf0 xf1 y0 y1
  obtain ⟨z0, z1, z2, z3, z4⟩ := box5' J.out.head
  obtain ⟨s0, s1⟩ := SQ.out _ J.out.2.1
  obtain ⟨r0, r1⟩ := SR.out _ J.out.2.1
  go_upto_region 4 with fail
  go_cut [10, 11] from 50 (fun s10 s11 wc => ∃ gl gr : Nat, s10 = .pointer (some ⟨gl, 0, none⟩) ∧ s11 = .pointer (some ⟨gr, 0, none⟩) ∧ Hid (Kpc w.heap.size w [(gr, #[.int .i64 sc, .int .i64 sd], 121), (gl, #[.int .i64 (r : Int), .int .i64 sb], 121), (w.heap.size + 1 + 1, #[.slice na L nc, .int .i64 nlv, .int .i64 ((i : Int) + 1), .int .i64 (r : Int), .int .i64 nsz], 81), (w.heap.size + 1, #[.int .i64 0, .int .i64 0], 121), (w.heap.size, #[.int .i64 dim, .slice (some ad1) M c], 24)] wc))
  case first =>
    have JZ := Lib.hid (J.out.alloc #[.int .i64 0, .int .i64 0] 121)
    obtain ⟨_, _, z2Z, z3Z, _⟩ := box5' JZ.out.tail.head
    obtain ⟨s0Z, s1Z⟩ := SQ.out _ JZ.out.2.1
    obtain ⟨r0Z, r1Z⟩ := SR.out _ JZ.out.2.1
    have JZZ := Lib.hid (JZ.out.alloc #[.int .i64 0, .int .i64 0] 121)
    obtain ⟨_, _, z2ZZ, z3ZZ, _⟩ := box5' JZZ.out.tail.tail.head
    obtain ⟨s0ZZ, s1ZZ⟩ := SQ.out _ JZZ.out.2.1
    obtain ⟨r0ZZ, r1ZZ⟩ := SR.out _ JZZ.out.2.1
    have JZL := Lib.hid (JZ.out.alloc #[.int .i64 (r : Int), .int .i64 sb] 121)
    obtain ⟨_, _, z2ZL, z3ZL, _⟩ := box5' JZL.out.tail.tail.head
    obtain ⟨s0ZL, s1ZL⟩ := SQ.out _ JZL.out.2.1
    obtain ⟨r0ZL, r1ZL⟩ := SR.out _ JZL.out.2.1
    have JZR := Lib.hid (JZ.out.alloc #[.int .i64 sc, .int .i64 sd] 121)
    obtain ⟨_, _, z2ZR, z3ZR, _⟩ := box5' JZR.out.tail.tail.head
    obtain ⟨s0ZR, s1ZR⟩ := SQ.out _ JZR.out.2.1
    obtain ⟨r0ZR, r1ZR⟩ := SR.out _ JZR.out.2.1
    have JL := Lib.hid (J.out.alloc #[.int .i64 (r : Int), .int .i64 sb] 121)
    obtain ⟨_, _, z2L, z3L, _⟩ := box5' JL.out.tail.head
    obtain ⟨s0L, s1L⟩ := SQ.out _ JL.out.2.1
    obtain ⟨r0L, r1L⟩ := SR.out _ JL.out.2.1
    have JLZ := Lib.hid (JL.out.alloc #[.int .i64 0, .int .i64 0] 121)
    obtain ⟨_, _, z2LZ, z3LZ, _⟩ := box5' JLZ.out.tail.tail.head
    obtain ⟨s0LZ, s1LZ⟩ := SQ.out _ JLZ.out.2.1
    obtain ⟨r0LZ, r1LZ⟩ := SR.out _ JLZ.out.2.1
    have JLR := Lib.hid (JL.out.alloc #[.int .i64 sc, .int .i64 sd] 121)
    obtain ⟨_, _, z2LR, z3LR, _⟩ := box5' JLR.out.tail.tail.head
    obtain ⟨s0LR, s1LR⟩ := SQ.out _ JLR.out.2.1
    obtain ⟨r0LR, r1LR⟩ := SR.out _ JLR.out.2.1
    have JR := Lib.hid (J.out.alloc #[.int .i64 sc, .int .i64 sd] 121)
    obtain ⟨_, _, z2R, z3R, _⟩ := box5' JR.out.tail.head
    obtain ⟨s0R, s1R⟩ := SQ.out _ JR.out.2.1
    obtain ⟨r0R, r1R⟩ := SR.out _ JR.out.2.1
    have JRZ := Lib.hid (JR.out.alloc #[.int .i64 0, .int .i64 0] 121)
    obtain ⟨_, _, z2RZ, z3RZ, _⟩ := box5' JRZ.out.tail.tail.head
    obtain ⟨s0RZ, s1RZ⟩ := SQ.out _ JRZ.out.2.1
    obtain ⟨r0RZ, r1RZ⟩ := SR.out _ JRZ.out.2.1
    have JRL := Lib.hid (JR.out.alloc #[.int .i64 (r : Int), .int .i64 sb] 121)
    obtain ⟨_, _, z2RL, z3RL, _⟩ := box5' JRL.out.tail.tail.head
    obtain ⟨s0RL, s1RL⟩ := SQ.out _ JRL.out.2.1
    obtain ⟨r0RL, r1RL⟩ := SR.out _ JRL.out.2.1
    go_region
    · have J := Lib.hid (JLR.out.drew)
      rw [alloc_size'] at J
      go_wp2_with fail
      go_meet
      exact ⟨_, _, rfl, rfl, J⟩
    · have J := Lib.hid (JRL.out.drew.swap)
      rw [alloc_size'] at J
      go_wp2_with fail
      go_meet
      exact ⟨_, _, rfl, rfl, J⟩
  case rest =>
    clear z0 z1 z2 z3 z4 s0 s1 r0 r1 J
    obtain ⟨gl, gr, rfl, rfl, J⟩ := hcut
    go_upto_region 5 with fail
    go_cut [12] from 60 (fun s12 wc => s12 = .bool (R && decide (nsz = za + zb)) ∧ Hid (Kpc w.heap.size w [(gr, #[.int .i64 sc, .int .i64 sd], 121), (gl, #[.int .i64 (r : Int), .int .i64 sb], 121), (w.heap.size + 1 + 1, #[.slice na L nc, .int .i64 nlv, .int .i64 ((i : Int) + 1), .int .i64 (r : Int), .int .i64 nsz], 81), (w.heap.size + 1, #[.int .i64 0, .int .i64 0], 121), (w.heap.size, #[.int .i64 dim, .slice (some ad1) M c], 24)] wc))
    case first =>
      have J := Lib.hid J.out.drew
      obtain ⟨z0, z1, z2, z3, z4⟩ := box5' J.out.tail.tail.head
      obtain ⟨y0, y1⟩ := box_cut J.out.tail.tail.tail.tail.head
      have p1 := S4A.out _ J.out.2.1
      have p2 := S4B.out _ J.out.2.1
      cases R
      · refine wp_region_held_drew (S := (fun W : World => W.cell? ⟨w.heap.size + 1 + 1, 0, none⟩ = some (.slice na L nc) ∧ W.cell? ⟨w.heap.size + 1 + 1, 1, none⟩ = some (.int .i64 nlv) ∧ W.cell? ⟨w.heap.size, 0, none⟩ = some (.int .i64 dim) ∧ W.cell? ⟨w.heap.size, 1, none⟩ = some (.slice (some ad1) M c) ∧ W.cell? ⟨w.heap.size + 1 + 1, 2, none⟩ = some (.int .i64 ((i : Int) + 1)) ∧ W.cell? ⟨w.heap.size + 1 + 1, 3, none⟩ = some (.int .i64 r) ∧ W.cell? ⟨w.heap.size + 1 + 1, 4, none⟩ = some (.int .i64 nsz) ∧ W.cell? ⟨(ad1.add ((i + 1) * 5)).block, (ad1.add ((i + 1) * 5)).off + 4, none⟩ = some (.int .i64 za) ∧ W.cell? ⟨(ad1.add (r * 5)).block, (ad1.add (r * 5)).off + 4, none⟩ = some (.int .i64 zb))) (by kernel_rfl) (by exact ⟨z0, z1, y0, y1, z2, z3, z4, p1, p2⟩) (fun hHeld => ?_)
        refine wpAnyH_take (i := 0) (oi := ?oi1) (v := ?v1) ?hi1 (by kernel_rfl) (by kernel_rfl) (by kernel_rfl) ?hQ1 (Or.inl ⟨?hw1, ?hy1⟩) (by assumption) ?_
        case hi1 => (simp only [List.getElem?_toArray, List.getElem?_cons_zero, List.getElem?_cons_succ]; rfl)
        case hQ1 => exact fun _ _ _ h => h
        case hw1 => rfl
        case hy1 => (intro wq hSw; (try dsimp only at hSw); go_simp; try with_reducible rfl)
        try simp only [Act.put, List.setIfInBounds_toArray, List.set_cons_zero, List.set_cons_succ]
        refine wpAnyH_take (i := 1) (oi := ?oi2) (v := ?v2) ?hi2 (by kernel_rfl) (by kernel_rfl) (by kernel_rfl) ?hQ2 (Or.inl ⟨?hw2, ?hy2⟩) (by assumption) ?_
        case hi2 => (simp only [List.getElem?_toArray, List.getElem?_cons_zero, List.getElem?_cons_succ]; rfl)
        case hQ2 => exact fun _ _ _ h => h
        case hw2 => rfl
        case hy2 => (intro wq hSw; (try dsimp only at hSw); go_simp; try with_reducible rfl)
        try simp only [Act.put, List.setIfInBounds_toArray, List.set_cons_zero, List.set_cons_succ]
        refine wpAnyH_take (i := 2) (oi := ?oi3) (v := ?v3) ?hi3 (by kernel_rfl) (by kernel_rfl) (by kernel_rfl) ?hQ3 (Or.inl ⟨?hw3, ?hy3⟩) (by assumption) ?_
        case hi3 => (simp only [List.getElem?_toArray, List.getElem?_cons_zero, List.getElem?_cons_succ]; rfl)
        case hQ3 => exact fun _ _ _ h => h
        case hw3 => rfl
        case hy3 => (intro wq hSw; (try dsimp only at hSw); go_simp; try with_reducible rfl)
        try simp only [Act.put, List.setIfInBounds_toArray, List.set_cons_zero, List.set_cons_succ]
        refine wpAnyH_take (i := 3) (oi := ?oi4) (v := ?v4) ?hi4 (by kernel_rfl) (by kernel_rfl) (by kernel_rfl) ?hQ4 (Or.inl ⟨?hw4, ?hy4⟩) (by assumption) ?_
        case hi4 => (simp only [List.getElem?_toArray, List.getElem?_cons_zero, List.getElem?_cons_succ]; rfl)
        case hQ4 => exact fun _ _ _ h => h
        case hw4 => rfl
        case hy4 => (intro wq hSw; (try dsimp only at hSw); go_simp; try with_reducible rfl)
        try simp only [Act.put, List.setIfInBounds_toArray, List.set_cons_zero, List.set_cons_succ]
        refine wpAnyH_ready (rs := [4]) (by kernel_rfl) (by simp) ?_
        refine AllReadyH.cons (o := ?o5) ?ho5 (fun K hK => ?_) AllReadyH.nil
        case ho5 => (simp only [List.getElem?_toArray, List.getElem?_cons_zero, List.getElem?_cons_succ]; rfl)
        go_simp
        go_at_call 81
        have hj := J.out.2.1
        with_reducible refine (KI.out _ hj).mono ?_
        clear hj
        rintro e w4 ⟨rfl, b⟩
        have J := Lib.hid (J.out.below b)
        clear b z0 z1 z2 z3 z4 y0 y1 p1 p2
        obtain ⟨z0, z1, z2, z3, z4⟩ := box5' J.out.tail.tail.head
        obtain ⟨y0, y1⟩ := box_cut J.out.tail.tail.tail.tail.head
        have p1 := S4A.out _ J.out.2.1
        have p2 := S4B.out _ J.out.2.1
        try go_wp2_with fail
        refine hK.out _ _ (by exact ⟨z0, z1, y0, y1, z2, z3, z4, p1, p2⟩) (fun hHeld => ?_)
        clear hK
        try simp only [Act.put, List.setIfInBounds_toArray, List.set_cons_zero, List.set_cons_succ]
        refine wpAnyH_take (i := 5) (oi := ?oi6) (v := ?v6) ?hi6 (by kernel_rfl) (by kernel_rfl) (by kernel_rfl) ?hQ6 (Or.inl ⟨?hw6, ?hy6⟩) (by assumption) ?_
        case hi6 => (simp only [List.getElem?_toArray, List.getElem?_cons_zero, List.getElem?_cons_succ]; rfl)
        case hQ6 => exact fun _ _ _ h => h
        case hw6 => rfl
        case hy6 => (intro wq hSw; (try dsimp only at hSw); go_simp; try with_reducible rfl)
        try simp only [Act.put, List.setIfInBounds_toArray, List.set_cons_zero, List.set_cons_succ]
        refine wpAnyH_take (i := 6) (oi := ?oi7) (v := undef) ?hi7 (by kernel_rfl) (by kernel_rfl) (by kernel_rfl) ?hQ7 (Or.inr ⟨?hw7, rfl⟩) (by assumption) ?_
        case hi7 => (simp only [List.getElem?_toArray, List.getElem?_cons_zero, List.getElem?_cons_succ]; rfl)
        case hQ7 => exact fun _ _ _ h => h
        case hw7 => rfl
        try simp only [Act.put, List.setIfInBounds_toArray, List.set_cons_zero, List.set_cons_succ]
        refine wpAnyH_take (i := 7) (oi := ?oi8) (v := undef) ?hi8 (by kernel_rfl) (by kernel_rfl) (by kernel_rfl) ?hQ8 (Or.inr ⟨?hw8, rfl⟩) (by assumption) ?_
        case hi8 => (simp only [List.getElem?_toArray, List.getElem?_cons_zero, List.getElem?_cons_succ]; rfl)
        case hQ8 => exact fun _ _ _ h => h
        case hw8 => rfl
        try simp only [Act.put, List.setIfInBounds_toArray, List.set_cons_zero, List.set_cons_succ]
        refine wpAnyH_take (i := 8) (oi := ?oi9) (v := undef) ?hi9 (by kernel_rfl) (by kernel_rfl) (by kernel_rfl) ?hQ9 (Or.inr ⟨?hw9, rfl⟩) (by assumption) ?_
        case hi9 => (simp only [List.getElem?_toArray, List.getElem?_cons_zero, List.getElem?_cons_succ]; rfl)
        case hQ9 => exact fun _ _ _ h => h
        case hw9 => rfl
        try simp only [Act.put, List.setIfInBounds_toArray, List.set_cons_zero, List.set_cons_succ]
        refine wpAnyH_take (i := 9) (oi := ?oi10) (v := undef) ?hi10 (by kernel_rfl) (by kernel_rfl) (by kernel_rfl) ?hQ10 (Or.inr ⟨?hw10, rfl⟩) (by assumption) ?_
        case hi10 => (simp only [List.getElem?_toArray, List.getElem?_cons_zero, List.getElem?_cons_succ]; rfl)
        case hQ10 => exact fun _ _ _ h => h
        case hw10 => rfl
        try simp only [Act.put, List.setIfInBounds_toArray, List.set_cons_zero, List.set_cons_succ]
        refine wpAnyH_take (i := 10) (oi := ?oi11) (v := undef) ?hi11 (by kernel_rfl) (by kernel_rfl) (by kernel_rfl) ?hQ11 (Or.inr ⟨?hw11, rfl⟩) (by assumption) ?_
        case hi11 => (simp only [List.getElem?_toArray, List.getElem?_cons_zero, List.getElem?_cons_succ]; rfl)
        case hQ11 => exact fun _ _ _ h => h
        case hw11 => rfl
        try simp only [Act.put, List.setIfInBounds_toArray, List.set_cons_zero, List.set_cons_succ]
        refine wpAnyH_take (i := 11) (oi := ?oi12) (v := undef) ?hi12 (by kernel_rfl) (by kernel_rfl) (by kernel_rfl) ?hQ12 (Or.inr ⟨?hw12, rfl⟩) (by assumption) ?_
        case hi12 => (simp only [List.getElem?_toArray, List.getElem?_cons_zero, List.getElem?_cons_succ]; rfl)
        case hQ12 => exact fun _ _ _ h => h
        case hw12 => rfl
        try simp only [Act.put, List.setIfInBounds_toArray, List.set_cons_zero, List.set_cons_succ]
        refine wpAnyH_take (i := 12) (oi := ?oi13) (v := undef) ?hi13 (by kernel_rfl) (by kernel_rfl) (by kernel_rfl) ?hQ13 (Or.inr ⟨?hw13, rfl⟩) (by assumption) ?_
        case hi13 => (simp only [List.getElem?_toArray, List.getElem?_cons_zero, List.getElem?_cons_succ]; rfl)
        case hQ13 => exact fun _ _ _ h => h
        case hw13 => rfl
        try simp only [Act.put, List.setIfInBounds_toArray, List.set_cons_zero, List.set_cons_succ]
        refine wpAnyH_take (i := 13) (oi := ?oi14) (v := undef) ?hi14 (by kernel_rfl) (by kernel_rfl) (by kernel_rfl) ?hQ14 (Or.inr ⟨?hw14, rfl⟩) (by assumption) ?_
        case hi14 => (simp only [List.getElem?_toArray, List.getElem?_cons_zero, List.getElem?_cons_succ]; rfl)
        case hQ14 => exact fun _ _ _ h => h
        case hw14 => rfl
        try simp only [Act.put, List.setIfInBounds_toArray, List.set_cons_zero, List.set_cons_succ]
        refine wpAnyH_take (i := 14) (oi := ?oi15) (v := undef) ?hi15 (by kernel_rfl) (by kernel_rfl) (by kernel_rfl) ?hQ15 (Or.inr ⟨?hw15, rfl⟩) (by assumption) ?_
        case hi15 => (simp only [List.getElem?_toArray, List.getElem?_cons_zero, List.getElem?_cons_succ]; rfl)
        case hQ15 => exact fun _ _ _ h => h
        case hw15 => rfl
        try simp only [Act.put, List.setIfInBounds_toArray, List.set_cons_zero, List.set_cons_succ]
        refine wpAnyH_take (i := 15) (oi := ?oi16) (v := undef) ?hi16 (by kernel_rfl) (by kernel_rfl) (by kernel_rfl) ?hQ16 (Or.inr ⟨?hw16, rfl⟩) (by assumption) ?_
        case hi16 => (simp only [List.getElem?_toArray, List.getElem?_cons_zero, List.getElem?_cons_succ]; rfl)
        case hQ16 => exact fun _ _ _ h => h
        case hw16 => rfl
        try simp only [Act.put, List.setIfInBounds_toArray, List.set_cons_zero, List.set_cons_succ]
        refine wpAnyH_take (i := 16) (oi := ?oi17) (v := undef) ?hi17 (by kernel_rfl) (by kernel_rfl) (by kernel_rfl) ?hQ17 (Or.inr ⟨?hw17, rfl⟩) (by assumption) ?_
        case hi17 => (simp only [List.getElem?_toArray, List.getElem?_cons_zero, List.getElem?_cons_succ]; rfl)
        case hQ17 => exact fun _ _ _ h => h
        case hw17 => rfl
        try simp only [Act.put, List.setIfInBounds_toArray, List.set_cons_zero, List.set_cons_succ]
        refine wpAnyH_take (i := 17) (oi := ?oi18) (v := undef) ?hi18 (by kernel_rfl) (by kernel_rfl) (by kernel_rfl) ?hQ18 (Or.inr ⟨?hw18, rfl⟩) (by assumption) ?_
        case hi18 => (simp only [List.getElem?_toArray, List.getElem?_cons_zero, List.getElem?_cons_succ]; rfl)
        case hQ18 => exact fun _ _ _ h => h
        case hw18 => rfl
        try simp only [Act.put, List.setIfInBounds_toArray, List.set_cons_zero, List.set_cons_succ]
        refine wpAnyH_take (i := 18) (oi := ?oi19) (v := undef) ?hi19 (by kernel_rfl) (by kernel_rfl) (by kernel_rfl) ?hQ19 (Or.inr ⟨?hw19, rfl⟩) (by assumption) ?_
        case hi19 => (simp only [List.getElem?_toArray, List.getElem?_cons_zero, List.getElem?_cons_succ]; rfl)
        case hQ19 => exact fun _ _ _ h => h
        case hw19 => rfl
        try simp only [Act.put, List.setIfInBounds_toArray, List.set_cons_zero, List.set_cons_succ]
        refine wpAnyH_take (i := 19) (oi := ?oi20) (v := undef) ?hi20 (by kernel_rfl) (by kernel_rfl) (by kernel_rfl) ?hQ20 (Or.inr ⟨?hw20, rfl⟩) (by assumption) ?_
        case hi20 => (simp only [List.getElem?_toArray, List.getElem?_cons_zero, List.getElem?_cons_succ]; rfl)
        case hQ20 => exact fun _ _ _ h => h
        case hw20 => rfl
        try simp only [Act.put, List.setIfInBounds_toArray, List.set_cons_zero, List.set_cons_succ]
        refine wpAnyH_take (i := 20) (oi := ?oi21) (v := undef) ?hi21 (by kernel_rfl) (by kernel_rfl) (by kernel_rfl) ?hQ21 (Or.inr ⟨?hw21, rfl⟩) (by assumption) ?_
        case hi21 => (simp only [List.getElem?_toArray, List.getElem?_cons_zero, List.getElem?_cons_succ]; rfl)
        case hQ21 => exact fun _ _ _ h => h
        case hw21 => rfl
        try simp only [Act.put, List.setIfInBounds_toArray, List.set_cons_zero, List.set_cons_succ]
        refine wpAnyH_take (i := 21) (oi := ?oi22) (v := undef) ?hi22 (by kernel_rfl) (by kernel_rfl) (by kernel_rfl) ?hQ22 (Or.inr ⟨?hw22, rfl⟩) (by assumption) ?_
        case hi22 => (simp only [List.getElem?_toArray, List.getElem?_cons_zero, List.getElem?_cons_succ]; rfl)
        case hQ22 => exact fun _ _ _ h => h
        case hw22 => rfl
        try simp only [Act.put, List.setIfInBounds_toArray, List.set_cons_zero, List.set_cons_succ]
        refine wpAnyH_take (i := 22) (oi := ?oi23) (v := undef) ?hi23 (by kernel_rfl) (by kernel_rfl) (by kernel_rfl) ?hQ23 (Or.inr ⟨?hw23, rfl⟩) (by assumption) ?_
        case hi23 => (simp only [List.getElem?_toArray, List.getElem?_cons_zero, List.getElem?_cons_succ]; rfl)
        case hQ23 => exact fun _ _ _ h => h
        case hw23 => rfl
        try simp only [Act.put, List.setIfInBounds_toArray, List.set_cons_zero, List.set_cons_succ]
        refine wpAnyH_take (i := 23) (oi := ?oi24) (v := undef) ?hi24 (by kernel_rfl) (by kernel_rfl) (by kernel_rfl) ?hQ24 (Or.inr ⟨?hw24, rfl⟩) (by assumption) ?_
        case hi24 => (simp only [List.getElem?_toArray, List.getElem?_cons_zero, List.getElem?_cons_succ]; rfl)
        case hQ24 => exact fun _ _ _ h => h
        case hw24 => rfl
        try simp only [Act.put, List.setIfInBounds_toArray, List.set_cons_zero, List.set_cons_succ]
        refine wpAnyH_take (i := 24) (oi := ?oi25) (v := ?v25) ?hi25 (by kernel_rfl) (by kernel_rfl) (by kernel_rfl) ?hQ25 (Or.inl ⟨?hw25, ?hy25⟩) (by assumption) ?_
        case hi25 => (simp only [List.getElem?_toArray, List.getElem?_cons_zero, List.getElem?_cons_succ]; rfl)
        case hQ25 => exact fun _ _ _ h => h
        case hw25 => rfl
        case hy25 => (intro wq hSw; (try dsimp only at hSw); go_simp; try with_reducible rfl)
        try simp only [Act.put, List.setIfInBounds_toArray, List.set_cons_zero, List.set_cons_succ]
        refine wpAnyH_take (i := 25) (oi := ?oi26) (v := ?v26) ?hi26 (by kernel_rfl) (by kernel_rfl) (by kernel_rfl) ?hQ26 (Or.inl ⟨?hw26, ?hy26⟩) (by assumption) ?_
        case hi26 => (simp only [List.getElem?_toArray, List.getElem?_cons_zero, List.getElem?_cons_succ]; rfl)
        case hQ26 => exact fun _ _ _ h => h
        case hw26 => rfl
        case hy26 => (intro wq hSw; (try dsimp only at hSw); go_simp; try with_reducible rfl)
        try simp only [Act.put, List.setIfInBounds_toArray, List.set_cons_zero, List.set_cons_succ]
        refine wpAnyH_done (by kernel_rfl) ?_ _
        go_wp2_with fail
        go_meet
        exact ⟨rfl, J⟩
      · refine wp_region_held_drew (S := (fun W : World => W.cell? ⟨w.heap.size + 1 + 1, 0, none⟩ = some (.slice na L nc) ∧ W.cell? ⟨w.heap.size + 1 + 1, 1, none⟩ = some (.int .i64 nlv) ∧ W.cell? ⟨w.heap.size, 0, none⟩ = some (.int .i64 dim) ∧ W.cell? ⟨w.heap.size, 1, none⟩ = some (.slice (some ad1) M c) ∧ W.cell? ⟨w.heap.size + 1 + 1, 2, none⟩ = some (.int .i64 ((i : Int) + 1)) ∧ W.cell? ⟨w.heap.size + 1 + 1, 3, none⟩ = some (.int .i64 r) ∧ W.cell? ⟨w.heap.size + 1 + 1, 4, none⟩ = some (.int .i64 nsz) ∧ W.cell? ⟨(ad1.add ((i + 1) * 5)).block, (ad1.add ((i + 1) * 5)).off + 4, none⟩ = some (.int .i64 za) ∧ W.cell? ⟨(ad1.add (r * 5)).block, (ad1.add (r * 5)).off + 4, none⟩ = some (.int .i64 zb))) (by kernel_rfl) (by exact ⟨z0, z1, y0, y1, z2, z3, z4, p1, p2⟩) (fun hHeld => ?_)
        refine wpAnyH_take (i := 0) (oi := ?oi27) (v := ?v27) ?hi27 (by kernel_rfl) (by kernel_rfl) (by kernel_rfl) ?hQ27 (Or.inl ⟨?hw27, ?hy27⟩) (by assumption) ?_
        case hi27 => (simp only [List.getElem?_toArray, List.getElem?_cons_zero, List.getElem?_cons_succ]; rfl)
        case hQ27 => exact fun _ _ _ h => h
        case hw27 => rfl
        case hy27 => (intro wq hSw; (try dsimp only at hSw); go_simp; try with_reducible rfl)
        try simp only [Act.put, List.setIfInBounds_toArray, List.set_cons_zero, List.set_cons_succ]
        refine wpAnyH_take (i := 1) (oi := ?oi28) (v := ?v28) ?hi28 (by kernel_rfl) (by kernel_rfl) (by kernel_rfl) ?hQ28 (Or.inl ⟨?hw28, ?hy28⟩) (by assumption) ?_
        case hi28 => (simp only [List.getElem?_toArray, List.getElem?_cons_zero, List.getElem?_cons_succ]; rfl)
        case hQ28 => exact fun _ _ _ h => h
        case hw28 => rfl
        case hy28 => (intro wq hSw; (try dsimp only at hSw); go_simp; try with_reducible rfl)
        try simp only [Act.put, List.setIfInBounds_toArray, List.set_cons_zero, List.set_cons_succ]
        refine wpAnyH_take (i := 2) (oi := ?oi29) (v := ?v29) ?hi29 (by kernel_rfl) (by kernel_rfl) (by kernel_rfl) ?hQ29 (Or.inl ⟨?hw29, ?hy29⟩) (by assumption) ?_
        case hi29 => (simp only [List.getElem?_toArray, List.getElem?_cons_zero, List.getElem?_cons_succ]; rfl)
        case hQ29 => exact fun _ _ _ h => h
        case hw29 => rfl
        case hy29 => (intro wq hSw; (try dsimp only at hSw); go_simp; try with_reducible rfl)
        try simp only [Act.put, List.setIfInBounds_toArray, List.set_cons_zero, List.set_cons_succ]
        refine wpAnyH_take (i := 3) (oi := ?oi30) (v := ?v30) ?hi30 (by kernel_rfl) (by kernel_rfl) (by kernel_rfl) ?hQ30 (Or.inl ⟨?hw30, ?hy30⟩) (by assumption) ?_
        case hi30 => (simp only [List.getElem?_toArray, List.getElem?_cons_zero, List.getElem?_cons_succ]; rfl)
        case hQ30 => exact fun _ _ _ h => h
        case hw30 => rfl
        case hy30 => (intro wq hSw; (try dsimp only at hSw); go_simp; try with_reducible rfl)
        try simp only [Act.put, List.setIfInBounds_toArray, List.set_cons_zero, List.set_cons_succ]
        refine wpAnyH_ready (rs := [4]) (by kernel_rfl) (by simp) ?_
        refine AllReadyH.cons (o := ?o31) ?ho31 (fun K hK => ?_) AllReadyH.nil
        case ho31 => (simp only [List.getElem?_toArray, List.getElem?_cons_zero, List.getElem?_cons_succ]; rfl)
        go_simp
        go_at_call 81
        have hj := J.out.2.1
        with_reducible refine (KI.out _ hj).mono ?_
        clear hj
        rintro e w4 ⟨rfl, b⟩
        have J := Lib.hid (J.out.below b)
        clear b z0 z1 z2 z3 z4 y0 y1 p1 p2
        obtain ⟨z0, z1, z2, z3, z4⟩ := box5' J.out.tail.tail.head
        obtain ⟨y0, y1⟩ := box_cut J.out.tail.tail.tail.tail.head
        have p1 := S4A.out _ J.out.2.1
        have p2 := S4B.out _ J.out.2.1
        try go_wp2_with fail
        refine hK.out _ _ (by exact ⟨z0, z1, y0, y1, z2, z3, z4, p1, p2⟩) (fun hHeld => ?_)
        clear hK
        try simp only [Act.put, List.setIfInBounds_toArray, List.set_cons_zero, List.set_cons_succ]
        refine wpAnyH_take (i := 5) (oi := ?oi32) (v := ?v32) ?hi32 (by kernel_rfl) (by kernel_rfl) (by kernel_rfl) ?hQ32 (Or.inl ⟨?hw32, ?hy32⟩) (by assumption) ?_
        case hi32 => (simp only [List.getElem?_toArray, List.getElem?_cons_zero, List.getElem?_cons_succ]; rfl)
        case hQ32 => exact fun _ _ _ h => h
        case hw32 => rfl
        case hy32 => (intro wq hSw; (try dsimp only at hSw); go_simp; try with_reducible rfl)
        try simp only [Act.put, List.setIfInBounds_toArray, List.set_cons_zero, List.set_cons_succ]
        refine wpAnyH_take (i := 6) (oi := ?oi33) (v := ?v33) ?hi33 (by kernel_rfl) (by kernel_rfl) (by kernel_rfl) ?hQ33 (Or.inl ⟨?hw33, ?hy33⟩) (by assumption) ?_
        case hi33 => (simp only [List.getElem?_toArray, List.getElem?_cons_zero, List.getElem?_cons_succ]; rfl)
        case hQ33 => exact fun _ _ _ h => h
        case hw33 => rfl
        case hy33 => (intro wq hSw; (try dsimp only at hSw); go_simp; try with_reducible rfl)
        try simp only [Act.put, List.setIfInBounds_toArray, List.set_cons_zero, List.set_cons_succ]
        refine wpAnyH_take (i := 7) (oi := ?oi34) (v := ?v34) ?hi34 (by kernel_rfl) (by kernel_rfl) (by kernel_rfl) ?hQ34 (Or.inl ⟨?hw34, ?hy34⟩) (by assumption) ?_
        case hi34 => (simp only [List.getElem?_toArray, List.getElem?_cons_zero, List.getElem?_cons_succ]; rfl)
        case hQ34 => exact fun _ _ _ h => h
        case hw34 => rfl
        case hy34 => (intro wq hSw; (try dsimp only at hSw); go_simp; try with_reducible rfl)
        try simp only [Act.put, List.setIfInBounds_toArray, List.set_cons_zero, List.set_cons_succ]
        refine wpAnyH_take (i := 8) (oi := ?oi35) (v := ?v35) ?hi35 (by kernel_rfl) (by kernel_rfl) (by kernel_rfl) ?hQ35 (Or.inl ⟨?hw35, ?hy35⟩) (by assumption) ?_
        case hi35 => (simp only [List.getElem?_toArray, List.getElem?_cons_zero, List.getElem?_cons_succ]; rfl)
        case hQ35 => exact fun _ _ _ h => h
        case hw35 => rfl
        case hy35 => (intro wq hSw; (try dsimp only at hSw); go_simp; try with_reducible rfl)
        try simp only [Act.put, List.setIfInBounds_toArray, List.set_cons_zero, List.set_cons_succ]
        refine wpAnyH_take (i := 9) (oi := ?oi36) (v := ?v36) ?hi36 (by kernel_rfl) (by kernel_rfl) (by kernel_rfl) ?hQ36 (Or.inl ⟨?hw36, ?hy36⟩) (by assumption) ?_
        case hi36 => (simp only [List.getElem?_toArray, List.getElem?_cons_zero, List.getElem?_cons_succ]; rfl)
        case hQ36 => exact fun _ _ _ h => h
        case hw36 => rfl
        case hy36 => (intro wq hSw; (try dsimp only at hSw); go_simp; try with_reducible rfl)
        try simp only [Act.put, List.setIfInBounds_toArray, List.set_cons_zero, List.set_cons_succ]
        refine wpAnyH_take (i := 10) (oi := ?oi37) (v := ?v37) ?hi37 (by kernel_rfl) (by kernel_rfl) (by kernel_rfl) ?hQ37 (Or.inl ⟨?hw37, ?hy37⟩) (by assumption) ?_
        case hi37 => (simp only [List.getElem?_toArray, List.getElem?_cons_zero, List.getElem?_cons_succ]; rfl)
        case hQ37 => exact fun _ _ _ h => h
        case hw37 => rfl
        case hy37 => (intro wq hSw; (try dsimp only at hSw); go_simp; try with_reducible rfl)
        try simp only [Act.put, List.setIfInBounds_toArray, List.set_cons_zero, List.set_cons_succ]
        refine wpAnyH_take (i := 11) (oi := ?oi38) (v := ?v38) ?hi38 (by kernel_rfl) (by kernel_rfl) (by kernel_rfl) ?hQ38 (Or.inl ⟨?hw38, ?hy38⟩) (by assumption) ?_
        case hi38 => (simp only [List.getElem?_toArray, List.getElem?_cons_zero, List.getElem?_cons_succ]; rfl)
        case hQ38 => exact fun _ _ _ h => h
        case hw38 => rfl
        case hy38 => (intro wq hSw; (try dsimp only at hSw); go_simp; try with_reducible rfl)
        try simp only [Act.put, List.setIfInBounds_toArray, List.set_cons_zero, List.set_cons_succ]
        refine wpAnyH_take (i := 12) (oi := ?oi39) (v := ?v39) ?hi39 (by kernel_rfl) (by kernel_rfl) (by kernel_rfl) ?hQ39 (Or.inl ⟨?hw39, ?hy39⟩) (by assumption) ?_
        case hi39 => (simp only [List.getElem?_toArray, List.getElem?_cons_zero, List.getElem?_cons_succ]; rfl)
        case hQ39 => exact fun _ _ _ h => h
        case hw39 => rfl
        case hy39 => (intro wq hSw; (try dsimp only at hSw); go_simp; try with_reducible rfl)
        try simp only [Act.put, List.setIfInBounds_toArray, List.set_cons_zero, List.set_cons_succ]
        refine wpAnyH_take (i := 13) (oi := ?oi40) (v := ?v40) ?hi40 (by kernel_rfl) (by kernel_rfl) (by kernel_rfl) ?hQ40 (Or.inl ⟨?hw40, ?hy40⟩) (by assumption) ?_
        case hi40 => (simp only [List.getElem?_toArray, List.getElem?_cons_zero, List.getElem?_cons_succ]; rfl)
        case hQ40 => exact fun _ _ _ h => h
        case hw40 => rfl
        case hy40 => (intro wq hSw; (try dsimp only at hSw); go_simp; try with_reducible rfl)
        try simp only [Act.put, List.setIfInBounds_toArray, List.set_cons_zero, List.set_cons_succ]
        refine wpAnyH_take (i := 14) (oi := ?oi41) (v := ?v41) ?hi41 (by kernel_rfl) (by kernel_rfl) (by kernel_rfl) ?hQ41 (Or.inl ⟨?hw41, ?hy41⟩) (by assumption) ?_
        case hi41 => (simp only [List.getElem?_toArray, List.getElem?_cons_zero, List.getElem?_cons_succ]; rfl)
        case hQ41 => exact fun _ _ _ h => h
        case hw41 => rfl
        case hy41 => (intro wq hSw; (try dsimp only at hSw); go_simp; try with_reducible rfl)
        try simp only [Act.put, List.setIfInBounds_toArray, List.set_cons_zero, List.set_cons_succ]
        refine wpAnyH_take (i := 15) (oi := ?oi42) (v := ?v42) ?hi42 (by kernel_rfl) (by kernel_rfl) (by kernel_rfl) ?hQ42 (Or.inl ⟨?hw42, ?hy42⟩) (by assumption) ?_
        case hi42 => (simp only [List.getElem?_toArray, List.getElem?_cons_zero, List.getElem?_cons_succ]; rfl)
        case hQ42 => exact fun _ _ _ h => h
        case hw42 => rfl
        case hy42 => (intro wq hSw; (try dsimp only at hSw); go_simp; try with_reducible rfl)
        try simp only [Act.put, List.setIfInBounds_toArray, List.set_cons_zero, List.set_cons_succ]
        refine wpAnyH_take (i := 16) (oi := ?oi43) (v := ?v43) ?hi43 (by kernel_rfl) (by kernel_rfl) (by kernel_rfl) ?hQ43 (Or.inl ⟨?hw43, ?hy43⟩) (by assumption) ?_
        case hi43 => (simp only [List.getElem?_toArray, List.getElem?_cons_zero, List.getElem?_cons_succ]; rfl)
        case hQ43 => exact fun _ _ _ h => h
        case hw43 => rfl
        case hy43 => (intro wq hSw; (try dsimp only at hSw); go_simp; try with_reducible rfl)
        try simp only [Act.put, List.setIfInBounds_toArray, List.set_cons_zero, List.set_cons_succ]
        refine wpAnyH_take (i := 17) (oi := ?oi44) (v := ?v44) ?hi44 (by kernel_rfl) (by kernel_rfl) (by kernel_rfl) ?hQ44 (Or.inl ⟨?hw44, ?hy44⟩) (by assumption) ?_
        case hi44 => (simp only [List.getElem?_toArray, List.getElem?_cons_zero, List.getElem?_cons_succ]; rfl)
        case hQ44 => exact fun _ _ _ h => h
        case hw44 => rfl
        case hy44 => (intro wq hSw; (try dsimp only at hSw); go_simp; try with_reducible rfl)
        try simp only [Act.put, List.setIfInBounds_toArray, List.set_cons_zero, List.set_cons_succ]
        refine wpAnyH_take (i := 18) (oi := ?oi45) (v := ?v45) ?hi45 (by kernel_rfl) (by kernel_rfl) (by kernel_rfl) ?hQ45 (Or.inl ⟨?hw45, ?hy45⟩) (by assumption) ?_
        case hi45 => (simp only [List.getElem?_toArray, List.getElem?_cons_zero, List.getElem?_cons_succ]; rfl)
        case hQ45 => exact fun _ _ _ h => h
        case hw45 => rfl
        case hy45 => (intro wq hSw; (try dsimp only at hSw); go_simp; try with_reducible rfl)
        try simp only [Act.put, List.setIfInBounds_toArray, List.set_cons_zero, List.set_cons_succ]
        refine wpAnyH_take (i := 19) (oi := ?oi46) (v := ?v46) ?hi46 (by kernel_rfl) (by kernel_rfl) (by kernel_rfl) ?hQ46 (Or.inl ⟨?hw46, ?hy46⟩) (by assumption) ?_
        case hi46 => (simp only [List.getElem?_toArray, List.getElem?_cons_zero, List.getElem?_cons_succ]; rfl)
        case hQ46 => exact fun _ _ _ h => h
        case hw46 => rfl
        case hy46 => (intro wq hSw; (try dsimp only at hSw); go_simp; try with_reducible rfl)
        try simp only [Act.put, List.setIfInBounds_toArray, List.set_cons_zero, List.set_cons_succ]
        refine wpAnyH_take (i := 20) (oi := ?oi47) (v := ?v47) ?hi47 (by kernel_rfl) (by kernel_rfl) (by kernel_rfl) ?hQ47 (Or.inl ⟨?hw47, ?hy47⟩) (by assumption) ?_
        case hi47 => (simp only [List.getElem?_toArray, List.getElem?_cons_zero, List.getElem?_cons_succ]; rfl)
        case hQ47 => exact fun _ _ _ h => h
        case hw47 => rfl
        case hy47 => (intro wq hSw; (try dsimp only at hSw); go_simp; try with_reducible rfl)
        try simp only [Act.put, List.setIfInBounds_toArray, List.set_cons_zero, List.set_cons_succ]
        refine wpAnyH_take (i := 21) (oi := ?oi48) (v := ?v48) ?hi48 (by kernel_rfl) (by kernel_rfl) (by kernel_rfl) ?hQ48 (Or.inl ⟨?hw48, ?hy48⟩) (by assumption) ?_
        case hi48 => (simp only [List.getElem?_toArray, List.getElem?_cons_zero, List.getElem?_cons_succ]; rfl)
        case hQ48 => exact fun _ _ _ h => h
        case hw48 => rfl
        case hy48 => (intro wq hSw; (try dsimp only at hSw); go_simp; try with_reducible rfl)
        try simp only [Act.put, List.setIfInBounds_toArray, List.set_cons_zero, List.set_cons_succ]
        refine wpAnyH_take (i := 22) (oi := ?oi49) (v := ?v49) ?hi49 (by kernel_rfl) (by kernel_rfl) (by kernel_rfl) ?hQ49 (Or.inl ⟨?hw49, ?hy49⟩) (by assumption) ?_
        case hi49 => (simp only [List.getElem?_toArray, List.getElem?_cons_zero, List.getElem?_cons_succ]; rfl)
        case hQ49 => exact fun _ _ _ h => h
        case hw49 => rfl
        case hy49 => (intro wq hSw; (try dsimp only at hSw); go_simp; try with_reducible rfl)
        try simp only [Act.put, List.setIfInBounds_toArray, List.set_cons_zero, List.set_cons_succ]
        refine wpAnyH_take (i := 23) (oi := ?oi50) (v := ?v50) ?hi50 (by kernel_rfl) (by kernel_rfl) (by kernel_rfl) ?hQ50 (Or.inl ⟨?hw50, ?hy50⟩) (by assumption) ?_
        case hi50 => (simp only [List.getElem?_toArray, List.getElem?_cons_zero, List.getElem?_cons_succ]; rfl)
        case hQ50 => exact fun _ _ _ h => h
        case hw50 => rfl
        case hy50 => (intro wq hSw; (try dsimp only at hSw); go_simp; try with_reducible rfl)
        try simp only [Act.put, List.setIfInBounds_toArray, List.set_cons_zero, List.set_cons_succ]
        refine wpAnyH_take (i := 24) (oi := ?oi51) (v := ?v51) ?hi51 (by kernel_rfl) (by kernel_rfl) (by kernel_rfl) ?hQ51 (Or.inl ⟨?hw51, ?hy51⟩) (by assumption) ?_
        case hi51 => (simp only [List.getElem?_toArray, List.getElem?_cons_zero, List.getElem?_cons_succ]; rfl)
        case hQ51 => exact fun _ _ _ h => h
        case hw51 => rfl
        case hy51 => (intro wq hSw; (try dsimp only at hSw); go_simp; try with_reducible rfl)
        try simp only [Act.put, List.setIfInBounds_toArray, List.set_cons_zero, List.set_cons_succ]
        refine wpAnyH_take (i := 25) (oi := ?oi52) (v := ?v52) ?hi52 (by kernel_rfl) (by kernel_rfl) (by kernel_rfl) ?hQ52 (Or.inl ⟨?hw52, ?hy52⟩) (by assumption) ?_
        case hi52 => (simp only [List.getElem?_toArray, List.getElem?_cons_zero, List.getElem?_cons_succ]; rfl)
        case hQ52 => exact fun _ _ _ h => h
        case hw52 => rfl
        case hy52 => (intro wq hSw; (try dsimp only at hSw); go_simp; try with_reducible rfl)
        try simp only [Act.put, List.setIfInBounds_toArray, List.set_cons_zero, List.set_cons_succ]
        refine wpAnyH_done (by kernel_rfl) ?_ _
        go_wp2_with fail
        go_meet
        exact ⟨by rw [hzw.out, Bool.true_and]; exact congrArg Value.bool (by rw [Bool.eq_iff_iff]; simp), J⟩
    case rest =>
      clear J
      obtain ⟨rfl, J⟩ := hcut
      obtain ⟨l0, l1⟩ := box_cut J.out.tail.head
      obtain ⟨q0, q1⟩ := box_cut J.out.head
      obtain ⟨x0, x1, xf0, xf1⟩ := J.out.tail.tail.tail.head.two
      go_wp2
      · obtain ⟨⟨k0, k1⟩, bz⟩ := Kpc.set2 J.out.tail.tail.tail (by omega) (.int .i64 sc) (.int .i64 (1 + sd))
        refine bodyPost_ret (v := .tuple #[.agg #[.int .i64 sc, .int .i64 (1 + sd)], .bool (R && decide (nsz = za + zb))]) ?_ rfl ?_
        · simp [results, Try.results78, go_sem, k0, k1]
        · rw [show max sb sd = sd from by omega]
          exact ⟨rfl, bz⟩
      · obtain ⟨⟨k0, k1⟩, bz⟩ := Kpc.set2 J.out.tail.tail.tail (by omega) (.int .i64 sc) (.int .i64 (1 + sb))
        refine bodyPost_ret (v := .tuple #[.agg #[.int .i64 sc, .int .i64 (1 + sb)], .bool (R && decide (nsz = za + zb))]) ?_ rfl ?_
        · simp [results, Try.results78, go_sem, k0, k1]
        · rw [show max sb sd = sb from by omega]
          exact ⟨rfl, bz⟩
end Go.Proofs.Yteenemdiokajbaa
