import Derived.Test.YteenemdiokajbaaExpI

/-! Layer 16's reference: Room, Steps. -/
namespace Go.Proofs.Yteenemdiokajbaa
open Go.RowKit
set_option linter.unusedVariables false
set_option linter.unusedSimpArgs false

theorem len11P {vs : List Value} (h : vs.length = 11) : ∃ z0 z1 z2 z3 z4 z5 z6 z7 z8 z9 z10, vs = [z0, z1, z2, z3, z4, z5, z6, z7, z8, z9, z10] := by
  match vs, h with
  | [z0, z1, z2, z3, z4, z5, z6, z7, z8, z9, z10], _ => exact ⟨_, _, _, _, _, _, _, _, _, _, _, rfl⟩
theorem askT_err {N : List TN} {d : Int} {x : List Int} (h : ¬ askT N d x = 0) : whyV [⟨d, none, 0, N⟩] x = ([], askT N d x) := by
  unfold askT at h ⊢
  by_cases hT : isT N d = true
  · rw [if_pos hT] at h ⊢
    by_cases hx : isV x d = true
    · rw [if_pos hx] at h; exact absurd rfl h
    · rw [if_neg hx, why_one_err (fun g => hx g.2), if_pos hT]
  · rw [if_neg hT, why_one_err (fun g => hT g.1), if_neg hT]
theorem askT_ok {N : List TN} {d : Int} {x : List Int} (h : askT N d x = 0) : isT N d = true ∧ isV x d = true := by
  unfold askT at h
  by_cases hT : isT N d = true
  · rw [if_pos hT] at h
    by_cases hx : isV x d = true
    · exact ⟨hT, hx⟩
    · rw [if_neg hx] at h; exact absurd h (by omega)
  · rw [if_neg hT] at h; exact absurd h (by omega)
set_option maxRecDepth 100000 in
set_option maxHeartbeats 8000000 in
theorem ref_Room16 (N : List TN) (d : Int) (A A2 : Option Addr) (x : List Int) (c c2 B : Nat) (k : Int) (w : World) (hl : N.length ≤ 1000) (hA : LiesT w B A N) (hx : Lies w B A2 x) (hB : B ≤ w.heap.size) :
    Calls Try.prog 14 #[.agg #[.int .i64 d, .slice A N.length c], .slice A2 x.length c2, .int .i64 k] w fun e w' => e = .returned (.tuple #[.int .i64 (roomV N d x k).1, .int .i64 (roomV N d x k).2.1, .int .i64 (roomV N d x k).2.2]) ∧ Below w.heap.size w w' := by
  have HX := Lib.hid ((Kpc.start w).alloc #[.int .i64 d, .slice A N.length c] 24)
  obtain ⟨y0, y1⟩ := box_cut HX.out.head
  have KA := Lib.hid (fun W (h : Below w.heap.size w W) => ref_asked N d A A2 x c c2 B W (by omega) (hA.below (h.mono hB)) (hx.below (h.mono hB)) (Nat.le_trans hB h.size))
  by_cases h0 : askT N d x = 0
  · obtain ⟨hT, hV⟩ := askT_ok h0
    rw [h0] at KA
    have hxl := (isV_iff.1 hV).2.2.1
    by_cases hk : 0 ≤ k ∧ k < d
    · obtain ⟨j, rfl⟩ : ∃ j : Nat, k = j := ⟨k.toNat, by omega⟩
      have hj : j < x.length := by omega
      obtain ⟨lo, hi, q1, q2, q3, q4, q5, q6⟩ := room_ok hT hV hj
      rw [q1]
      have KL := Lib.hid (fun W (h : Below w.heap.size w W) => edge_lo N d A A2 x c c2 B j lo hi W hl hT hV hj (hA.below (h.mono hB)) (hx.below (h.mono hB)) (Nat.le_trans hB h.size) q2 q3 ⟨q4, q5⟩ q6)
      have KH := Lib.hid (fun W (h : Below w.heap.size w W) => edge_hi N d A A2 x c c2 B j lo hi W hl hT hV hj (hA.below (h.mono hB)) (hx.below (h.mono hB)) (Nat.le_trans hB h.size) q2 q3 ⟨q4, q5⟩ q6)
      simp only
      obtain ⟨hk1, hk2⟩ := hk
      clear hA hx h0 hT hV q1 q2 q3 q4 q5 q6 hj hxl
      generalize N.length = M at *
      generalize x.length = LX at *
      go_enter Try.func14, Try.ntmps14
      go_wp2_with fail
      refine (KA.out _ HX.out.2.1).mono ?_
      rintro e w1 ⟨rfl, b1⟩
      have J1 := Lib.hid (HX.out.below b1)
      clear b1 y0 y1
      obtain ⟨y0, y1⟩ := box_cut J1.out.head
      have HTB := Lib.hid (fun X (h : Below w1.heap.size w1 X) => box_cut (J1.out.head.below h J1.out.head.lt))
      have HB1 := Lib.hid J1.out.2.1
      have hsz1 := HB1.out.size
      go_wp2
      refine wp_region_steps (RowJ [some (.agg #[.int .i64 d, .slice A M c]), some (.slice A2 LX c2), some (.int .i64 (j : Int)), some (.int .i64 lo), some (.agg #[.int .i64 d, .slice A M c]), some (.slice A2 LX c2), some (.int .i64 (j : Int)), some (.int .i64 hi), some (.int .i64 lo), some (.int .i64 hi), some (.int .i64 0)] [] w1.heap.size w1)
        [[], [], [], [0, 1, 2], [], [], [], [4, 5, 6, 3], [3, 7, 0, 1, 2, 3], [7, 8, 0, 1, 2, 3, 4, 5, 6, 7, 8], [9, 0, 1, 2, 3, 4, 5, 6, 7, 8, 9]] (by kernel_rfl) (by kernel_rfl) (by kernel_rfl) (by kernel_rfl) ?_ ?_ ?_ ?_
      · exact RowJ.alike (n := 11) (by simp) (by simp)
      · exact fun vs _ => RowJ.start (Nat.le_refl _) vs
      · refine ⟨?_, ?_, ?_, ?_, ?_, ?_, ?_, ?_, ?_, ?_, ?_, trivial⟩
        all_goals
          intro f vs X hlen hf hp hj K hK
          obtain ⟨z0, z1, z2, z3, z4, z5, z6, z7, z8, z9, z10, rfl⟩ := len11P hlen
          clear hlen
          have HJ := Lib.hid hj
          clear hj
        · rw [if_pos (by rfl)]
          have mm := HTB.out X HJ.out.2.1.1
          have m0 := mm.1
          have m1 := mm.2
          clear mm
          simp only [putAll, Act.put, List.setIfInBounds_toArray, List.set_cons_zero, List.set_cons_succ] at hK ⊢
          go_simp
          refine hK _ X ?_
          exact HJ.out.step (i := 0) (by simp) _ (fun u hu => by simpa using hu) (fun l hl => by simp at hl) (Below.refl _ _)
        · rw [if_pos (by rfl)]
          simp only [putAll, Act.put, List.setIfInBounds_toArray, List.set_cons_zero, List.set_cons_succ] at hK ⊢
          go_simp
          refine hK _ X ?_
          exact HJ.out.step (i := 1) (by simp) _ (fun u hu => by simpa using hu) (fun l hl => by simp at hl) (Below.refl _ _)
        · rw [if_pos (by rfl)]
          simp only [putAll, Act.put, List.setIfInBounds_toArray, List.set_cons_zero, List.set_cons_succ] at hK ⊢
          go_simp
          refine hK _ X ?_
          exact HJ.out.step (i := 2) (by simp) _ (fun u hu => by simpa using hu) (fun l hl => by simp at hl) (Below.refl _ _)
        · rw [if_pos (by rfl)]
          have e0 : z0 = .agg #[.int .i64 d, .slice A M c] := HJ.out.1 0 _ (hp 0 (by simp)) rfl
          subst e0
          have e1 : z1 = .slice A2 LX c2 := HJ.out.1 1 _ (hp 1 (by simp)) rfl
          subst e1
          have e2 : z2 = .int .i64 (j : Int) := HJ.out.1 2 _ (hp 2 (by simp)) rfl
          subst e2
          simp only [putAll, Act.put, List.setIfInBounds_toArray, List.set_cons_zero, List.set_cons_succ] at hK ⊢
          go_simp
          refine (KL.out X (HB1.out.trans (HJ.out.2.1.1.mono hsz1))).mono ?_
          rintro e w5 ⟨rfl, b5⟩
          refine hK _ w5 ?_
          exact HJ.out.step (i := 3) (by simp) _ (fun u hu => by simpa using hu) (fun l hl => by simp at hl) b5
        · rw [if_pos (by rfl)]
          have mm := HTB.out X HJ.out.2.1.1
          have m0 := mm.1
          have m1 := mm.2
          clear mm
          simp only [putAll, Act.put, List.setIfInBounds_toArray, List.set_cons_zero, List.set_cons_succ] at hK ⊢
          go_simp
          refine hK _ X ?_
          exact HJ.out.step (i := 4) (by simp) _ (fun u hu => by simpa using hu) (fun l hl => by simp at hl) (Below.refl _ _)
        · rw [if_pos (by rfl)]
          simp only [putAll, Act.put, List.setIfInBounds_toArray, List.set_cons_zero, List.set_cons_succ] at hK ⊢
          go_simp
          refine hK _ X ?_
          exact HJ.out.step (i := 5) (by simp) _ (fun u hu => by simpa using hu) (fun l hl => by simp at hl) (Below.refl _ _)
        · rw [if_pos (by rfl)]
          simp only [putAll, Act.put, List.setIfInBounds_toArray, List.set_cons_zero, List.set_cons_succ] at hK ⊢
          go_simp
          refine hK _ X ?_
          exact HJ.out.step (i := 6) (by simp) _ (fun u hu => by simpa using hu) (fun l hl => by simp at hl) (Below.refl _ _)
        · rw [if_pos (by rfl)]
          have e4 : z4 = .agg #[.int .i64 d, .slice A M c] := HJ.out.1 4 _ (hp 4 (by simp)) rfl
          subst e4
          have e5 : z5 = .slice A2 LX c2 := HJ.out.1 5 _ (hp 5 (by simp)) rfl
          subst e5
          have e6 : z6 = .int .i64 (j : Int) := HJ.out.1 6 _ (hp 6 (by simp)) rfl
          subst e6
          simp only [putAll, Act.put, List.setIfInBounds_toArray, List.set_cons_zero, List.set_cons_succ] at hK ⊢
          go_simp
          refine (KH.out X (HB1.out.trans (HJ.out.2.1.1.mono hsz1))).mono ?_
          rintro e w5 ⟨rfl, b5⟩
          refine hK _ w5 ?_
          exact HJ.out.step (i := 7) (by simp) _ (fun u hu => by simpa using hu) (fun l hl => by simp at hl) b5
        · rw [if_pos (by rfl)]
          have e3 : z3 = .int .i64 lo := HJ.out.1 3 _ (hp 3 (by simp)) rfl
          subst e3
          simp only [putAll, Act.put, List.setIfInBounds_toArray, List.set_cons_zero, List.set_cons_succ] at hK ⊢
          go_simp
          refine hK _ X ?_
          exact HJ.out.step (i := 8) (by simp) _ (fun u hu => by simpa using hu) (fun l hl => by simp at hl) (Below.refl _ _)
        · rw [if_pos (by rfl)]
          have e7 : z7 = .int .i64 hi := HJ.out.1 7 _ (hp 7 (by simp)) rfl
          subst e7
          simp only [putAll, Act.put, List.setIfInBounds_toArray, List.set_cons_zero, List.set_cons_succ] at hK ⊢
          go_simp
          refine hK _ X ?_
          exact HJ.out.step (i := 9) (by simp) _ (fun u hu => by simpa using hu) (fun l hl => by simp at hl) (Below.refl _ _)
        · rw [if_pos (by rfl)]
          simp only [putAll, Act.put, List.setIfInBounds_toArray, List.set_cons_zero, List.set_cons_succ] at hK ⊢
          go_simp
          refine hK _ X ?_
          exact HJ.out.step (i := 10) (by simp) _ (fun u hu => by simpa using hu) (fun l hl => by simp at hl) (Below.refl _ _)
      · intro vs X hl hj
        obtain ⟨z0, z1, z2, z3, z4, z5, z6, z7, z8, z9, z10, rfl⟩ := len11P hl
        have e8 : z8 = .int .i64 lo := hj.1 8 _ rfl rfl
        subst e8
        have e9 : z9 = .int .i64 hi := hj.1 9 _ rfl rfl
        subst e9
        have e10 : z10 = .int .i64 0 := hj.1 10 _ rfl rfl
        subst e10
        have HBX := Lib.hid (HB1.out.trans (hj.2.1.1.mono hsz1))
        simp only [putAll, Act.put, List.setIfInBounds_toArray, List.set_cons_zero, List.set_cons_succ]
        clear hj
        go_wp2
        go_ret3
        exact ⟨by simp, HBX.out⟩
    · have hr : roomV N d x k = (0, 0, 1) := by
        unfold roomV
        rw [why_one hT hV, if_neg (by simp), if_neg]
        rw [colsC_len]
        intro q
        exact hk ⟨q.1, by have := q.2; omega⟩
      rw [hr]
      simp only
      clear hA hx h0 hT hV hr
      generalize N.length = M at *
      generalize x.length = LX at *
      by_cases hk0 : k < 0
      · go_enter Try.func14, Try.ntmps14
        go_wp2_with fail
        refine (KA.out _ HX.out.2.1).mono ?_
        rintro e w1 ⟨rfl, b1⟩
        have J1 := Lib.hid (HX.out.below b1)
        go_wp2
        go_ret3
        exact ⟨by simp, J1.out.2.1⟩
      · have hk3 : ¬ k < d := by omega
        go_enter Try.func14, Try.ntmps14
        go_wp2_with fail
        refine (KA.out _ HX.out.2.1).mono ?_
        rintro e w1 ⟨rfl, b1⟩
        have J1 := Lib.hid (HX.out.below b1)
        clear b1 y0 y1
        obtain ⟨y0, y1⟩ := box_cut J1.out.head
        go_wp2
        go_ret3
        exact ⟨by simp, J1.out.2.1⟩
  · have hr : roomV N d x k = (0, 0, askT N d x) := by
      unfold roomV
      rw [askT_err h0]
      simp only
      rw [if_pos h0]
    rw [hr]
    simp only
    generalize askT N d x = z at *
    have hz0 : (z == 0) = false := by simpa using h0
    clear hA hx hr
    generalize N.length = M at *
    generalize x.length = LX at *
    go_enter Try.func14, Try.ntmps14
    go_wp2_with fail
    refine (KA.out _ HX.out.2.1).mono ?_
    rintro e w1 ⟨rfl, b1⟩
    have J1 := Lib.hid (HX.out.below b1)
    go_wp2
    go_ret3
    exact ⟨by simp, J1.out.2.1⟩
/-- how many of the first i steps test column q -/
def sti (x : List Int) (E : List TS) (i q : Nat) : Int := (colC x q (E.take i)).st
theorem sti_succ (x : List Int) (E : List TS) {i : Nat} (hi : i < E.length) (q : Nat) : sti x E (i + 1) q = sti x E i q + if (E.getD i ts0).co.getD q 0 = 0 then 0 else 1 := by
  unfold sti colC
  have e0 : E.getD i ts0 = E[i] := by rw [List.getD_eq_getElem?_getD, List.getElem?_eq_getElem hi]; rfl
  rw [List.take_succ_eq_append_getElem hi, List.foldl_append, e0]
  show (pasC E[i] x q _).st = _ + if (E[i]).co.getD q 0 = 0 then 0 else 1
  unfold pasC
  split
  · simp
  · rfl
theorem sti_bd (x : List Int) (E : List TS) (i q : Nat) : 0 ≤ sti x E i q ∧ sti x E i q ≤ E.length := by
  have h := colC_st x q (E.take i) ct0
  rw [List.length_take] at h
  have e0 : ct0.st = 0 := rfl
  unfold sti colC
  omega
/-- the counts, those of the first k columns behind one step more -/
def mixK (x : List Int) (E : List TS) (n i k : Nat) : List Int := (List.range n).map (fun q => if q < k then sti x E (i + 1) q else sti x E i q)
theorem mixK_len (x : List Int) (E : List TS) (n i k : Nat) : (mixK x E n i k).length = n := by simp [mixK]
theorem mixK_at (x : List Int) (E : List TS) {n i k q : Nat} (hq : q < n) : (mixK x E n i k).getD q 0 = if q < k then sti x E (i + 1) q else sti x E i q := by
  unfold mixK
  rw [List.getD_eq_getElem?_getD, List.getElem?_map, List.getElem?_range hq]
  rfl
theorem mixK_step (x : List Int) (E : List TS) {n i k : Nat} (hk : k < n) : mixK x E n i (k + 1) = (mixK x E n i k).set k (sti x E (i + 1) k) := by
  refine List.ext_getElem (by simp [mixK]) (fun j h1 h2 => ?_)
  rw [List.getElem_set]
  by_cases h : k = j
  · subst h
    simp [mixK]
  · rw [if_neg h]
    simp only [mixK, List.getElem_map, List.getElem_range]
    by_cases g : j < k
    · rw [if_pos g, if_pos (by omega)]
    · rw [if_neg g, if_neg (by omega)]
theorem mixK_next (x : List Int) (E : List TS) (n i : Nat) : mixK x E n i n = mixK x E n (i + 1) 0 := by
  unfold mixK
  refine List.map_congr_left (fun q hq => ?_)
  rw [if_pos (List.mem_range.1 hq), if_neg (by omega)]
theorem mixK_zero (x : List Int) (E : List TS) (n : Nat) : mixK x E n 0 0 = List.replicate n 0 := by
  refine List.ext_getElem (by simp [mixK]) (fun j h1 h2 => ?_)
  simp only [mixK, List.getElem_map, List.getElem_range, List.getElem_replicate]
  rw [if_neg (by omega)]
  rfl
theorem mixK_all (x : List Int) (E : List TS) : mixK x E x.length E.length 0 = (colsC x E).map CT.st := by
  unfold mixK colsC
  rw [List.map_map]
  refine List.map_congr_left (fun q _ => ?_)
  rw [if_neg (by omega)]
  unfold sti
  rw [List.take_length]
  rfl
set_option maxRecDepth 100000 in
set_option maxHeartbeats 8000000 in
theorem ref_Steps16 (N : List TN) (d : Int) (A A2 : Option Addr) (x : List Int) (c c2 B : Nat) (w : World) (hl : N.length ≤ 1000) (hA : LiesT w B A N) (hx : Lies w B A2 x) (hB : B ≤ w.heap.size) :
    Calls Try.prog 12 #[.agg #[.int .i64 d, .slice A N.length c], .slice A2 x.length c2] w (GivesTr (stepsV N d x) w) := by
  have HX := Lib.hid ((Kpc.start w).alloc #[.int .i64 d, .slice A N.length c] 24)
  obtain ⟨y0, y1⟩ := box_cut HX.out.head
  have KA := Lib.hid (fun W (h : Below w.heap.size w W) => ref_asked N d A A2 x c c2 B W (by omega) (hA.below (h.mono hB)) (hx.below (h.mono hB)) (Nat.le_trans hB h.size))
  by_cases h0 : askT N d x = 0
  · obtain ⟨hT, hV⟩ := askT_ok h0
    rw [h0] at KA
    have hv1 := isV_iff.1 hV
    have hxl := hv1.2.2.1
    have hr : stepsV N d x = ((colsC x (tstT N x N.length 0)).map CT.st, 0) := by unfold stepsV; rw [why_one hT hV]
    rw [hr]
    have KB := Lib.hid (fun W (h : Below w.heap.size w W) => ref_above N d A A2 x c c2 B W hT hV (hA.below (h.mono hB)) (hx.below (h.mono hB)) (Nat.le_trans hB h.size))
    unfold GivesI at KB
    have hwl := way_len (N := N) (x := x) N.length 0
    have htl := tst_len (N := N) (x := x) N.length 0
    obtain ⟨_, _, _, d0, s0, _⟩ := isT_iff.1 hT
    have HQ : Hid (∀ i, i < (tstT N x N.length 0).length → ∃ q : Nat, q < N.length ∧ (wayT N x N.length 0).getD i 0 = (q : Int) ∧ ((tstT N x N.length 0).getD i ts0).co = (N.getD q tn0).co) := fun i hi => by
      obtain ⟨q, e', d', q1, q2, q3, _⟩ := way_tst hV _ _ _ _ s0 i hi
      exact ⟨q, by have := q1.lt; omega, q2, by rw [q3]⟩
    have HCL : Hid (∀ q, q < N.length → ∀ i, i < (tstT N x N.length 0).length → ((tstT N x N.length 0).getD i ts0).co = (N.getD q tn0).co → (N.getD q tn0).co.length = x.length) := fun q hq i hi e => by
      have hm : (tstT N x N.length 0).getD i ts0 ∈ tstT N x N.length 0 := by
        rw [List.getD_eq_getElem?_getD, List.getElem?_eq_getElem hi]
        exact List.getElem_mem hi
      have ho := (tstT_ok hV _ _ _ _ s0 _ hm).1
      rw [← e]
      unfold isC at ho
      rw [Bool.and_eq_true] at ho
      have := (partsV_iff.1 ho.1).2.2.1
      omega
    have HSS := Lib.hid (fun i hi q => sti_succ x (tstT N x N.length 0) (i := i) hi q)
    have HSB := Lib.hid (fun i q => sti_bd x (tstT N x N.length 0) i q)
    have HMA := Lib.hid (mixK_all x (tstT N x N.length 0))
    have HML := Lib.hid (fun n i k => mixK_len x (tstT N x N.length 0) n i k)
    have HMT := Lib.hid (fun n i k q hq => mixK_at x (tstT N x N.length 0) (n := n) (i := i) (k := k) (q := q) hq)
    have HMS := Lib.hid (fun n i k hk => mixK_step x (tstT N x N.length 0) (n := n) (i := i) (k := k) hk)
    have HMN := Lib.hid (fun n i => mixK_next x (tstT N x N.length 0) n i)
    have HMZ := Lib.hid (fun n => mixK_zero x (tstT N x N.length 0) n)
    have HN := Lib.hid (fun W (h : Below w.heap.size w W) q (hq : q < N.length) => (hA.below (h.mono hB)).at (k := q) hq)
    obtain ⟨n, hn⟩ : ∃ n, n = x.length := ⟨_, rfl⟩
    obtain rfl : d = (n : Int) := by omega
    have hn8 : (n : Int) ≤ 8 := hv1.2.1
    have hn1 : 0 < n := by have := hv1.1; omega
    rw [← hn] at KA KB HMA HCL ⊢
    clear hA hx h0 hT hV hv1 hxl hr s0
    generalize sti x (tstT N x N.length 0) = st at *
    generalize mixK x (tstT N x N.length 0) = mx at *
    generalize wayT N x N.length 0 = WY at *
    generalize (colsC x (tstT N x N.length 0)).map CT.st = RS at *
    generalize tstT N x N.length 0 = TE at *
    obtain ⟨m, hm⟩ : ∃ m, m = TE.length := ⟨_, rfl⟩
    rw [← hm] at hwl htl HQ HCL HSS HSB HMA
    rw [hwl] at KB
    clear hm hn
    have hm1 : (m : Int) ≤ 1000 := by omega
    generalize hM : N.length = M at *
    clear hM
    go_enter Try.func12, Try.ntmps12
    go_wp2_with fail
    refine (KA.out _ HX.out.2.1).mono ?_
    rintro e w1 ⟨rfl, b1⟩
    have J1 := Lib.hid (HX.out.below b1)
    clear b1 y0 y1
    obtain ⟨y0, y1⟩ := box_cut J1.out.head
    go_wp2_with fail
    refine (KB.out _ J1.out.2.1).mono ?_
    rintro e w2 ⟨A7, c7, rfl, g1, g2, l7, b2⟩
    have J2 := Lib.hid (J1.out.below b2)
    clear b2 y0 y1 KA KB
    obtain ⟨a7, eA7, ha7, hc7⟩ := l7 (by omega)
    subst eA7
    have HB2 := Lib.hid J2.out.2.1
    have hsz2 := HB2.out.size
    have HTB := Lib.hid (fun X (h : Below w2.heap.size w2 X) => box_cut (J2.out.head.below h J2.out.head.lt))
    have HWC : Hid (∀ X (h : Below w2.heap.size w2 X) i (hi : i < m + 1), X.cell? (a7.add i) = some (.int .i64 (WY.getD i 0))) := fun X h i hi => by
      rw [← hc7 i (by omega)]
      exact h.cell (by rw [add_block]; exact ha7)
    clear hc7
    obtain ⟨y0, y1⟩ := box_cut J2.out.head
    go_wp2_with (at_make; refine make_ints rfl (.tmp 21) (.tmp 21) rfl n rfl rfl (by omega) ?_; intro w3 ho3 hb3; have HO3 := Lib.hid ho3; have HB3 := Lib.hid hb3; clear ho3 hb3)
    go_loopw [9] (fun iv wr => ∃ i : Nat, i ≤ m ∧ iv = .int .i64 i ∧ Hid (OwnI wr w2.heap.size (mx n i 0)) ∧ Hid (Below w2.heap.size w2 wr)) (fun iv _ => m - (intOf iv).toNat)
    case atStart =>
      refine ⟨0, by omega, rfl, ?_, HB3.out⟩
      show OwnI _ _ _
      rw [HMZ.out]
      exact HO3.out
    case round =>
      obtain ⟨i, hi, rfl, HO, HB⟩ := hrel
      by_cases hlt : i < m
      · have hlg : (i : Int) + 1 < (m : Int) + 1 := by omega
        obtain ⟨q, hq, hwq, hcq⟩ := HQ.out i hlt
        have hcl := HCL.out q hq i hlt hcq
        have hqg : (q : Int) < (M : Int) := by omega
        have HSi := Lib.hid (HSS.out i hlt)
        rw [hcq] at HSi
        have HWi : Hid (∀ X (h : Below w2.heap.size w2 X), X.cell? (a7.add i) = some (.int .i64 (q : Int))) := fun X h => by rw [← hwq]; exact HWC.out X h i (by omega)
        have HNq := Lib.hid (fun X (h : Below w2.heap.size w2 X) => HN.out X (HB2.out.trans (h.mono hsz2)) q hq)
        clear hcq hwq
        generalize N.getD q tn0 = nd at *
        obtain ⟨na, nc, nco, nlv, nlf, nrt, nsz⟩ := nd
        simp only at hcl HSi HNq
        rw [hcl] at HNq
        go_wp2
        go_loopw [10] (fun kv wr => ∃ k : Nat, k ≤ n ∧ kv = .int .i64 k ∧ Hid (OwnI wr w2.heap.size (mx n i k)) ∧ Hid (Below w2.heap.size w2 wr)) (fun kv _ => n - (intOf kv).toNat)
        case atStart => exact ⟨0, by omega, rfl, HO.out, HB.out⟩
        case round =>
          obtain ⟨k, hk, rfl, HOk, HBk⟩ := hrel
          have tb := HTB.out _ HBk.out
          clear y0 y1
          have y0 := tb.1
          have y1 := tb.2
          clear tb
          by_cases hkt : k < n
          · have hkg : (k : Int) < (n : Int) := by omega
            have u0 := HWi.out _ HBk.out
            obtain ⟨ad, eA, _, ⟨n0, _, _, _, _⟩, lco⟩ := HNq.out _ HBk.out
            subst eA
            obtain ⟨aco, eco, _, hco⟩ := lco (by omega)
            have c0 := hco k (by omega)
            subst eco
            have hs := HSi.out k
            have HSk := Lib.hid hs
            have hb0 := HSB.out i k
            have o0 := HOk.out.cell (k := k) (by rw [HML.out]; exact hkt)
            rw [HMT.out n i k k hkt, if_neg (by omega)] at o0
            have f0 := HOk.out.free k
            have HBd := Lib.hid (fun t => below_drewN2 HBk.out t)
            have HMk := Lib.hid (HMS.out n i k hkt)
            have hset : (mx n i k).getD k 0 = st i k := by rw [HMT.out n i k k hkt, if_neg (by omega)]
            have HSET := Lib.hid hset
            clear hs hset hco lco
            obtain ⟨hb1, hb2⟩ := hb0
            by_cases hz : nco.getD k 0 = 0
            · have HE : Hid (mx n i (k + 1) = mx n i k) := by
                show _ = _
                rw [HMk.out, HSk.out, if_pos hz, Int.add_zero, ← HSET.out]
                exact set_own _ _
              rw [hz] at c0
              clear hz HSk
              generalize st i k = s at *
              go_wp2
              go_quiet (fail)
              go_wp2
              refine ⟨⟨k + 1, by omega, by go_num, ?_, HBd.out _⟩, by first | (simp [intOf]; done) | (simp [intOf]; omega)⟩
              show OwnI _ _ _
              rw [HE.out]
              exact OwnI.drewN HOk.out _
            · have hz1 : (nco.getD k 0 == 0) = false := by simpa using hz
              have HE : Hid (mx n i (k + 1) = (mx n i k).set k (st i k + 1)) := by
                show _ = _
                rw [HMk.out, HSk.out, if_neg hz]
              clear hz HSk
              generalize nco.getD k 0 = cf at *
              generalize st i k = s at *
              have HO2 := Lib.hid (fun t => (OwnI.drewN HOk.out t).set (k := k) (by rw [HML.out]; exact hkt) (s + 1))
              have HOd := Lib.hid (fun t => OwnI.drewN HOk.out t)
              go_wp2
              go_quiet (fail)
              go_wp2
              refine ⟨⟨k + 1, by omega, by go_num, ?_, (HBd.out _).setCell (p := ⟨w2.heap.size, k, none⟩) (Nat.le_refl _) _⟩, by first | (simp [intOf]; done) | (simp [intOf]; omega)⟩
              show OwnI _ _ _
              rw [HE.out]
              exact HO2.out _
          · obtain rfl : k = n := by omega
            go_wp2
            refine ⟨⟨i + 1, by omega, by go_num, ?_, HBk.out⟩, by first | (simp [intOf]; done) | (simp [intOf]; omega)⟩
            show OwnI _ _ _
            rw [← HMN.out]
            exact HOk.out
      · obtain rfl : i = m := by omega
        have HO2 : Hid (OwnI wr w2.heap.size RS) := by
          show OwnI _ _ _
          rw [← HMA.out]
          exact HO.out
        have hrl : RS.length = n := by rw [← HMA.out]; exact HML.out _ _ _
        go_wp2
        go_ret2
        exact ⟨some ⟨w2.heap.size, 0, none⟩, n, by simp [hrl], by rw [hrl]; exact Nat.le_refl _, by unfold maxLen; omega, HO2.out.lies, HB2.out.trans (HB.out.mono hsz2)⟩
  · have hr : stepsV N d x = ([], askT N d x) := by unfold stepsV; rw [askT_err h0]; rfl
    rw [hr]
    generalize askT N d x = z at *
    have hz0 : (z == 0) = false := by simpa using h0
    clear hA hx hr
    generalize N.length = M at *
    generalize x.length = LX at *
    go_enter Try.func12, Try.ntmps12
    go_wp2_with fail
    refine (KA.out _ HX.out.2.1).mono ?_
    rintro e w1 ⟨rfl, b1⟩
    have J1 := Lib.hid (HX.out.below b1)
    go_wp2
    go_ret2
    exact givesTr_nil J1.out.2.1
end Go.Proofs.Yteenemdiokajbaa
