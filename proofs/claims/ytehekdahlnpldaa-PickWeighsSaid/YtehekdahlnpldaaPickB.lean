import Derived.Test.YtehekdahlnpldaaPickA

/-! Layer 7: the parts of a plane, from draws: the program's, the reference's. -/
namespace Go.Proofs.Ytehekdahlnpldaa
open Go.RowKit
set_option linter.unusedVariables false
set_option linter.unusedSimpArgs false

theorem pick_within (n lo hi : Int) (w : World) : Calls Try.prog 56 #[.int .i64 n, .int .i64 lo, .int .i64 hi] w fun e w' => e = .returned (.bool (decide (lo ≤ n ∧ n ≤ hi))) ∧ w = w' := by
  go_enter Try.func56, Try.ntmps56
  go_wp2
  all_goals
    go_ret
    refine ⟨?_, rfl⟩
    refine congrArg (fun b => Ending.returned (.bool b)) (?_ : (_ : Bool) = _)
    rw [Bool.eq_iff_iff]
    simp
    try omega
theorem pick_may (a t : Int) (w : World) : Calls Try.prog 57 #[.int .i64 a, .int .i64 t] w fun e w' => e = .returned (.bool (decide (0 ≤ a ∧ 1 ≤ t ∧ t ≤ 64))) ∧ w = w' := by
  have K := Lib.hid (pick_within t 1 64)
  by_cases ha : 0 ≤ a
  · by_cases ht : 1 ≤ t ∧ t ≤ 64
    · have hd : decide (0 ≤ a ∧ 1 ≤ t ∧ t ≤ 64) = true := by simp [ha, ht]
      rw [hd]
      rw [show decide (1 ≤ t ∧ t ≤ 64) = true from by simp [ht]] at K
      go_enter Try.func57, Try.ntmps57
      go_wp2_with fail
      refine (K.out _).mono ?_
      rintro e w1 ⟨rfl, rfl⟩
      go_wp2
      go_ret
      exact ⟨rfl, rfl⟩
    · have hd : decide (0 ≤ a ∧ 1 ≤ t ∧ t ≤ 64) = false := by simp; omega
      rw [hd]
      rw [show decide (1 ≤ t ∧ t ≤ 64) = false from by simp; omega] at K
      go_enter Try.func57, Try.ntmps57
      go_wp2_with fail
      refine (K.out _).mono ?_
      rintro e w1 ⟨rfl, rfl⟩
      go_wp2
      go_ret
      exact ⟨rfl, rfl⟩
  · have hd : decide (0 ≤ a ∧ 1 ≤ t ∧ t ≤ 64) = false := by simp; omega
    rw [hd]
    go_enter Try.func57, Try.ntmps57
    go_wp2
    go_ret
    exact ⟨rfl, rfl⟩
theorem ref_asked (a t : Int) (w : World) : Calls Try.prog 60 #[.int .i64 a, .int .i64 t] w fun e w' => e = .returned (.bool (decide (0 ≤ a ∧ 1 ≤ t ∧ t ≤ 64))) ∧ w = w' := by
  go_enter Try.func60, Try.ntmps60
  go_wp2
  all_goals
    go_ret
    refine ⟨?_, rfl⟩
    refine congrArg (fun b => Ending.returned (.bool b)) (?_ : (_ : Bool) = _)
    rw [Bool.eq_iff_iff]
    simp
    try omega
theorem made_ints (n : Nat) : (madeCells (Value.int .i64 0).cells (n * 1)).toList = litI (List.replicate n 0) := by
  rw [Nat.mul_one]
  refine (toList_madeCells_one _ n).trans ?_
  simp [litI]
/-- a new row of noughts -/
theorem make_ints {wr : World} {ops : Array Oper} {rest : List Oper} {o : Oper} {a : Act} {Q : Exit → Act → World → Prop} (hgd : o.guard = none) (l c : Operand)
    (ho : o.op = Op.makeSlice 24 l c) (n : Nat) (hl : a.eval l = .int .i64 n) (hc : a.eval c = .int .i64 n) (hn : n ≤ 100000000)
    (h : ∀ w', OwnI w' wr.heap.size (List.replicate n 0) → Below wr.heap.size wr w' → wpList Try.prog ops Q rest (a.put o.dst (.slice (some ⟨wr.heap.size, 0, none⟩) n n)) w') :
    wpList Try.prog ops Q (o :: rest) a wr := by
  obtain ⟨i0, hi, hz0, hz1, hz2⟩ := info_parts infoI
  refine wpList_make_full wr hgd l c 24 ho wr.heap.size 3 i0 (.int .i64 0) 1 Try.underlying24 hi hz0 hz1 .i64 .i64 n n n hl hc rfl rfl (by rw [hz2]; omega) (by unfold maxLen; omega) (Nat.le_refl _) ?_
  intro w' h1 h2
  refine h w' ?_ ((Below.refl _ _).grown h2 (Nat.le_refl _) (fun k hk => by cases hk))
  rw [made_ints] at h1
  rcases h1.2 with ⟨e, _⟩ | ⟨g, cap, cur, e, hb, hh, hnc, hm, hsz, hx⟩
  · cases e
  · cases e
    exact ⟨cur, hh, by rw [List.length_replicate]; simpa using hx⟩
theorem noughts_set (acc : List Int) (n x : Int) (D k : Nat) (hk : acc.length = k) (hD : k < D) : (acc ++ List.replicate (D - k) 0).set k x = (acc ++ [x]) ++ List.replicate (D - (k + 1)) 0 := by
  subst hk
  rw [List.set_append_right _ _ (Nat.le_refl _), Nat.sub_self, show D - acc.length = (D - (acc.length + 1)) + 1 from by omega, List.replicate_succ]
  simp
theorem cfs_step {l : List Int} {t : Int} {k : Nat} {a : Int} {acc : List Int} (h : (rng l a (-4) 4 t).2.2 = 0) : cfs l t (k + 1) a acc = cfs l t k (rng l a (-4) 4 t).2.1 (acc ++ [(rng l a (-4) 4 t).1]) := by rw [cfs, if_pos h]
theorem cfs_fail {l : List Int} {t : Int} {k : Nat} {a : Int} {acc : List Int} (h : ¬ (rng l a (-4) 4 t).2.2 = 0) : cfs l t (k + 1) a acc = ([], 0, (rng l a (-4) 4 t).2.2) := by rw [cfs, if_neg h]
theorem rng_at {l : List Int} {a t : Int} (hl : (l.length : Int) ≤ 9223372036854775807) (h : (rng l a (-4) 4 t).2.2 = 0) (ha : 0 ≤ a) : 0 ≤ (rng l a (-4) 4 t).2.1 ∧ (rng l a (-4) 4 t).2.1 ≤ 9223372036854775807 := by
  have := (rng_pos (by omega) h).1; omega
set_option maxHeartbeats 2000000 in
theorem pick_coefs (A : Option Addr) (l : List Int) (c D : Nat) (a t : Int) (w : World) (hA : LiesU w w.heap.size A l) (hu : ∀ x ∈ l, U64 x) (hl : (l.length : Int) ≤ 9223372036854775807) (hD : D ≤ 8) (h0 : 0 ≤ a) (h1 : a ≤ 9223372036854775807) :
    Calls Try.prog 65 #[.slice A l.length c, .int .i64 a, .int .i64 D, .int .i64 t] w (GivesC (cfs l t D a []) w) := by
  have KR := Lib.hid (fun W (h : Below w.heap.size w W) j (g0 : 0 ≤ j) (g1 : j ≤ 9223372036854775807) => draw_range A l c j (-4) 4 t W ((hA.below h).mono h.size) hu hl (by unfold I64; omega) (by unfold I64; omega) (by unfold I64; omega))
  have HAT := Lib.hid (fun j => rng_at (l := l) (a := j) (t := t) hl)
  clear hA hu hl
  generalize hN : l.length = N at *
  have HN := Lib.hid hN
  clear hN
  go_enter Try.func65, Try.ntmps65
  go_wp2_with (at_make; refine make_ints rfl (.tmp 16) (.tmp 16) rfl D rfl rfl (by omega) ?_; intro w1 ho1 hb1)
  go_loopw [1, 20] (fun av i wr => ∃ (k : Nat) (acc : List Int) (j : Int), k ≤ D ∧ i = .int .i64 k ∧ av = .int .i64 j ∧ Hid (acc.length = k) ∧ Hid (OwnI wr w.heap.size (acc ++ List.replicate (D - k) 0)) ∧ Hid (cfs l t D a [] = cfs l t (D - k) j acc) ∧ Hid (0 ≤ j ∧ j ≤ 9223372036854775807) ∧ Hid (Below w.heap.size w wr)) (fun _ i _ => D - (intOf i).toNat)
  case atStart => exact ⟨0, [], a, by omega, rfl, rfl, rfl, ho1, rfl, ⟨h0, h1⟩, hb1⟩
  case round =>
    obtain ⟨k, acc, j, hk, rfl, rfl, HL, HO, HF, HJ, HB⟩ := hrel
    by_cases hlt : k < D
    · have K := Lib.hid (KR.out wr HB.out j HJ.out.1 HJ.out.2)
      have HS := Lib.hid (fun h => cfs_step (l := l) (t := t) (k := D - k - 1) (a := j) (acc := acc) h)
      have HX := Lib.hid (fun h => cfs_fail (l := l) (t := t) (k := D - k - 1) (a := j) (acc := acc) h)
      have HA2 := Lib.hid (HAT.out j)
      generalize rng l j (-4) 4 t = F at *
      obtain ⟨n, p, e⟩ := F
      simp only at HS HX HA2
      have hlg : (k : Int) < (D : Int) := by omega
      go_wp2_with fail
      refine K.out.mono ?_
      rintro e1 w2 ⟨rfl, b2⟩
      by_cases he : e = 0
      · subst he
        have hO2 := HO.out.below b2 HO.out.lt
        have hfr := hO2.free k
        have hcl := hO2.cell (k := k) (by have := HL.out; simp; omega)
        go_wp2
        have hO3 := hO2.set (k := k) (by have := HL.out; simp; omega) n
        rw [noughts_set acc k n D k HL.out hlt] at hO3
        refine ⟨⟨k + 1, acc ++ [n], p, by omega, by go_num, rfl, by show _ = _; rw [List.length_append, HL.out]; rfl, hO3, ?_, HA2.out trivial HJ.out.1, ?_⟩, by first | (simp [intOf]; done) | (simp [intOf]; omega)⟩
        · show _ = _
          rw [HF.out, show D - k = D - k - 1 + 1 from by omega, HS.out trivial, show D - (k + 1) = D - k - 1 from by omega]
        · exact (HB.out.trans (b2.mono HB.out.size)).setCell (p := ⟨w.heap.size, k, none⟩) (Nat.le_refl _) _
      · have hne : (e != 0) = true := by simpa using he
        go_wp2
        go_ret3
        rw [HF.out, show D - k = D - k - 1 + 1 from by omega, HX.out he]
        exact givesC_nil (HB.out.trans (b2.mono HB.out.size))
    · obtain rfl : k = D := by omega
      go_wp2
      go_ret3
      have hO := HO.out
      rw [Nat.sub_self, List.replicate_zero, List.append_nil] at hO
      have hF := HF.out
      rw [Nat.sub_self, cfs] at hF
      rw [hF]
      refine ⟨_, k, by rw [show (acc, j, (0 : Int)).1.length = k from HL.out]; rfl, by simp only; rw [HL.out]; exact Nat.le_refl _, by unfold maxLen; omega, hO.lies, (fun _ e => by cases e; exact Nat.le_refl _), HB.out⟩

theorem some_take {c : List Int} {k : Nat} (hk : k < c.length) (h : ∀ j, j < k → c.getD j 0 = 0) (hx : c.getD k 0 = 0) : ∀ j, j < k + 1 → c.getD j 0 = 0 := fun j hj => by
  rcases Nat.lt_or_ge j k with g | g
  · exact h j g
  · rw [show j = k from by omega]; exact hx
theorem some_not {c : List Int} (h : ∀ j, j < c.length → c.getD j 0 = 0) : ¬ ∃ x ∈ c, x ≠ 0 := by
  rintro ⟨x, hx, hn⟩
  obtain ⟨j, hj, rfl⟩ := List.mem_iff_getElem.1 hx
  have := h j hj
  rw [List.getD_eq_getElem?_getD, List.getElem?_eq_getElem hj] at this
  exact hn this
theorem trs_hit {l : List Int} {d : Nat} {t : Int} {k : Nat} {a : Int} (h : (cfs l t d a []).2.2 = 0) (s : ∃ x ∈ (cfs l t d a []).1, x ≠ 0) : trs l d t (k + 1) a = cfs l t d a [] := by rw [trs, if_pos h, if_pos s]
theorem trs_more {l : List Int} {d : Nat} {t : Int} {k : Nat} {a : Int} (h : (cfs l t d a []).2.2 = 0) (s : ¬ ∃ x ∈ (cfs l t d a []).1, x ≠ 0) : trs l d t (k + 1) a = trs l d t k (cfs l t d a []).2.1 := by rw [trs, if_pos h, if_neg s]
theorem trs_fail {l : List Int} {d : Nat} {t : Int} {k : Nat} {a : Int} (h : ¬ (cfs l t d a []).2.2 = 0) : trs l d t (k + 1) a = ([], 0, (cfs l t d a []).2.2) := by rw [trs, if_neg h]
theorem cfs_err (l : List Int) (t : Int) : ∀ (k : Nat) (a : Int) (acc : List Int), ¬ (cfs l t k a acc).2.2 = 0 → (cfs l t k a acc).1 = [] ∧ (cfs l t k a acc).2.1 = 0
  | 0, a, acc => fun h => absurd rfl h
  | k + 1, a, acc => fun h => by
    unfold cfs at h ⊢
    split
    · rename_i g; rw [if_pos g] at h; exact cfs_err l t k _ _ h
    · exact ⟨rfl, rfl⟩
theorem cfs_at {l : List Int} {t a : Int} {d : Nat} (hl : (l.length : Int) ≤ 9223372036854775807) (hd : 1 ≤ d) (h : (cfs l t d a []).2.2 = 0) (ha : 0 ≤ a) : (0 ≤ (cfs l t d a []).2.1 ∧ (cfs l t d a []).2.1 ≤ 9223372036854775807) ∧ (cfs l t d a []).1.length = d := by
  obtain ⟨q1, q2, q3, q4, q5⟩ := cfs_pos l t d a [] h (by simp)
  have := q2 (by omega)
  refine ⟨by omega, by rw [q4]; simp⟩
set_option maxHeartbeats 4000000 in
theorem pick_Coefs_go (A : Option Addr) (l : List Int) (c D T : Nat) (a : Int) (w : World) (hA : LiesU w w.heap.size A l) (hu : ∀ x ∈ l, U64 x) (hl : (l.length : Int) ≤ 9223372036854775807) (hD1 : 1 ≤ D) (hD : D ≤ 8) (h0 : 0 ≤ a) (h1 : a ≤ 9223372036854775807) (hT1 : 1 ≤ T) (hT : T ≤ 64) :
    Calls Try.prog 26 #[.slice A l.length c, .int .i64 a, .int .i64 D, .int .i64 T] w (GivesC (trs l D T T a) w) := by
  have KC := Lib.hid (fun W (h : Below w.heap.size w W) j (g0 : 0 ≤ j) (g1 : j ≤ 9223372036854775807) => pick_coefs A l c D j T W ((hA.below h).mono h.size) hu hl hD g0 g1)
  have HAT := Lib.hid (fun j => cfs_at (l := l) (a := j) (t := T) (d := D) hl hD1)
  have KW := Lib.hid (pick_within D 1 8)
  rw [show decide ((1 : Int) ≤ D ∧ (D : Int) ≤ 8) = true from by simp; omega] at KW
  have KM := Lib.hid (pick_may a T)
  rw [show decide (0 ≤ a ∧ (1 : Int) ≤ T ∧ (T : Int) ≤ 64) = true from by simp; omega] at KM
  clear hA hu hl
  generalize hN : l.length = N at *
  have HN := Lib.hid hN
  clear hN
  go_enter Try.func26, Try.ntmps26
  go_wp2_with fail
  refine (KW.out _).mono ?_
  rintro e1 w1 ⟨rfl, rfl⟩
  go_wp2_with fail
  refine (KM.out _).mono ?_
  rintro e1 w2 ⟨rfl, rfl⟩
  go_wp2
  go_loopw [1, 26] (fun av i wr => ∃ (k : Nat) (j : Int), k ≤ T ∧ i = .int .i64 k ∧ av = .int .i64 j ∧ Hid (trs l D T T a = trs l D T (T - k) j) ∧ Hid (0 ≤ j ∧ j ≤ 9223372036854775807) ∧ Hid (Below w.heap.size w wr)) (fun _ i _ => T - (intOf i).toNat)
  case atStart => exact ⟨0, a, by omega, rfl, rfl, rfl, ⟨h0, h1⟩, Below.refl _ _⟩
  case round =>
    obtain ⟨k, j, hk, rfl, rfl, HF, HJ, HB⟩ := hrel
    by_cases hlt : k < T
    · have K := Lib.hid (KC.out wr HB.out j HJ.out.1 HJ.out.2)
      have HH := Lib.hid (fun h s => trs_hit (l := l) (d := D) (t := T) (k := T - k - 1) (a := j) h s)
      have HM := Lib.hid (fun h s => trs_more (l := l) (d := D) (t := T) (k := T - k - 1) (a := j) h s)
      have HX := Lib.hid (fun h => trs_fail (l := l) (d := D) (t := T) (k := T - k - 1) (a := j) h)
      have HA2 := Lib.hid (HAT.out j)
      generalize cfs l T D j [] = F at *
      obtain ⟨cs, p, e⟩ := F
      simp only at HH HM HX HA2
      have hlg : (k : Int) < (T : Int) := by omega
      go_wp2_with fail
      refine K.out.mono ?_
      rintro e1 w2 ⟨A2, c2, rfl, g1, g2, g3, gf, b2⟩
      have HFR := Lib.hid (gf.mono HB.out.size)
      clear gf
      simp only at g1 g3
      by_cases he : e = 0
      · subst he
        have hcl := (HA2.out rfl HJ.out.1).2
        have HCL := Lib.hid hcl
        have HLI := Lib.hid g3
        have HB2 := Lib.hid (HB.out.trans (b2.mono HB.out.size))
        clear g3 b2
        rw [hcl] at g1
        rw [show ((cs, p, (0 : Int)).1.length) = D from hcl]
        go_wp2
        go_loopw [42] (fun i wr2 => ∃ (q : Nat), q ≤ D ∧ i = .int .i64 q ∧ wr2 = w2 ∧ Hid (∀ x, x < q → cs.getD x 0 = 0)) (fun i _ => D - (intOf i).toNat)
        case atStart => exact ⟨0, by omega, rfl, rfl, fun x hx => absurd hx (by omega)⟩
        case round =>
          obtain ⟨q, hq, rfl, rfl, HQ⟩ := hrel
          by_cases hlt2 : q < D
          · obtain ⟨ad, rfl, _, hcell⟩ := HLI.out.at (k := q) (by have := HCL.out; omega)
            have HST := Lib.hid (fun h => some_take (c := cs) (k := q) (by have := HCL.out; omega) HQ.out h)
            have HSO : Hid (¬ cs.getD q 0 = 0 → ∃ x ∈ cs, x ≠ 0) := fun h => ⟨_, mem_getD (by have := HCL.out; omega), h⟩
            generalize cs.getD q 0 = y at *
            have hq2 : (q : Int) < (D : Int) := by omega
            by_cases hy : y = 0
            · subst hy
              go_wp2
              refine ⟨⟨q + 1, by omega, by go_num, by first | trivial | rfl, HST.out (by first | trivial | rfl)⟩, by first | (simp [intOf]; done) | (simp [intOf]; omega)⟩
            · have hyn : (y != 0) = true := by simpa using hy
              go_wp2
              go_ret3
              have h2 := HH.out trivial (HSO.out hy)
              rw [show T - k - 1 + 1 = T - k from by omega] at h2
              rw [HF.out, h2]
              exact ⟨_, c2, by rw [show (cs, p, (0 : Int)).1.length = D from HCL.out]; rfl, by simp only; rw [HCL.out]; exact g1, g2, HLI.out, HFR.out, HB2.out⟩
          · obtain rfl : q = D := by omega
            go_wp2
            have h2 := HM.out trivial (some_not (by rw [HCL.out]; exact HQ.out))
            rw [show T - k - 1 + 1 = T - k from by omega] at h2
            refine ⟨⟨k + 1, p, by omega, by go_num, rfl, by show _ = _; rw [HF.out, h2, show T - (k + 1) = T - k - 1 from by omega], (HA2.out trivial HJ.out.1).1, HB2.out⟩, by first | (simp [intOf]; done) | (simp [intOf]; omega)⟩
      · have hne : (e != 0) = true := by simpa using he
        go_wp2
        go_ret3
        have h2 := HX.out he
        rw [show T - k - 1 + 1 = T - k from by omega] at h2
        rw [HF.out, h2]
        exact givesC_nil (HB.out.trans (b2.mono HB.out.size))
    · obtain rfl : k = T := by omega
      go_wp2
      go_ret3
      have hF := HF.out
      rw [Nat.sub_self, trs] at hF
      rw [hF]
      exact givesC_nil HB.out
end Go.Proofs.Ytehekdahlnpldaa
