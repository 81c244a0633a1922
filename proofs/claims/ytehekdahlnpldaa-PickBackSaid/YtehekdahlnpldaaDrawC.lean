import Derived.Test.YtehekdahlnpldaaDrawB

/-! Package draw: Bound, Range, Coin; the reference's. -/
namespace Go.Proofs.Ytehekdahlnpldaa
open Go.RowKit
set_option linter.unusedVariables false
set_option linter.unusedSimpArgs false

/-- what a bound that may be asked tells: the number, the place behind, the error -/
def hit (n : Int) (r : Int × Int × Int) : Int × Int × Int := if r.2.2 = 0 then (r.1 % n, r.2.1, 0) else (0, 0, r.2.2)
/-- what may be asked of any bound -/
def Asks (a n t : Int) : Prop := ¬ n = 0 ∧ 0 ≤ a ∧ 1 ≤ t ∧ t ≤ 64
instance (a n t : Int) : Decidable (Asks a n t) := by unfold Asks; exact inferInstance
def bnd (l : List Int) (a n t : Int) : Int × Int × Int := if Asks a n t then hit n (fnd l (topN n) t.toNat a.toNat) else (0, 0, 1)
abbrev bndV (r : Int × Int × Int) : Value := .tuple #[.int .u64 r.1, .int .i64 r.2.1, .int .i64 r.2.2]
theorem bnd_no {l : List Int} {a n t : Int} (h : ¬ Asks a n t) : Ending.returned (.tuple #[.int .u64 0, .int .i64 0, .int .i64 1]) = .returned (bndV (bnd l a n t)) := by
  unfold bnd; rw [if_neg h]
theorem bnd_yes {l : List Int} {n : Int} {k T : Nat} (h : Asks k n T) : bnd l k n T = hit n (fnd l (topN n) T k) := by
  unfold bnd; rw [if_pos h]; rfl
theorem hit_0 {n x y : Int} : hit n (x, y, 0) = (x % n, y, 0) := rfl
theorem hit_e {n x y z : Int} (h : ¬ z = 0) : hit n (x, y, z) = (0, 0, z) := by unfold hit; rw [if_neg h]
theorem fnd_u64 (l : List Int) (hl : ∀ x ∈ l, U64 x) (top : Int) : ∀ (t k : Nat), U64 (fnd l top t k).1
  | 0, k => by unfold fnd U64; simp
  | t + 1, k => by
    unfold fnd
    split
    · split
      · exact getD_u64 hl k
      · exact fnd_u64 l hl top t (k + 1)
    · unfold U64; simp

theorem dre2 (w : World) (a b : Nat) : ∃ n, (w.drewN a).drewN b = w.drewN n := ⟨_, World.drewN_drewN _ _ _⟩
theorem dre3 (w : World) (a b c : Nat) : ∃ n, ((w.drewN a).drewN b).drewN c = w.drewN n := by
  obtain ⟨n, h⟩ := dre2 w a b
  rw [h]; exact dre2 _ _ _
theorem below_of_alloc {w w' : World} {o : Obj} (h : Below w.heap.size (w.alloc o) w') : Below w.heap.size w w' := ((Below.refl _ _).alloc (Nat.le_refl _) o).trans h
theorem draw_bound_no (A : Option Addr) (l : List Int) (c : Nat) (a n t : Int) (w : World) (h : ¬ Asks a n t) :
    Calls Try.prog 58 #[.slice A l.length c, .int .i64 a, .int .u64 n, .int .i64 t] w fun e w' => e = .returned (bndV (bnd l a n t)) ∧ Below w.heap.size w w' := by
  have HV := Lib.hid (bnd_no (l := l) h)
  generalize bnd l a n t = R at *
  generalize l.length = N at *
  by_cases hn : n = 0
  · subst hn
    go_enter Try.func58, Try.ntmps58
    go_wp2
    go_ret3
    exact ⟨HV.out, Below.refl _ _⟩
  · have hm : decide (0 ≤ a ∧ 1 ≤ t ∧ t ≤ 64) = false := by unfold Asks at h; simp; omega
    have K := Lib.hid (draw_may a t)
    rw [hm] at K
    go_enter Try.func58, Try.ntmps58
    go_wp2_with fail
    refine (K.out _).mono ?_
    rintro e w1 ⟨rfl, rfl⟩
    go_wp2
    go_ret3
    exact ⟨HV.out, Below.refl _ _⟩
theorem draw_bound (A : Option Addr) (l : List Int) (c : Nat) (a n t : Int) (w : World) (hA : LiesU w w.heap.size A l) (hu : ∀ x ∈ l, U64 x) (hl : (l.length : Int) ≤ 9223372036854775807) (hn : U64 n) (hat : I64 a) :
    Calls Try.prog 58 #[.slice A l.length c, .int .i64 a, .int .u64 n, .int .i64 t] w fun e w' => e = .returned (bndV (bnd l a n t)) ∧ Below w.heap.size w w' := by
  by_cases h : Asks a n t
  · obtain ⟨k, rfl⟩ : ∃ k : Nat, a = k := ⟨a.toNat, by unfold Asks at h; omega⟩
    obtain ⟨T, rfl⟩ : ∃ T : Nat, t = T := ⟨t.toNat, by unfold Asks at h; omega⟩
    have HV := Lib.hid (bnd_yes (l := l) h)
    have hn0 : 0 < n := by unfold Asks at h; unfold U64 at hn; omega
    have hT : T ≤ 64 := by unfold Asks at h; omega
    have hm : decide (0 ≤ (k : Int) ∧ 1 ≤ (T : Int) ∧ (T : Int) ≤ 64) = true := by unfold Asks at h; simp; omega
    have K := Lib.hid (draw_may k T)
    rw [hm] at K
    have KT := Lib.hid (draw_top n hn)
    have HU := Lib.hid (fnd_u64 l hu (topN n) T k)
    have KF := Lib.hid (fun W (hW : Below w.heap.size w W) g (hg : w.heap.size ≤ g) (hx : Box W g #[.slice A l.length c, .int .i64 k] 109) => draw_find A l c g k T (topN n) W ((hA.below hW).mono hg) hl hx hT (by unfold I64 at hat; omega))
    generalize fnd l (topN n) T k = F at *
    obtain ⟨d, p, e⟩ := F
    generalize topN n = top at *
    generalize bnd l k n T = R at *
    clear hA hu h hm
    generalize l.length = N at *
    have hmf : ∀ (fn : Fn) (first cap : Array Value) (w : World), (Instr.makeFunc fn first cap).run Try.prog w = .ok (.func fn first cap) w := fun _ _ _ _ => rfl
    obtain ⟨hn1, hn2⟩ := hn
    by_cases he : e = 0
    · subst he
      rw [hit_0] at HV
      go_enter Try.func58, Try.ntmps58
      go_wp2_with fail
      refine (K.out _).mono ?_
      rintro e1 w1 ⟨rfl, rfl⟩
      go_wp2_with fail
      refine (KT.out _).mono ?_
      rintro e1 w1 ⟨rfl, rfl⟩
      go_wp2_with fail
      refine (KF.out _ ((Below.refl _ _).alloc (Nat.le_refl _) _) w.heap.size (Nat.le_refl _) (Box.new _ _ _)).mono ?_
      rintro e1 w1 ⟨rfl, B1, b1⟩
      obtain ⟨c0, c1, f0, f1⟩ := B1.two
      go_wp2_with fail
      go_quiet (fail)
      go_wp2
      go_ret3
      have hd := HU.out
      unfold U64 at hd
      rw [Int.tmod_eq_emod_of_nonneg hd.1]
      exact ⟨by rw [HV.out]; rfl, below_of_alloc (below_drewN' b1 nq)⟩
    · rw [hit_e he] at HV
      have hne : (e != 0) = true := by simpa using he
      go_enter Try.func58, Try.ntmps58
      go_wp2_with fail
      refine (K.out _).mono ?_
      rintro e1 w1 ⟨rfl, rfl⟩
      go_wp2_with fail
      refine (KT.out _).mono ?_
      rintro e1 w1 ⟨rfl, rfl⟩
      go_wp2_with fail
      refine (KF.out _ ((Below.refl _ _).alloc (Nat.le_refl _) _) w.heap.size (Nat.le_refl _) (Box.new _ _ _)).mono ?_
      rintro e1 w1 ⟨rfl, B1, b1⟩
      go_wp2
      go_ret3
      exact ⟨by rw [HV.out]; rfl, below_of_alloc b1⟩
  · exact draw_bound_no A l c a n t w h
theorem ref_bound6 (A : Option Addr) (l : List Int) (c : Nat) (a n t : Int) (w : World) (hA : LiesU w w.heap.size A l) (hu : ∀ x ∈ l, U64 x) (hl : (l.length : Int) ≤ 9223372036854775807) (hn : U64 n) (hat : I64 a) :
    Calls Try.prog 62 #[.slice A l.length c, .int .i64 a, .int .u64 n, .int .i64 t] w fun e w' => e = .returned (bndV (bnd l a n t)) ∧ ∃ m, w' = w.drewN m := by
  by_cases h : Asks a n t
  · obtain ⟨k0, rfl⟩ : ∃ k : Nat, a = k := ⟨a.toNat, by unfold Asks at h; omega⟩
    obtain ⟨T, rfl⟩ : ∃ T : Nat, t = T := ⟨t.toNat, by unfold Asks at h; omega⟩
    have HV := Lib.hid (bnd_yes (l := l) h)
    have hn0 : 0 < n := by unfold Asks at h; unfold U64 at hn; omega
    have hT : T ≤ 64 := by unfold Asks at h; omega
    have hT1 : 1 ≤ T := by unfold Asks at h; omega
    have KT := Lib.hid (ref_top6 n hn)
    generalize topN n = top at *
    generalize bnd l k0 n T = R at *
    have HA := Lib.hid hA
    have HU := Lib.hid (getD_u64 hu)
    clear hA h hu
    generalize hN : l.length = N at *
    have HN := Lib.hid hN
    clear hN
    have hk0 : (k0 : Int) ≤ 9223372036854775807 := by unfold I64 at hat; omega
    obtain ⟨hn1, hn2⟩ := hn
    have hz : (n == 0 || decide ((k0 : Int) < 0) || decide ((T : Int) < 1) || decide (64 < (T : Int))) = false := by simp; omega
    go_enter Try.func62, Try.ntmps62
    go_wp2
    go_loopw [1, 11] (fun av i wr => ∃ k j : Nat, k ≤ T ∧ i = .int .i64 k ∧ av = .int .i64 j ∧ Hid (j = k0 + k) ∧ Hid (fnd l top T k0 = fnd l top (T - k) j) ∧ Hid (∃ m, wr = w.drewN m)) (fun _ i _ => T - (intOf i).toNat)
    case atStart => exact ⟨0, k0, by omega, rfl, rfl, rfl, rfl, ⟨0, rfl⟩⟩
    case round =>
      obtain ⟨k, j, hk, rfl, rfl, HJ, HF, HM⟩ := hrel
      have HAr : Hid (LiesU wr w.heap.size A l) := by obtain ⟨m, hm⟩ := HM.out; show LiesU _ _ _ _; rw [hm]; exact HA.out
      by_cases hlt : k < T
      · by_cases hin : j < N
        · obtain ⟨ad, rfl, hadb, hcell⟩ := HAr.out.at (k := j) (by have := HN.out; omega)
          have HX := Lib.hid (HU.out j)
          have HH := Lib.hid (fun (h : l.getD j 0 ≤ top) => fnd_hit (l := l) (top := top) (t := T - k - 1) (k := j) (by have := HN.out; omega) h)
          have HO := Lib.hid (fun (h : ¬ l.getD j 0 ≤ top) => fnd_more (l := l) (top := top) (t := T - k - 1) (k := j) (by have := HN.out; omega) h)
          generalize l.getD j 0 = x at *
          by_cases hx : x ≤ top
          · have HE := Lib.hid (HH.out hx)
            clear HH HO
            go_wp2_with fail
            have hji : (j : Int) < (N : Int) := by omega
            go_quiet ((go_at_call 101; exact Calls.quiet_of_same (still_of (KT.out _))))
            go_wp2
            go_ret3
            have h2 := HE.out
            rw [show T - k - 1 + 1 = T - k from by omega] at h2
            refine ⟨?_, by obtain ⟨m, hm⟩ := HM.out; rw [hm]; exact dre2 _ _ _⟩
            have hd := HX.out
            unfold U64 at hd
            rw [HV.out, HF.out, h2, Int.tmod_eq_emod_of_nonneg hd.1]; rfl
          · have HE := Lib.hid (HO.out (by omega))
            clear HH HO
            go_wp2_with fail
            have hji : (j : Int) < (N : Int) := by omega
            go_quiet ((go_at_call 101; exact Calls.quiet_of_same (still_of (KT.out _))))
            go_wp2
            refine ⟨⟨k + 1, j + 1, by omega, by go_num, by first | rfl | go_num, (by have := HJ.out; show _ = _; omega), ?_, (by obtain ⟨m, hm⟩ := HM.out; rw [hm]; exact dre2 _ _ _)⟩, by first | (simp [intOf]; done) | (simp [intOf]; omega)⟩
            have h2 := HE.out
            rw [show T - k - 1 + 1 = T - k from by omega] at h2
            show _ = _
            rw [HF.out, h2, show T - (k + 1) = T - k - 1 from by omega]
        · have HH := Lib.hid (fnd_out (l := l) (top := top) (t := T - k - 1) (k := j) (by have := HN.out; omega))
          go_wp2
          go_ret3
          have h2 := HH.out
          rw [show T - k - 1 + 1 = T - k from by omega] at h2
          refine ⟨?_, HM.out⟩
          rw [HV.out, HF.out, h2]; rfl
      · obtain rfl : k = T := by omega
        go_wp2
        go_ret3
        refine ⟨?_, HM.out⟩
        rw [HV.out, HF.out, show k - k = 0 from by omega, fnd_0]; rfl
  · have HV := Lib.hid (bnd_no (l := l) h)
    generalize bnd l a n t = R at *
    clear hA
    generalize l.length = N at *
    unfold Asks at h
    by_cases hn : n = 0
    · subst hn
      go_enter Try.func62, Try.ntmps62
      go_wp2
      go_ret3
      exact ⟨HV.out, 0, rfl⟩
    · go_enter Try.func62, Try.ntmps62
      go_wp2
      all_goals first | (exfalso; omega) | (go_ret3; exact ⟨HV.out, 0, rfl⟩) | trace_state

/-! ### Range, Coin -/
def rng (l : List Int) (a lo hi t : Int) : Int × Int × Int :=
  if lo ≤ hi ∧ 0 ≤ a ∧ 1 ≤ t ∧ t ≤ 64 then
    (if hi - lo + 1 = 18446744073709551616 then (if a < l.length then (wrap64 (l.getD a.toNat 0), a + 1, 0) else (0, 0, 60))
     else let r := bnd l a (hi - lo + 1) t; if r.2.2 = 0 then (lo + r.1, r.2.1, 0) else (0, 0, r.2.2))
  else (0, 0, 1)
abbrev rngV (r : Int × Int × Int) : Value := .tuple #[.int .i64 r.1, .int .i64 r.2.1, .int .i64 r.2.2]
theorem bnd_lt {l : List Int} {a n t : Int} (hn : 0 < n) : 0 ≤ (bnd l a n t).1 ∧ (bnd l a n t).1 < n := by
  unfold bnd hit
  split
  · split
    · exact ⟨Int.emod_nonneg _ (by omega), Int.emod_lt_of_pos _ hn⟩
    · simp; omega
  · simp; omega
theorem rng_no {l : List Int} {a lo hi t : Int} (h : ¬ (lo ≤ hi ∧ 0 ≤ a ∧ 1 ≤ t ∧ t ≤ 64)) : Ending.returned (.tuple #[.int .i64 0, .int .i64 0, .int .i64 1]) = .returned (rngV (rng l a lo hi t)) := by
  unfold rng; rw [if_neg h]
theorem draw_range (A : Option Addr) (l : List Int) (c : Nat) (a lo hi t : Int) (w : World) (hA : LiesU w w.heap.size A l) (hu : ∀ x ∈ l, U64 x) (hl : (l.length : Int) ≤ 9223372036854775807) (h1 : I64 lo) (h2 : I64 hi) (hat : I64 a) :
    Calls Try.prog 103 #[.slice A l.length c, .int .i64 a, .int .i64 lo, .int .i64 hi, .int .i64 t] w fun e w' => e = .returned (rngV (rng l a lo hi t)) ∧ Below w.heap.size w w' := by
  by_cases h : lo ≤ hi ∧ 0 ≤ a ∧ 1 ≤ t ∧ t ≤ 64
  · obtain ⟨ha, hb, hc⟩ := h
    have hm : decide (0 ≤ a ∧ 1 ≤ t ∧ t ≤ 64) = true := by simp; omega
    have K := Lib.hid (draw_may a t)
    rw [hm] at K
    obtain ⟨h11, h12⟩ := h1
    obtain ⟨h21, h22⟩ := h2
    by_cases hz : hi - lo + 1 = 18446744073709551616
    · obtain rfl : lo = -9223372036854775808 := by omega
      obtain rfl : hi = 9223372036854775807 := by omega
      have KN := Lib.hid (draw_next A l c _ a w hA hl)
      have hz0 : (IntKind.u64.wrap (IntKind.u64.wrap (IntKind.u64.wrap 9223372036854775807 - IntKind.u64.wrap (-9223372036854775808)) + 1) == 0) = true := by decide
      have hR : Hid (Ending.returned (.tuple #[.int .i64 (wrap64 (nextN l a)), .int .i64 (nextA l a), .int .i64 (nextE l a)]) = .returned (rngV (rng l a (-9223372036854775808) 9223372036854775807 t))) := by
        show _ = _
        unfold rng
        rw [if_pos (by omega), if_pos (by omega)]
        unfold nextN nextA nextE
        by_cases hh : a < l.length
        · rw [if_pos (by omega), if_pos (by omega), if_neg (by omega), if_pos hh, if_pos hh]
        · rw [if_neg (by omega), if_neg (by omega), if_neg (by omega), if_neg (by omega), if_neg hh, show wrap64 0 = 0 from by simp [wrap64]]
      generalize l.length = N at *
      go_enter Try.func103, Try.ntmps103
      go_wp2_with fail
      refine (K.out _).mono ?_
      rintro e1 w1 ⟨rfl, rfl⟩
      go_wp2_with fail
      refine KN.out.mono ?_
      rintro e1 w1 ⟨rfl, rfl⟩
      go_wp2
      go_ret3
      exact ⟨hR.out, Below.refl _ _⟩
    · have KB := Lib.hid (draw_bound A l c a (hi - lo + 1) t w hA hu hl (by unfold U64; omega) hat)
      have hlt := bnd_lt (l := l) (a := a) (n := hi - lo + 1) (t := t) (by omega)
      have hw : IntKind.u64.wrap (IntKind.u64.wrap (IntKind.u64.wrap hi - IntKind.u64.wrap lo) + 1) = hi - lo + 1 := by simp only [u64w]; omega
      have hz0 : (IntKind.u64.wrap (IntKind.u64.wrap (IntKind.u64.wrap hi - IntKind.u64.wrap lo) + 1) == 0) = false := by rw [hw]; simp; omega
      have HV : Hid (rng l a lo hi t = if (bnd l a (hi - lo + 1) t).2.2 = 0 then (lo + (bnd l a (hi - lo + 1) t).1, (bnd l a (hi - lo + 1) t).2.1, 0) else (0, 0, (bnd l a (hi - lo + 1) t).2.2)) := by
        show _ = _
        unfold rng
        rw [if_pos (by omega), if_neg hz]
      generalize rng l a lo hi t = R at *
      generalize bnd l a (hi - lo + 1) t = F at *
      obtain ⟨d, p, e⟩ := F
      simp only at hlt
      clear hA hu
      generalize hN : l.length = N at *
      go_enter Try.func103, Try.ntmps103
      go_wp2_with fail
      refine (K.out _).mono ?_
      rintro e1 w1 ⟨rfl, rfl⟩
      go_wp2_with fail
      refine KB.out.mono ?_
      rintro e1 w1 ⟨rfl, b1⟩
      by_cases he : e = 0
      · subst he
        go_wp2
        go_ret3
        refine ⟨?_, b1⟩
        rw [show R = (lo + d, p, 0) from HV.out.trans (if_pos trivial)]
        refine ret3i ?_ rfl rfl
        unfold wrap64
        omega
      · have hne : (e != 0) = true := by simpa using he
        go_wp2
        go_ret3
        refine ⟨?_, b1⟩
        rw [show R = (0, 0, e) from HV.out.trans (if_neg he)]; rfl
  · have HV := Lib.hid (rng_no (l := l) h)
    generalize rng l a lo hi t = R at *
    clear hA
    generalize l.length = N at *
    by_cases hh : hi < lo
    · go_enter Try.func103, Try.ntmps103
      go_wp2
      go_ret3
      exact ⟨HV.out, Below.refl _ _⟩
    · have hm : decide (0 ≤ a ∧ 1 ≤ t ∧ t ≤ 64) = false := by simp; omega
      have K := Lib.hid (draw_may a t)
      rw [hm] at K
      go_enter Try.func103, Try.ntmps103
      go_wp2_with fail
      refine (K.out _).mono ?_
      rintro e w1 ⟨rfl, rfl⟩
      go_wp2
      go_ret3
      exact ⟨HV.out, Below.refl _ _⟩
theorem ref_range6 (A : Option Addr) (l : List Int) (c : Nat) (a lo hi t : Int) (w : World) (hA : LiesU w w.heap.size A l) (hu : ∀ x ∈ l, U64 x) (hl : (l.length : Int) ≤ 9223372036854775807) (h1 : I64 lo) (h2 : I64 hi) (hat : I64 a) :
    Calls Try.prog 66 #[.slice A l.length c, .int .i64 a, .int .i64 lo, .int .i64 hi, .int .i64 t] w fun e w' => e = .returned (rngV (rng l a lo hi t)) ∧ Below w.heap.size w w' := by
  obtain ⟨h11, h12⟩ := h1
  obtain ⟨h21, h22⟩ := h2
  by_cases h : lo ≤ hi ∧ 0 ≤ a ∧ 1 ≤ t ∧ t ≤ 64
  · obtain ⟨ha, hb, hc⟩ := h
    have hg : (decide (hi < lo) || decide (a < 0) || decide (t < 1) || decide (64 < t)) = false := by simp; omega
    by_cases hz : hi - lo + 1 = 18446744073709551616
    · obtain rfl : lo = -9223372036854775808 := by omega
      obtain rfl : hi = 9223372036854775807 := by omega
      have hz0 : (IntKind.u64.wrap (IntKind.u64.wrap (IntKind.u64.wrap 9223372036854775807 - IntKind.u64.wrap (-9223372036854775808)) + 1) == 0) = true := by decide
      obtain ⟨k, rfl⟩ : ∃ k : Nat, a = k := ⟨a.toNat, by omega⟩
      by_cases hin : k < l.length
      · obtain ⟨ad, rfl, hadb, hcell⟩ := hA.at hin
        have hR : Hid (Ending.returned (.tuple #[.int .i64 (wrap64 (l.getD k 0)), .int .i64 (k + 1), .int .i64 0]) = .returned (rngV (rng l k (-9223372036854775808) 9223372036854775807 t))) := by
          show _ = _
          unfold rng
          rw [if_pos (by omega), if_pos (by omega), if_pos (by omega)]; rfl
        generalize l.getD k 0 = x at *
        generalize rng l k (-9223372036854775808) 9223372036854775807 t = R at *
        have hji : (k : Int) < (l.length : Int) := by omega
        clear hA hu
        generalize l.length = N at *
        go_enter Try.func66, Try.ntmps66
        go_wp2
        go_ret3
        exact ⟨hR.out, Below.refl _ _⟩
      · have hR : Hid (Ending.returned (.tuple #[.int .i64 0, .int .i64 0, .int .i64 60]) = .returned (rngV (rng l k (-9223372036854775808) 9223372036854775807 t))) := by
          show _ = _
          unfold rng
          rw [if_pos (by omega), if_pos (by omega), if_neg (by omega)]
        have hji : (l.length : Int) ≤ (k : Int) := by omega
        generalize rng l k (-9223372036854775808) 9223372036854775807 t = R at *
        clear hA hu
        generalize l.length = N at *
        go_enter Try.func66, Try.ntmps66
        go_wp2
        go_ret3
        exact ⟨hR.out, Below.refl _ _⟩
    · have KB := Lib.hid (ref_bound6 A l c a (hi - lo + 1) t w hA hu hl (by unfold U64; omega) hat)
      have hlt := bnd_lt (l := l) (a := a) (n := hi - lo + 1) (t := t) (by omega)
      have hw : IntKind.u64.wrap (IntKind.u64.wrap (IntKind.u64.wrap hi - IntKind.u64.wrap lo) + 1) = hi - lo + 1 := by simp only [u64w]; omega
      have hz0 : (IntKind.u64.wrap (IntKind.u64.wrap (IntKind.u64.wrap hi - IntKind.u64.wrap lo) + 1) == 0) = false := by rw [hw]; simp; omega
      have HV : Hid (rng l a lo hi t = if (bnd l a (hi - lo + 1) t).2.2 = 0 then (lo + (bnd l a (hi - lo + 1) t).1, (bnd l a (hi - lo + 1) t).2.1, 0) else (0, 0, (bnd l a (hi - lo + 1) t).2.2)) := by
        show _ = _
        unfold rng
        rw [if_pos (by omega), if_neg hz]
      generalize rng l a lo hi t = R at *
      generalize bnd l a (hi - lo + 1) t = F at *
      obtain ⟨d, p, e⟩ := F
      simp only at hlt
      clear hA hu
      generalize hN : l.length = N at *
      go_enter Try.func66, Try.ntmps66
      go_wp2_with fail
      refine KB.out.mono ?_
      rintro e1 w1 ⟨rfl, m, rfl⟩
      by_cases he : e = 0
      · subst he
        go_wp2
        go_ret3
        refine ⟨?_, below_drewN' (Below.refl _ _) m⟩
        rw [show R = (lo + d, p, 0) from HV.out.trans (if_pos trivial)]
        refine ret3i ?_ rfl rfl
        simp only [u64w]
        unfold wrap64
        omega
      · have hne : (e != 0) = true := by simpa using he
        go_wp2
        go_ret3
        refine ⟨?_, below_drewN' (Below.refl _ _) m⟩
        rw [show R = (0, 0, e) from HV.out.trans (if_neg he)]; rfl
  · have HV := Lib.hid (rng_no (l := l) h)
    generalize rng l a lo hi t = R at *
    clear hA
    generalize l.length = N at *
    have hg : (decide (hi < lo) || decide (a < 0) || decide (t < 1) || decide (64 < t)) = true := by simp; omega
    go_enter Try.func66, Try.ntmps66
    go_wp2
    all_goals first | (exfalso; omega) | (go_ret3; exact ⟨HV.out, Below.refl _ _⟩) | trace_state

def coin (l : List Int) (a p q t : Int) : Bool × Int × Int :=
  if 1 ≤ q ∧ 0 ≤ p ∧ p ≤ q then (let r := bnd l a q t; (decide (r.2.2 = 0) && decide (r.1 < p), r.2.1, r.2.2)) else (false, 0, 1)
abbrev coinV (r : Bool × Int × Int) : Value := .tuple #[.bool r.1, .int .i64 r.2.1, .int .i64 r.2.2]
theorem coin_no {l : List Int} {a p q t : Int} (h : ¬ (1 ≤ q ∧ 0 ≤ p ∧ p ≤ q)) : Ending.returned (.tuple #[.bool false, .int .i64 0, .int .i64 1]) = .returned (coinV (coin l a p q t)) := by
  unfold coin; rw [if_neg h]
theorem bnd_err {l : List Int} {a n t : Int} (h : ¬ (bnd l a n t).2.2 = 0) : bnd l a n t = (0, 0, (bnd l a n t).2.2) := by
  unfold bnd hit at *
  split
  · split
    · rename_i h1 h2; rw [if_pos h1, if_pos h2] at h; exact absurd rfl h
    · rfl
  · rfl
end Go.Proofs.Ytehekdahlnpldaa
