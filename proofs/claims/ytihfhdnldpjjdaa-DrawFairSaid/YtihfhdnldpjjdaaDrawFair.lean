/- Statement DrawFair: whatever the input is, the Go function returns true and each argument reads as it did. No condition. -/
import Derived.Test.YtihfhdnldpjjdaaRows
import Derived.Test.YtihfhdnldpjjdaaDrawF
import Derived.Test.YtihfhdnldpjjdaaBigC
import Derived.Test.YtihfhdnldpjjdaaBase
import Derived.ProofKit
import Derived.OpenShut
namespace Go.Proofs.Ytihfhdnldpjjdaa.drawFair
open Go.ChangeShapes Go.WideShapes Go.ChangeAt Go.RowKit
set_option linter.unusedVariables false

theorem own : ownKnob Try.prog.godebug = none := by kernel_rfl
theorem laid : laidOutB Try.prog = true := by kernel_rfl

theorem lit_big (w : World) (l : List Int) (n : Int) (h : digs n = l) (hn : 0 ≤ n) : IsBig (w.alloc (.cells (lits l).toArray 3)) n (.slice (some ⟨w.heap.size, 0, none⟩) l.length l.length) := by
  refine ⟨hn, _, l.length, by rw [h], ?_⟩
  rw [h, alloc_size']
  exact lies_new w l
theorem digs_1 : digs 1 = [1] := by rw [digs_s (by omega), digs_0 (by decide)]; rfl
theorem digs_turn : digs 18446744073709551616 = [0, 0, 0, 0, 1] := by
  rw [digs_s (by omega), show (18446744073709551616 : Int) / 65536 = 281474976710656 from rfl, digs_s (by omega), show (281474976710656 : Int) / 65536 = 4294967296 from rfl, digs_s (by omega), show (4294967296 : Int) / 65536 = 65536 from rfl, digs_s (by omega), show (65536 : Int) / 65536 = 1 from rfl, digs_1]; rfl
theorem cmpI_le {x y : Int} (h : x ≤ y) : ¬ 0 < cmpI x y := by unfold cmpI; split <;> (try split) <;> omega
theorem cmpI_lt {x y : Int} (h : x < y) : ¬ 0 ≤ cmpI x y := by unfold cmpI; split <;> (try split) <;> omega
theorem cmpI_eq {x y : Int} (h : x = y) : cmpI x y = 0 := by unfold cmpI; split <;> (try split) <;> omega
theorem bnd_one {Z n : Int} (hn : 0 < n) (h : Z ≤ topN n) : bnd [Z] 0 n 1 = (Z % n, 1, 0) := by
  have ha : Asks 0 n 1 := by unfold Asks; omega
  unfold bnd
  rw [if_pos ha]
  show hit n (fnd [Z] (topN n) 1 0) = _
  rw [fnd_hit (by simp) (by simpa using h)]
  rfl
set_option maxHeartbeats 4000000 in
theorem walk (n : Int) (hn : U64 n) (k : Int) (hk : U64 k) (r : Int) (hr : U64 r) (w : World) :
    Calls Try.prog 9 #[.int .u64 n, .int .u64 k, .int .u64 r] w fun e w' => e = .returned (.bool true) ∧ Below w.heap.size w w' := by
  have KT := Lib.hid (draw_top n hn)
  have KR := Lib.hid (ref_top6 n hn)
  have KS := Lib.hid (draw_share n hn)
  by_cases h2 : n < 2
  · rw [show shareN n = 0 from by unfold shareN; rw [if_pos h2]] at KS
    generalize topN n = T at *
    go_enter Try.func9, Try.ntmps9
    go_wp2_with fail
    refine (KT.out _).mono ?_
    rintro e w1 ⟨rfl, rfl⟩
    go_wp2_with fail
    refine (KR.out _).mono ?_
    rintro e w1 ⟨rfl, rfl⟩
    go_wp2_with fail
    refine (KS.out _).mono ?_
    rintro e w1 ⟨rfl, rfl⟩
    go_wp2_with fail
    refine (lives6 _).mono ?_
    rintro e w2 ⟨rfl, b2⟩
    go_wp2
    go_ret
    exact ⟨rfl, b2⟩
  · have hsh : shareN n = 18446744073709551616 / n := by unfold shareN; rw [if_neg h2]
    have htp : topN n = 18446744073709551615 - 18446744073709551616 % n := by unfold topN; rw [if_neg (by omega)]
    have hdm := Int.mul_ediv_add_emod 18446744073709551616 n
    have hm1 := Int.emod_nonneg 18446744073709551616 (show n ≠ 0 by omega)
    have hm2 := Int.emod_lt_of_pos 18446744073709551616 (show 0 < n by omega)
    have hs0 : 0 < 18446744073709551616 / n := by
      unfold U64 at hn
      rcases Int.lt_or_le 0 (18446744073709551616 / n) with h | h
      · exact h
      · exfalso
        have : n * (18446744073709551616 / n) ≤ 0 := Int.mul_nonpos_of_nonneg_of_nonpos (by omega) h
        omega
    have hs1 : 18446744073709551616 / n ≤ 9223372036854775808 := by
      have h3 : 2 * (18446744073709551616 / n) ≤ n * (18446744073709551616 / n) := Int.mul_le_mul_of_nonneg_right (by omega) (by omega)
      omega
    rw [← hsh] at hdm hs0 hs1
    have hbo := Lib.hid (fun Z (h : Z ≤ topN n) => bnd_one (n := n) (show 0 < n by omega) h)
    generalize 18446744073709551616 % n = R at *
    have hmul : shareN n * n = 18446744073709551616 - R := by rw [Int.mul_comm]; omega
    generalize topN n = T at *
    generalize hS : shareN n = S at *
    clear hsh
    have hTR : T + 1 = 18446744073709551616 - R := by omega
    clear htp hdm
    have hr1 := Int.emod_nonneg r (show S ≠ 0 by omega)
    have hr2 := Int.emod_lt_of_pos r hs0
    have hk1 := Int.emod_nonneg k (show n ≠ 0 by omega)
    have hk2 := Int.emod_lt_of_pos k (show 0 < n by omega)
    have hrn : r % S * n ≤ (S - 1) * n := Int.mul_le_mul_of_nonneg_right (by omega) (by omega)
    have hrn0 : 0 ≤ r % S * n := Int.mul_nonneg hr1 (by omega)
    rw [Int.sub_mul, Int.one_mul, hmul] at hrn
    have hmod : (r % S * n + k % n) % n = k % n := by rw [Int.add_comm, Int.add_mul_emod_self_right, Int.emod_emod_of_dvd _ (Int.dvd_refl n)]
    go_enter Try.func9, Try.ntmps9
    go_wp2_with fail
    refine (KS.out _).mono ?_
    rintro e w1 ⟨rfl, rfl⟩
    have hSu : U64 S := by unfold U64; omega
    go_wp2_with fail
    refine (big_of S hSu _).mono ?_
    rintro e w1 ⟨v1, rfl, B1, b1⟩
    go_wp2_with fail
    refine (big_of n hn _).mono ?_
    rintro e w2 ⟨v2, rfl, B2, b2⟩
    have p40 : (340282366920938463463374607431768211456 : Int) < pw 40 := by unfold pw; decide +kernel
    go_wp2_with fail
    refine (big_times (B1.below b2) B2 (by unfold U64 at hSu; omega) (by unfold U64 at hn; omega)).mono ?_
    rintro e w3 ⟨v3, rfl, B3, b3⟩
    rw [hmul] at B3
    have c3 := b1.trans ((b2.mono b1.size).trans (b3.mono (b1.trans (b2.mono b1.size)).size))
    have B4 := lit_big w3 _ _ digs_turn (by omega)
    have B3a := B3.below ((Below.refl _ _).alloc (Nat.le_refl _) (.cells (lits [0, 0, 0, 0, 1]).toArray 3))
    have c4 := c3.alloc c3.size (.cells (lits [0, 0, 0, 0, 1]).toArray 3)
    have g1 := cmpI_le (show (18446744073709551616 - R : Int) ≤ 18446744073709551616 by omega)
    have B2a := (B2.below b3).below ((Below.refl _ _).alloc (Nat.le_refl _) (.cells (lits [0, 0, 0, 0, 1]).toArray 3))
    generalize hv4 : (Value.slice (some ⟨w3.heap.size, 0, none⟩) ([0, 0, 0, 0, 1] : List Int).length ([0, 0, 0, 0, 1] : List Int).length) = v4 at *
    have hv4' : Value.slice (some ⟨w3.heap.size, 0, none⟩) 5 5 = v4 := hv4
    generalize hW4 : w3.alloc (.cells (lits [0, 0, 0, 0, 1]).toArray 3) = W4 at *
    have hW4' : w3.alloc (.cells #[.int .i64 0, .int .i64 0, .int .i64 0, .int .i64 0, .int .i64 1] 3) = W4 := hW4
    clear hv4 hW4
    go_wp2_with fail
    refine (big_order B3a B4 (by omega)).mono ?_
    rintro e w5 ⟨rfl, b5⟩
    have c5 := c4.trans (b5.mono c4.size)
    generalize cmpI (18446744073709551616 - R) 18446744073709551616 = q1 at *
    go_wp2_with fail
    refine (big_minus (B4.below b5) (B3a.below b5) (by omega) (by omega)).mono ?_
    rintro e w6 ⟨v6, rfl, B6, b6⟩
    rw [show (18446744073709551616 : Int) - (18446744073709551616 - R) = R from by omega] at B6
    have c6 := c5.trans (b6.mono c5.size)
    go_wp2_with fail
    refine (big_of n hn _).mono ?_
    rintro e w7 ⟨v7, rfl, B7, b7⟩
    have c7 := c6.trans (b7.mono c6.size)
    have g2 := cmpI_lt (show R < n from hm2)
    go_wp2_with fail
    refine (big_order (B6.below b7) B7 (by omega)).mono ?_
    rintro e w8 ⟨rfl, b8⟩
    have c8 := c7.trans (b8.mono c7.size)
    generalize cmpI R n = q2 at *
    have hTu : U64 T := by unfold U64; omega
    go_wp2_with fail
    refine (KT.out _).mono ?_
    rintro e w9 ⟨rfl, rfl⟩
    go_wp2_with fail
    refine (big_of T hTu _).mono ?_
    rintro e w9 ⟨v9, rfl, B9, b9⟩
    have c9 := c8.trans (b9.mono c8.size)
    have B10 := lit_big w9 _ _ digs_1 (by omega)
    have B9a := B9.below ((Below.refl _ _).alloc (Nat.le_refl _) (.cells (lits [1]).toArray 3))
    have c10 := c9.alloc c9.size (.cells (lits [1]).toArray 3)
    have B3b := ((((B3a.below b5).below b6).below b7).below b8).below b9
    have B3c := B3b.below ((Below.refl _ _).alloc (Nat.le_refl _) (.cells (lits [1]).toArray 3))
    go_wp2_with fail
    refine (big_plus B9a B10 (by omega) (by omega)).mono ?_
    rintro e w11 ⟨v11, rfl, B11, b11⟩
    rw [hTR] at B11
    have c11 := c10.trans (b11.mono c10.size)
    go_wp2_with fail
    refine (big_order B11 (B3c.below b11) (by omega)).mono ?_
    rintro e w12 ⟨rfl, b12⟩
    rw [cmpI_eq rfl]
    have c12 := c11.trans (b12.mono c11.size)
    have hkm : Int.tmod k n = k % n := Int.tmod_eq_emod_of_nonneg (by unfold U64 at hk; omega)
    have hrm : Int.tmod r S = r % S := Int.tmod_eq_emod_of_nonneg (by unfold U64 at hr; omega)
    have hw1 : IntKind.u64.wrap (r % S * n) = r % S * n := by simp only [u64w]; omega
    have hw2 : IntKind.u64.wrap (r % S * n + k % n) = r % S * n + k % n := by simp only [u64w]; omega
    have HBo := Lib.hid (hbo.out (r % S * n + k % n) (by omega))
    rw [hmod] at HBo
    have hz1 : r % S * n + k % n < 18446744073709551616 := by omega
    have hz0 : 0 ≤ r % S * n + k % n := by omega
    clear hbo B2 B3 B4 B3a B2a B6 B7 B9 B10 B9a B3b B3c B11 B1
    generalize r % S = y at *
    generalize k % n = x at *
    have hS0 : ¬ S = 0 := by omega
    have hn0 : ¬ n = 0 := by omega
    go_wp2_with fail
    go_quiet (fail)
    have c13 := below_drewN' c12 nq
    generalize w12.drewN nq = w13 at *
    have KL := Lib.hid (draw_bound (some ⟨w13.heap.size, 0, none⟩) [y * n + x] 1 0 n 1 (w13.alloc (.cells #[.int .u64 (y * n + x)] 35)) (by
      have h := liesU_new w13 [y * n + x]
      rw [← alloc_size' w13 (.cells (litu [y * n + x]).toArray 35)] at h
      exact h) (by intro z hz; rw [List.mem_singleton.1 hz]; exact ⟨hz0, hz1⟩) (by simp) hn (by unfold I64; omega))
    rw [HBo.out] at KL
    have c14 := c13.alloc c13.size (.cells #[.int .u64 (y * n + x)] 35)
    go_wp2_with fail
    refine KL.out.mono ?_
    rintro e w15 ⟨rfl, b15⟩
    have c15 := c14.trans (b15.mono c14.size)
    go_wp2_with fail
    refine (lives6 _).mono ?_
    rintro e w16 ⟨rfl, b16⟩
    go_wp2
    go_ret
    exact ⟨rfl, c15.trans (b16.mono c15.size)⟩

set_option maxRecDepth 100000 in
theorem lifted (os : Os) (started : os.Started) (H : Type) (enc : TypeId × Value → H) :
    ReturnsInHanded {} Try.checked os 9 .any (Rows.drawFairSpec.pre6 enc Try.prog Try.f9 Rows.drawFairRow.domain false) (Rows.drawFairSpec.post enc Try.prog Try.f9 false true false false) := by
  refine returnsInHanded_of_change (C := Try.checked) own started (by kernel_rfl) Try.func9
    (ChangeSpec.witness6 (enc := enc) (C := Try.checked) false ⟨#[], #[.int .u64 0, .int .u64 0, .int .u64 0], []⟩ 8 (by kernel_rfl) (by kernel_rfl) (by kernel_rfl) (by kernel_rfl)) ?_
  intro W base args ds gs before hval0 hW hcnd _
  have hval : ∀ (j : Nat) t v, Try.f9.params[j]? = some t → args[j]? = some v → Value.okWide Try.prog W .any base t v := hval0
  have hW' := hW
  obtain ⟨p, q, hA0, hV, rfl, hfz, hnd⟩ := hW
  obtain ⟨rfl, rfl⟩ := trodVars_none hV
  have hA : DataW.TrodAll enc Try.prog W 0 (fun _ => true) true Try.f9.params.toList args.toList ds p := hA0
  rw [Try.params9] at hA hval
  obtain ⟨v0, vs0, d0, ds0, p0, q0, hargs, rfl, rfl, h0, r0⟩ := trodAll_cons hA
  obtain ⟨v1, vs1, d1, ds1, p1, q1, rfl, rfl, rfl, h1, r1⟩ := trodAll_cons r0
  obtain ⟨v2, vs2, d2, ds2, p2, q2, rfl, rfl, rfl, h2, r2⟩ := trodAll_cons r1
  obtain ⟨rfl, rfl, rfl⟩ := trodAll_nil r2
  obtain rfl : args = #[v0, v1, v2] := by cases args; simp_all
  obtain ⟨a0, rfl, _, _, w0⟩ := open_int Try.underlying35 (hval 0 35 v0 rfl rfl) h0
  obtain ⟨a1, rfl, _, _, w1⟩ := open_int Try.underlying35 (hval 1 35 v1 rfl rfl) h1
  obtain ⟨a2, rfl, _, _, w2⟩ := open_int Try.underlying35 (hval 2 35 v2 rfl rfl) h2
  refine (walk a0 (u64_of_wf w0) a1 (u64_of_wf w1) a2 (u64_of_wf w2) W).mono fun e W' ⟨he, hg⟩ => ?_
  subst he
  exact ⟨_, rfl, law_post laid (by rw [Try.params9]; exact (by decide +kernel)) rfl (by kernel_rfl) Try.underlying4 rfl hW' hg⟩

theorem over : Rows.drawFairRow.holds Try.pinned (OpenSpec.ofChange Rows.drawFairSpec) :=
  OpenClaim.holds_of_wide 9 Try.f9 rfl rfl rfl rfl rfl rfl rfl ⟨rfl, rfl, rfl, rfl, rfl⟩ rfl rfl rfl rfl rfl (by kernel_rfl) Try.func9 (by kernel_rfl)
    (of_decide_eq_true (by kernel_rfl)) (by unfold Func.isWrapper; first | (rw [if_pos (by decide +kernel)]; kernel_rfl) | (rw [if_neg (by decide +kernel)]; exact ⟨rfl, rfl⟩))
    (fun os started H enc _ => lifted os started H enc)
theorem proved : Rows.DrawFairSaid := over
end Go.Proofs.Ytihfhdnldpjjdaa.drawFair
