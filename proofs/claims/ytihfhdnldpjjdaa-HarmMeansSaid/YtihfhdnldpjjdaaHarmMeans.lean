/- Statement HarmMeans: whatever the input is, the Go function returns true and each argument reads as it did. No condition. -/
import Derived.Test.YtihfhdnldpjjdaaRows
import Derived.Test.YtihfhdnldpjjdaaHarmG
import Derived.Test.YtihfhdnldpjjdaaBase
import Derived.ProofKit
import Derived.OpenShut
namespace Go.Proofs.Ytihfhdnldpjjdaa.harmMeans
open Go.ChangeShapes Go.WideShapes Go.ChangeAt Go.RowKit
set_option linter.unusedVariables false

theorem own : ownKnob Try.prog.godebug = none := by kernel_rfl
theorem laid : laidOutB Try.prog = true := by kernel_rfl

theorem cmpI_le' {x y : Int} (h : x ≤ y) : cmpI x y ≤ 0 := by unfold cmpI; split <;> (try split) <;> omega
theorem lt400_u : (1073741824 : Int) < pw 400 := by
  have h3 : pw 20 ≤ pw 400 := pw_mono (by omega)
  have h4 : (1073741824 : Int) < pw 20 := by unfold pw; decide +kernel
  omega
theorem lt400_2 : (2 : Int) < pw 400 := by have := lt400_u; omega
theorem norm_mid {m : Nat} (h : m ≤ 256) : endLo m ≤ normN m ∧ normN m ≤ endHi m := by
  have := ends_bd h
  unfold normN; omega
theorem norm_0 {m : Nat} (h : m < 2) : normN m = 0 := by
  unfold normN endLo endHi; rw [if_pos h, if_pos h]; rfl
set_option maxRecDepth 100000 in
set_option maxHeartbeats 8000000 in
theorem walk (n : Int) (hn : I64 n) (w : World) :
    Calls Try.prog 5 #[.int .i64 n] w fun e w' => e = .returned (.bool true) ∧ Below w.heap.size w w' := by
  have K1 := Lib.hid (harm_Ends n)
  have K2 := Lib.hid (harm_norm n)
  have KH := Lib.hid (ref5_held n)
  have hH := heldN_le n
  generalize heldN n = m at *
  obtain ⟨n1, n2⟩ := norm_mid hH
  have hbd := ends_bd hH
  have n1' : ¬ normN m < endLo m := by omega
  have n2' : ¬ endHi m < normN m := by omega
  have n3' : ¬ endLo m < 0 := by omega
  by_cases h0 : m < 2
  · have hz := norm_0 h0
    have KN := Lib.hid (harm_norm ((m : Int) + 1))
    rw [show heldN ((m : Int) + 1) = m + 1 from by unfold heldN; split <;> (try split) <;> omega] at KN
    have hg := Lib.hid (grows_ok m (by omega))
    rw [hz] at K2 hg n1' n2'
    generalize endLo m = lo at *
    generalize endHi m = hi at *
    generalize normN (m + 1) = z at *
    have hm2 : (m : Int) < 2 := by omega
    have hm3 : (m : Int) < 256 := by omega
    by_cases h1 : m = 0
    · subst h1
      go_enter Try.func5, Try.ntmps5
      go_wp2_with fail
      refine (KH.out _).mono ?_
      rintro e w3 ⟨rfl, rfl⟩
      go_wp2_with fail
      refine (K1.out _).mono ?_
      rintro e w1 ⟨rfl, b1⟩
      go_wp2_with fail
      refine (K2.out _).mono ?_
      rintro e w2 ⟨rfl, b2⟩
      have c2 := b1.trans (b2.mono b1.size)
      go_wp2_with fail
      refine (lives5 _).mono ?_
      rintro e w12 ⟨rfl, b12⟩
      go_wp2
      go_ret
      exact ⟨rfl, c2.trans (b12.mono c2.size)⟩
    · have hz1 : ¬ z ≤ 0 := by have := hg.out (by omega); omega
      have hm1 : 1 ≤ (m : Int) := by omega
      go_enter Try.func5, Try.ntmps5
      go_wp2_with fail
      refine (KH.out _).mono ?_
      rintro e w3 ⟨rfl, rfl⟩
      go_wp2_with fail
      refine (K1.out _).mono ?_
      rintro e w1 ⟨rfl, b1⟩
      go_wp2_with fail
      refine (K2.out _).mono ?_
      rintro e w2 ⟨rfl, b2⟩
      have c2 := b1.trans (b2.mono b1.size)
      go_wp2_with fail
      refine (KN.out _).mono ?_
      rintro e w3 ⟨rfl, b3⟩
      have c3 := c2.trans (b3.mono c2.size)
      go_wp2_with fail
      refine (lives5 _).mono ?_
      rintro e w12 ⟨rfl, b12⟩
      go_wp2
      go_ret
      exact ⟨rfl, c3.trans (b12.mono c3.size)⟩
  · have KN0 := Lib.hid (harm_norm ((m : Int) + 1))
    have hg0 := Lib.hid (fun h => grows_ok m h (by omega))
    have KS := Lib.hid (law_sum (m - 1) (by omega))
    have hsub := means_sub (k := m) (by omega)
    have g1 := means_lo (k := m) (by omega)
    have g2 := means_hi (k := m) (by omega)
    have h1 := lowF_lt (k := m - 1) (by omega)
    have h2 := topF_lt (k := m - 1) (by omega)
    have h5 := lowF_pos (m - 1)
    have h6 := topF_nonneg (m - 1)
    have hp := pw_257_400
    have hp2 := pw_pos 257
    have hp3 := pw_pos 258
    have hp4 := pw_mono (show 257 ≤ 258 by omega)
    have p2 : (1000000000000 : Int) < pw 10 := by unfold pw; decide +kernel
    have p6 : pw 20 * pw 258 < pw 400 := by
      rw [← pw_add]
      have h3 : pw (20 + 258) ≤ pw 399 := pw_mono (by omega)
      have h4 : pw 400 = pw 399 * 65536 := pw_s 399
      have h5 := pw_pos 399
      omega
    have p7 : (1000000000000 * 256 : Int) < pw 20 := by unfold pw; decide +kernel
    have p8 : (256 * 2 * 1073741824 : Int) < pw 20 := by unfold pw; decide +kernel
    have p9 : pw 20 < pw 400 := by
      have h3 : pw 20 ≤ pw 399 := pw_mono (by omega)
      have h4 : pw 400 = pw 399 * 65536 := pw_s 399
      have h5 := pw_pos 399
      omega
    have hm1 : ((m - 1 : Nat) : Int) = (m : Int) - 1 := by omega
    generalize lowF (m - 1) = L at *
    generalize topF (m - 1) = T at *
    have hx : (2 : Int) ≤ m := by omega
    have hx2 : (m : Int) ≤ 256 := by omega
    have TX0 : 0 ≤ T * (m : Int) := Int.mul_nonneg h6 (by omega)
    have LX0 : 0 ≤ L * ((m : Int) - 1) := Int.mul_nonneg (by omega) (by omega)
    have TX : T * (m : Int) ≤ T * 256 := Int.mul_le_mul_of_nonneg_left (by omega) h6
    have LX : L * (m : Int) ≤ L * 256 := Int.mul_le_mul_of_nonneg_left (by omega) (by omega)
    have LXp : 0 < L * (m : Int) := Int.mul_pos h5 (by omega)
    have T20 : T * 256 * 2 * 1073741824 < pw 400 := by
      have a1 := Int.mul_le_mul_of_nonneg_left (show (256 * 2 * 1073741824 : Int) ≤ pw 20 by omega) h6
      have a2 := Int.mul_le_mul_of_nonneg_right (show T ≤ pw 258 by omega) (show 0 ≤ pw 20 by omega)
      rw [Int.mul_comm (pw 258)] at a2
      omega
    have E20 : endLo m * (L * (m : Int)) < pw 400 := by
      have a1 := Int.mul_le_mul_of_nonneg_right (show endLo m ≤ 1000000000000 by omega) (show 0 ≤ L * (m : Int) by omega)
      have a2 := Int.mul_le_mul_of_nonneg_left (show L ≤ pw 258 by omega) (show (0 : Int) ≤ 1000000000000 * 256 by omega)
      have a3 := Int.mul_le_mul_of_nonneg_right (show (1000000000000 * 256 : Int) ≤ pw 20 by omega) (show 0 ≤ pw 258 by omega)
      omega
    have hD0 : 0 ≤ T * (m : Int) - L * ((m : Int) - 1) := by omega
    have b1 : T * (m : Int) < pw 400 := by omega
    have b2 : L * (m : Int) < pw 400 := by omega
    have b3 : T * (m : Int) - L * ((m : Int) - 1) < pw 400 := by omega
    have b4 : (T * (m : Int) - L * ((m : Int) - 1)) * 2 < pw 400 := by omega
    have b5 : (T * (m : Int) - L * ((m : Int) - 1)) * 2 * 1073741824 < pw 400 := by omega
    have L400 : L < pw 400 := by omega
    have T400 : T < pw 400 := by omega
    have m400 : (m : Int) < pw 400 := by omega
    have k400 : (m : Int) - 1 < pw 400 := by omega
    have lo400 : endLo m < pw 400 := by omega
    have hi400 : endHi m < pw 400 := by omega
    have u400 : (1073741824 : Int) < pw 400 := by omega
    have t400 : (2 : Int) < pw 400 := by omega
    clear hp hp2 hp3 hp4 p2 p6 p7 p8 p9 T20 TX LX TX0 LX0 LXp h1 h2 h5 h6
    have c1 := cmpI_le' g1
    have c2 := cmpI_le' g2
    clear g1 g2
    have hw1 : IntKind.u64.wrap (m : Int) = m := by simp only [u64w]; omega
    have hw2 : IntKind.u64.wrap ((m : Int) - 1) = (m : Int) - 1 := by simp only [u64w]; omega
    have hw3 : IntKind.u64.wrap (endLo m) = endLo m := by simp only [u64w]; omega
    have hw4 : IntKind.u64.wrap (endHi m) = endHi m := by simp only [u64w]; omega
    have u1 : U64 (m : Int) := by unfold U64; omega
    have u2 : U64 ((m : Int) - 1) := by unfold U64; omega
    have u3 : U64 (endLo m) := by unfold U64; omega
    have u4 : U64 (endHi m) := by unfold U64; omega
    have hm2' : ¬ (m : Int) < 2 := by omega
    have hm1' : 1 ≤ (m : Int) := by omega
    rw [hm1] at KS
    generalize normN m = nm at *
    generalize endLo m = lo at *
    generalize endHi m = hi at *
    have Hb1 := Lib.hid b1
    have Hb2 := Lib.hid b2
    have Hb3 := Lib.hid b3
    have Hb4 := Lib.hid b4
    have Hb5 := Lib.hid b5
    have HL400 := Lib.hid L400
    have HT400 := Lib.hid T400
    have Hm400 := Lib.hid m400
    have Hk400 := Lib.hid k400
    have Hlo400 := Lib.hid lo400
    have Hhi400 := Lib.hid hi400
    have HE20 := Lib.hid E20
    have Hhsub := Lib.hid hsub
    have Hu1 := Lib.hid u1
    have Hu2 := Lib.hid u2
    have Hu3 := Lib.hid u3
    have Hu4 := Lib.hid u4
    clear u400 t400
    clear b1 b2 b3 b4 b5 L400 T400 m400 k400 lo400 hi400 E20 hsub u1 u2 u3 u4 hD0 hbd n1 n2 hm1
    generalize hX : pw 400 = X at *
    have HX := Lib.hid hX
    clear hX
    have HC1 := Lib.hid c1
    have HC2 := Lib.hid c2
    clear c1 c2
    by_cases h256 : m = 256
    · have hk : ¬ (m : Int) < 256 := by omega
      clear h256 h0 hH
      go_enter Try.func5, Try.ntmps5
      go_wp2_with fail
      refine (KH.out _).mono ?_
      rintro e w3 ⟨rfl, rfl⟩
      go_wp2_with fail
      refine (K1.out _).mono ?_
      rintro e w1 ⟨rfl, d1⟩
      go_wp2_with fail
      refine (K2.out _).mono ?_
      rintro e w2 ⟨rfl, d2⟩
      have e2 := d1.trans (d2.mono d1.size)
      go_wp2_with fail
      refine (KS.out _).mono ?_
      rintro e w3 ⟨vt, vl, rfl, BT, BL, d3⟩
      have e3 := e2.trans (d3.mono e2.size)
      go_wp2_with fail
      refine (big_of (m : Int) Hu1.out _).mono ?_
      rintro e w4 ⟨v4, rfl, B4, d4⟩
      have e4 := e3.trans (d4.mono e3.size)
      go_wp2_with fail
      refine (bigl_times (BT.below d4) B4 (by rw [HX.out]; exact HT400.out) (by rw [HX.out]; exact Hm400.out)).mono ?_
      rintro e w5 ⟨v5, rfl, B5, d5⟩
      have e5 := e4.trans (d5.mono e4.size)
      have BL5 := (BL.below d4).below d5
      have B45 := B4.below d5
      go_wp2_with fail
      refine (big_of ((m : Int) - 1) Hu2.out _).mono ?_
      rintro e w6 ⟨v6, rfl, B6, d6⟩
      have e6 := e5.trans (d6.mono e5.size)
      go_wp2_with fail
      refine (bigl_times (BL5.below d6) B6 (by rw [HX.out]; exact HL400.out) (by rw [HX.out]; exact Hk400.out)).mono ?_
      rintro e w7 ⟨v7, rfl, B7, d7⟩
      have e7 := e6.trans (d7.mono e6.size)
      go_wp2_with fail
      refine (bigl_minus ((B5.below d6).below d7) B7 (by rw [HX.out]; exact Hb1.out) Hhsub.out).mono ?_
      rintro e w8 ⟨v8, rfl, B8, d8⟩
      have e8 := e7.trans (d8.mono e7.size)
      have B9 := big_lit w8 [2] 2 dig_2 (by omega)
      have e9 := e8.alloc e8.size (.cells (lits [2]).toArray 3)
      have dz := (Below.refl w8.heap.size w8).alloc (Nat.le_refl _) (.cells (lits [2]).toArray 3)
      have B8a := B8.below dz
      have BLa := (((BL5.below d6).below d7).below d8).below dz
      have B4a := (((B45.below d6).below d7).below d8).below dz
      go_wp2_with fail
      refine (bigl_times B8a B9 (by rw [HX.out]; exact Hb3.out) lt400_2).mono ?_
      rintro e w10 ⟨v10, rfl, B10, d10⟩
      have e10 := e9.trans (d10.mono e9.size)
      go_wp2_with fail
      refine (big_of 1073741824 (by unfold U64; omega) _).mono ?_
      rintro e w11 ⟨v11, rfl, B11, d11⟩
      have e11 := e10.trans (d11.mono e10.size)
      go_wp2_with fail
      refine (bigl_times (B10.below d11) B11 (by rw [HX.out]; exact Hb4.out) lt400_u).mono ?_
      rintro e w12 ⟨v12, rfl, B12, d12⟩
      have e12 := e11.trans (d12.mono e11.size)
      have BL12 := ((BLa.below d10).below d11).below d12
      have B412 := ((B4a.below d10).below d11).below d12
      go_wp2_with fail
      refine (bigl_times BL12 B412 (by rw [HX.out]; exact HL400.out) (by rw [HX.out]; exact Hm400.out)).mono ?_
      rintro e w13 ⟨v13, rfl, B13, d13⟩
      have e13 := e12.trans (d13.mono e12.size)
      go_wp2_with fail
      refine (big_of lo Hu3.out _).mono ?_
      rintro e w14 ⟨v14, rfl, B14, d14⟩
      have e14 := e13.trans (d14.mono e13.size)
      go_wp2_with fail
      refine (bigl_times B14 (B13.below d14) (by rw [HX.out]; exact Hlo400.out) (by rw [HX.out]; exact Hb2.out)).mono ?_
      rintro e w15 ⟨v15, rfl, B15, d15⟩
      have e15 := e14.trans (d15.mono e14.size)
      have B12f := ((B12.below d13).below d14).below d15
      have B13f := (B13.below d14).below d15
      go_wp2_with fail
      refine (bigl_order B15 B12f (by rw [HX.out]; exact HE20.out)).mono ?_
      rintro e w16 ⟨rfl, d16⟩
      have e16 := e15.trans (d16.mono e15.size)
      have c1 := HC1.out
      generalize cmpI (lo * (L * (m : Int))) ((T * (m : Int) - L * ((m : Int) - 1)) * 2 * 1073741824) = z1 at *
      go_wp2_with fail
      refine (big_of hi Hu4.out _).mono ?_
      rintro e w17 ⟨v17, rfl, B17, d17⟩
      have e17 := e16.trans (d17.mono e16.size)
      go_wp2_with fail
      refine (bigl_times B17 ((B13f.below d16).below d17) (by rw [HX.out]; exact Hhi400.out) (by rw [HX.out]; exact Hb2.out)).mono ?_
      rintro e w18 ⟨v18, rfl, B18, d18⟩
      have e18 := e17.trans (d18.mono e17.size)
      go_wp2_with fail
      refine (bigl_order (((B12f.below d16).below d17).below d18) B18 (by rw [HX.out]; exact Hb5.out)).mono ?_
      rintro e w19 ⟨rfl, d19⟩
      have e19 := e18.trans (d19.mono e18.size)
      have c2 := HC2.out
      generalize cmpI ((T * (m : Int) - L * ((m : Int) - 1)) * 2 * 1073741824) (hi * (L * (m : Int))) = z2 at *
      go_wp2_with fail
      refine (lives5 _).mono ?_
      rintro e w20 ⟨rfl, d20⟩
      go_wp2
      go_ret
      exact ⟨rfl, e19.trans (d20.mono e19.size)⟩
    · have hk : (m : Int) < 256 := by omega
      have KN := Lib.hid KN0.out
      rw [show heldN ((m : Int) + 1) = m + 1 from by unfold heldN; split <;> (try split) <;> omega] at KN
      have hg := hg0.out (by omega)
      generalize normN (m + 1) = z at *
      have hz1 : ¬ z ≤ nm := by omega
      clear h256 h0 hH hg
      go_enter Try.func5, Try.ntmps5
      go_wp2_with fail
      refine (KH.out _).mono ?_
      rintro e w3 ⟨rfl, rfl⟩
      go_wp2_with fail
      refine (K1.out _).mono ?_
      rintro e w1 ⟨rfl, d1⟩
      go_wp2_with fail
      refine (K2.out _).mono ?_
      rintro e w2 ⟨rfl, d2⟩
      have e2 := d1.trans (d2.mono d1.size)
      go_wp2_with fail
      refine (KN.out _).mono ?_
      rintro e w3 ⟨rfl, d3⟩
      have e2 := e2.trans (d3.mono e2.size)
      go_wp2_with fail
      refine (KS.out _).mono ?_
      rintro e w3 ⟨vt, vl, rfl, BT, BL, d3⟩
      have e3 := e2.trans (d3.mono e2.size)
      go_wp2_with fail
      refine (big_of (m : Int) Hu1.out _).mono ?_
      rintro e w4 ⟨v4, rfl, B4, d4⟩
      have e4 := e3.trans (d4.mono e3.size)
      go_wp2_with fail
      refine (bigl_times (BT.below d4) B4 (by rw [HX.out]; exact HT400.out) (by rw [HX.out]; exact Hm400.out)).mono ?_
      rintro e w5 ⟨v5, rfl, B5, d5⟩
      have e5 := e4.trans (d5.mono e4.size)
      have BL5 := (BL.below d4).below d5
      have B45 := B4.below d5
      go_wp2_with fail
      refine (big_of ((m : Int) - 1) Hu2.out _).mono ?_
      rintro e w6 ⟨v6, rfl, B6, d6⟩
      have e6 := e5.trans (d6.mono e5.size)
      go_wp2_with fail
      refine (bigl_times (BL5.below d6) B6 (by rw [HX.out]; exact HL400.out) (by rw [HX.out]; exact Hk400.out)).mono ?_
      rintro e w7 ⟨v7, rfl, B7, d7⟩
      have e7 := e6.trans (d7.mono e6.size)
      go_wp2_with fail
      refine (bigl_minus ((B5.below d6).below d7) B7 (by rw [HX.out]; exact Hb1.out) Hhsub.out).mono ?_
      rintro e w8 ⟨v8, rfl, B8, d8⟩
      have e8 := e7.trans (d8.mono e7.size)
      have B9 := big_lit w8 [2] 2 dig_2 (by omega)
      have e9 := e8.alloc e8.size (.cells (lits [2]).toArray 3)
      have dz := (Below.refl w8.heap.size w8).alloc (Nat.le_refl _) (.cells (lits [2]).toArray 3)
      have B8a := B8.below dz
      have BLa := (((BL5.below d6).below d7).below d8).below dz
      have B4a := (((B45.below d6).below d7).below d8).below dz
      go_wp2_with fail
      refine (bigl_times B8a B9 (by rw [HX.out]; exact Hb3.out) lt400_2).mono ?_
      rintro e w10 ⟨v10, rfl, B10, d10⟩
      have e10 := e9.trans (d10.mono e9.size)
      go_wp2_with fail
      refine (big_of 1073741824 (by unfold U64; omega) _).mono ?_
      rintro e w11 ⟨v11, rfl, B11, d11⟩
      have e11 := e10.trans (d11.mono e10.size)
      go_wp2_with fail
      refine (bigl_times (B10.below d11) B11 (by rw [HX.out]; exact Hb4.out) lt400_u).mono ?_
      rintro e w12 ⟨v12, rfl, B12, d12⟩
      have e12 := e11.trans (d12.mono e11.size)
      have BL12 := ((BLa.below d10).below d11).below d12
      have B412 := ((B4a.below d10).below d11).below d12
      go_wp2_with fail
      refine (bigl_times BL12 B412 (by rw [HX.out]; exact HL400.out) (by rw [HX.out]; exact Hm400.out)).mono ?_
      rintro e w13 ⟨v13, rfl, B13, d13⟩
      have e13 := e12.trans (d13.mono e12.size)
      go_wp2_with fail
      refine (big_of lo Hu3.out _).mono ?_
      rintro e w14 ⟨v14, rfl, B14, d14⟩
      have e14 := e13.trans (d14.mono e13.size)
      go_wp2_with fail
      refine (bigl_times B14 (B13.below d14) (by rw [HX.out]; exact Hlo400.out) (by rw [HX.out]; exact Hb2.out)).mono ?_
      rintro e w15 ⟨v15, rfl, B15, d15⟩
      have e15 := e14.trans (d15.mono e14.size)
      have B12f := ((B12.below d13).below d14).below d15
      have B13f := (B13.below d14).below d15
      go_wp2_with fail
      refine (bigl_order B15 B12f (by rw [HX.out]; exact HE20.out)).mono ?_
      rintro e w16 ⟨rfl, d16⟩
      have e16 := e15.trans (d16.mono e15.size)
      have c1 := HC1.out
      generalize cmpI (lo * (L * (m : Int))) ((T * (m : Int) - L * ((m : Int) - 1)) * 2 * 1073741824) = z1 at *
      go_wp2_with fail
      refine (big_of hi Hu4.out _).mono ?_
      rintro e w17 ⟨v17, rfl, B17, d17⟩
      have e17 := e16.trans (d17.mono e16.size)
      go_wp2_with fail
      refine (bigl_times B17 ((B13f.below d16).below d17) (by rw [HX.out]; exact Hhi400.out) (by rw [HX.out]; exact Hb2.out)).mono ?_
      rintro e w18 ⟨v18, rfl, B18, d18⟩
      have e18 := e17.trans (d18.mono e17.size)
      go_wp2_with fail
      refine (bigl_order (((B12f.below d16).below d17).below d18) B18 (by rw [HX.out]; exact Hb5.out)).mono ?_
      rintro e w19 ⟨rfl, d19⟩
      have e19 := e18.trans (d19.mono e18.size)
      have c2 := HC2.out
      generalize cmpI ((T * (m : Int) - L * ((m : Int) - 1)) * 2 * 1073741824) (hi * (L * (m : Int))) = z2 at *
      go_wp2_with fail
      refine (lives5 _).mono ?_
      rintro e w20 ⟨rfl, d20⟩
      go_wp2
      go_ret
      exact ⟨rfl, e19.trans (d20.mono e19.size)⟩

set_option maxRecDepth 100000 in
theorem lifted (os : Os) (started : os.Started) (H : Type) (enc : TypeId × Value → H) :
    ReturnsInHanded {} Try.checked os 5 .any (Rows.harmMeansSpec.pre6 enc Try.prog Try.f5 Rows.harmMeansRow.domain false) (Rows.harmMeansSpec.post enc Try.prog Try.f5 false true false false) := by
  refine returnsInHanded_of_change (C := Try.checked) own started (by kernel_rfl) Try.func5
    (ChangeSpec.witness6 (enc := enc) (C := Try.checked) false ⟨#[], #[.int .i64 0], []⟩ 8 (by kernel_rfl) (by kernel_rfl) (by kernel_rfl) (by kernel_rfl)) ?_
  intro W base args ds gs before hval0 hW hcnd _
  have hval : ∀ (j : Nat) t v, Try.f5.params[j]? = some t → args[j]? = some v → Value.okWide Try.prog W .any base t v := hval0
  have hW' := hW
  obtain ⟨p, q, hA0, hV, rfl, hfz, hnd⟩ := hW
  obtain ⟨rfl, rfl⟩ := trodVars_none hV
  have hA : DataW.TrodAll enc Try.prog W 0 (fun _ => true) true Try.f5.params.toList args.toList ds p := hA0
  rw [Try.params5] at hA hval
  obtain ⟨v0, vs0, d0, ds0, p0, q0, hargs, rfl, rfl, h0, r0⟩ := trodAll_cons hA
  obtain ⟨rfl, rfl, rfl⟩ := trodAll_nil r0
  obtain rfl : args = #[v0] := by cases args; simp_all
  obtain ⟨a0, rfl, _, _, w0⟩ := open_int Try.underlying3 (hval 0 3 v0 rfl rfl) h0
  refine (walk a0 (i64_of_wf w0) W).mono fun e W' ⟨he, hg⟩ => ?_
  subst he
  exact ⟨_, rfl, law_post laid (by rw [Try.params5]; exact (by decide +kernel)) rfl (by kernel_rfl) Try.underlying4 rfl hW' hg⟩

theorem over : Rows.harmMeansRow.holds Try.pinned (OpenSpec.ofChange Rows.harmMeansSpec) :=
  OpenClaim.holds_of_wide 5 Try.f5 rfl rfl rfl rfl rfl rfl rfl ⟨rfl, rfl, rfl, rfl, rfl⟩ rfl rfl rfl rfl rfl (by kernel_rfl) Try.func5 (by kernel_rfl)
    (of_decide_eq_true (by kernel_rfl)) (by unfold Func.isWrapper; first | (rw [if_pos (by decide +kernel)]; kernel_rfl) | (rw [if_neg (by decide +kernel)]; exact ⟨rfl, rfl⟩))
    (fun os started H enc _ => lifted os started H enc)
theorem proved : Rows.HarmMeansSaid := over
end Go.Proofs.Ytihfhdnldpjjdaa.harmMeans
