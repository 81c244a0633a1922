/- Layer 21 (bin): what is written. -/
import Derived.Test.YtpoemflclbhekaaGreatBinA
namespace Go.Proofs.YtpoemflclbhekaaGreat
open Go.RowKit
set_option linter.unusedVariables false
set_option linter.unusedSimpArgs false

set_option maxRecDepth 100000 in
set_option maxHeartbeats 2000000 in
theorem ref_SameY (l : List Int) (A A2 : Option Addr) (c c2 B : Nat) (w : World) (hA : LiesY w B A l) (hA2 : LiesY w B A2 l) :
    Calls Tryz.prog 7 #[.slice A l.length c, .slice A2 l.length c2] w fun e w' => e = .returned (.bool true) ∧ w = w' := by
  have k1 := conv_y w A l c B hA
  have k2 := conv_y w A2 l c2 B hA2
  generalize strOfNums l = st at *
  clear hA hA2
  generalize l.length = n at *
  go_enter Tryz.func7, Tryz.ntmps7
  go_wp2
  go_ret
  exact ⟨by simp, rfl⟩
set_option maxRecDepth 100000 in
set_option maxHeartbeats 2000000 in
theorem bin_bare (l : List Int) (A : Option Addr) (c : Nat) (w : World) (hA : LiesY w w.heap.size A l) (hc : l.length ≤ c) :
    Calls Tryz.prog 88 #[.slice A l.length c] w fun e w' => (∃ A', e = .returned (.slice A' l.length l.length) ∧ LiesY w w.heap.size A' l) ∧ w = w' := by
  rcases Nat.eq_zero_or_pos l.length with h0 | h0
  · have hl : l = [] := List.eq_nil_of_length_eq_zero h0
    subst hl
    go_enter Tryz.func88, Tryz.ntmps88
    go_wp2
    go_ret
    exact ⟨⟨_, rfl, LiesY.nil⟩, rfl⟩
  · obtain ⟨ad, e, _⟩ := hA h0
    subst e
    have HA := Lib.hid hA
    clear hA
    generalize hN : l.length = N at *
    clear hN
    have hN : ¬ N = 0 := by omega
    have hcg : (N : Int) ≤ (c : Int) := by omega
    go_enter Tryz.func88, Tryz.ntmps88
    go_wp2
    go_ret
    exact ⟨⟨_, rfl, HA.out⟩, rfl⟩
theorem bin_head (s : Int) (h1 : 0 ≤ s) (h2 : s ≤ 8) (w : World) : Calls Tryz.prog 103 #[.int .i64 s] w fun e w' => e = .returned (.int .u8 (239 + s)) ∧ w = w' := by
  have e1 : IntKind.u8.wrap (239 + s) = 239 + s := by (show (239 + s) % 256 = _; omega)
  go_enter Tryz.func103, Tryz.ntmps103
  go_wp2
  go_ret
  exact ⟨rfl, rfl⟩
set_option maxRecDepth 100000 in
set_option maxHeartbeats 2000000 in
theorem bin_folded (i : Int) (hi : I64 i) (w : World) : Calls Tryz.prog 105 #[.int .i64 i] w fun e w' => e = .returned (.int .u64 (fold i : Nat)) ∧ w = w' := by
  obtain ⟨h1, h2⟩ := hi
  by_cases h : i < 0
  · have hf : (fold i : Int) = -(i + 1) * 2 + 1 := by unfold fold; rw [if_pos h]; omega
    go_enter Tryz.func105, Tryz.ntmps105
    go_wp2
    go_ret
    refine ⟨ret1i ?_, rfl⟩
    first | rfl | omega | (simp only [u64w] at *; omega)
  · have hf : (fold i : Int) = i * 2 := by unfold fold; rw [if_neg h]; omega
    go_enter Tryz.func105, Tryz.ntmps105
    go_wp2
    go_ret
    refine ⟨ret1i ?_, rfl⟩
    first | rfl | omega | (simp only [u64w] at *; omega)
set_option maxRecDepth 100000 in
set_option maxHeartbeats 2000000 in
theorem bin_number_small (B : Nat) (v : Value) (l : List Int) (n : Nat) (w : World) (hst : StY w B v l) (hB : B ≤ w.heap.size) (hl : l.length ≤ 100000000) (hn : n < 240) :
    Calls Tryz.prog 89 #[v, .int .u64 n] w fun e w' => (∃ v', e = .returned v' ∧ OwnsY w' B v' (l ++ uB n)) ∧ Below B w w' := by
  rw [uB_small hn]
  have e1 : IntKind.u8.wrap (n : Int) = (n : Int) := by simp [IntKind.wrap, IntKind.bits, IntKind.signed]; omega
  have hng : (n : Int) < 240 := by omega
  go_enter Tryz.func89, Tryz.ntmps89
  go_wp2_with (at_builtin; refine app_y1 rfl (.tmp 9) (.tmp 12) rfl v l n rfl hst rfl hB (by omega) ?_; intro v' w' h1 h2)
  go_ret
  exact ⟨⟨_, rfl, h1⟩, h2⟩
theorem pow8 (s : Nat) : (2 : Int) ^ (8 * s) = ((256 ^ s : Nat) : Int) := by
  rw [Int.pow_mul]
  simp
theorem shr8 (n s : Nat) : (n : Int) / 2 ^ (8 * s) = ((n / 256 ^ s : Nat) : Int) := by
  rw [pow8, Int.natCast_ediv]
theorem beB_at (q : Nat) : ∀ n : Nat, q < (beB n).length → (beB n)[(beB n).length - 1 - q]? = some ((n / 256 ^ q % 256 : Nat) : Int) := by
  induction q with
  | zero =>
    intro n h
    have hn : n ≠ 0 := by intro e; rw [e, beB_0] at h; simp at h
    rw [beB_pos hn, List.length_append, List.length_singleton, List.getElem?_append_right (by omega)]
    simp
  | succ q ih =>
    intro n h
    have hn : n ≠ 0 := by intro e; rw [e, beB_0] at h; simp at h
    rw [beB_pos hn, List.length_append, List.length_singleton] at h
    have h1 := ih (n / 256) (by omega)
    rw [beB_pos hn, List.length_append, List.length_singleton, List.getElem?_append_left (by omega), show (beB (n / 256)).length + 1 - 1 - (q + 1) = (beB (n / 256)).length - 1 - q from by omega, h1, Nat.div_div_eq_div_mul, Nat.pow_succ, Nat.mul_comm (256 ^ q) 256]
theorem beB_take {n s q : Nat} (hs : (beB n).length = s) (hq : q < s) : (beB n).take (s - q) = (beB n).take (s - (q + 1)) ++ [((n / 256 ^ q % 256 : Nat) : Int)] := by
  have h := beB_at q n (by omega)
  rw [show s - q = s - (q + 1) + 1 from by omega, List.take_add_one, show s - (q + 1) = (beB n).length - 1 - q from by omega, h]
  rfl
set_option maxRecDepth 100000 in
set_option maxHeartbeats 4000000 in
theorem bin_number_great (B : Nat) (v : Value) (l : List Int) (n : Nat) (w : World) (hst : StY w B v l) (hB : B ≤ w.heap.size) (hl : l.length ≤ 100000000) (hn : ¬ n < 240) (hn2 : n < 18446744073709551616) :
    Calls Tryz.prog 89 #[v, .int .u64 n] w fun e w' => (∃ v', e = .returned v' ∧ OwnsY w' B v' (l ++ uB n)) ∧ Below B w w' := by
  have hng : ¬ (n : Int) < 240 := by omega
  have HU := Lib.hid (uB_great hn)
  have hb8 := beB_8 hn2
  have HST := Lib.hid hst
  clear hst
  generalize uB n = U at *
  go_enter Tryz.func89, Tryz.ntmps89
  go_wp2
  go_loop [5] (fun sv => ∃ s : Nat, 1 ≤ s ∧ s ≤ 8 ∧ sv = .int .i64 s ∧ Hid (256 ^ (s - 1) ≤ n)) (fun sv => 8 - (intOf sv).toNat)
  case atStart => exact ⟨1, by omega, by omega, rfl, (by show 256 ^ (1 - 1) ≤ n; simp; omega)⟩
  case round =>
    obtain ⟨s, h1, h8, rfl, HP⟩ := hrel
    by_cases hq : 256 ^ s ≤ n
    · have hz : 0 < (n : Int) / 2 ^ (8 * s) := by
        rw [shr8]
        have := Nat.div_pos hq (Nat.pow_pos (by omega))
        omega
      have hs8 : s < 8 := by
        rcases Nat.lt_or_ge s 8 with g | g
        · exact g
        · exfalso
          have : 256 ^ 8 ≤ 256 ^ s := Nat.pow_le_pow_right (by omega) g
          omega
      have HQ : Hid (256 ^ (s + 1 - 1) ≤ n) := hq
      clear hq
      go_wp2
      exact ⟨⟨s + 1, by omega, by omega, by go_num, HQ⟩, by first | (simp [intOf]; done) | (simp [intOf]; omega)⟩
    · have hz : ¬ 0 < (n : Int) / 2 ^ (8 * s) := by
        rw [shr8, Nat.div_eq_of_lt (by omega)]; simp
      have hlen : (beB n).length = s := by
        have g1 := (beB_le s n).2 (by omega)
        have g2 := (beB_le (s - 1) n)
        have g3 := HP.out
        omega
      have HTK := Lib.hid (fun q (hq : q < s) => beB_take hlen hq)
      have HDG : Hid (∀ q, IntKind.u8.wrap ((n : Int) / 2 ^ (8 * q)) = ((n / 256 ^ q % 256 : Nat) : Int)) := fun q => by
        show ((n : Int) / 2 ^ (8 * q)) % 256 = _
        rw [shr8]; omega
      have HFU : Hid ((beB n).take s = beB n) := List.take_of_length_le (by omega)
      rw [hlen] at HU
      have KH := Lib.hid (fun W => bin_head (s : Int) (by omega) (by omega) W)
      clear hq hlen HP hb8
      generalize beB n = D at *
      go_wp2_with (first | (go_at_call 103; refine (KH.out _).mono ?_; rintro e w' ⟨rfl, rfl⟩) | (at_builtin; refine app_y1 rfl (.tmp 21) (.tmp 24) rfl v l (239 + (s : Int)) rfl HST.out rfl hB (by omega) ?_; intro v1 w1 g1 g2; have HO1 := Lib.hid g1; have HB1 := Lib.hid g2; clear g1 g2))
      go_loopw [0, 6] (fun v iv wr => ∃ (r : Nat) (z : Int) (y : Value), y = v ∧ r ≤ s ∧ iv = .int .i64 z ∧ z = (r : Int) - 1 ∧ Hid (OwnsY wr B y (l ++ (239 + (s : Int)) :: D.take (s - r))) ∧ Hid (Below B w wr)) (fun _ iv _ => (intOf iv + 1).toNat)
      case atStart => exact ⟨s, _, _, rfl, Nat.le_refl _, rfl, rfl, by rw [Nat.sub_self]; exact HO1.out, HB1.out⟩
      case round =>
        obtain ⟨r, z, y, rfl, hr, rfl, hzz, HO, HB⟩ := hrel
        cases r with
        | zero =>
          have hvn : z < 0 := by omega
          have hd : decide ((0 : Int) ≤ z) = false := decide_eq_false (by omega)
          have hd2 : decide (z ≥ (0 : Int)) = false := decide_eq_false (by omega)
          have HR : Hid (OwnsY wr B y (l ++ U)) := by
            have := HO.out
            rw [Nat.sub_zero, HFU.out] at this
            rw [HU.out]
            exact this
          clear hzz hz
          go_wp2
          go_ret
          exact ⟨⟨_, rfl, HR.out⟩, HB.out⟩
        | succ q =>
          obtain rfl : z = (q : Int) := by omega
          clear hzz hz
          have hq0 : (0 : Int) ≤ (q : Int) := by omega
          have HT := Lib.hid (HTK.out q (by omega))
          have hdg := HDG.out q
          generalize hdd : (n / 256 ^ q % 256 : Nat) = d at *
          have hsz := HB.out.size
          have hlt : (l ++ (239 + (s : Int)) :: D.take (s - (q + 1))).length + 1 ≤ 1000000000 := by
            simp only [List.length_append, List.length_cons, List.length_take]; omega
          have hwq : wrap64 ((q : Int) - 1) = (q : Int) - 1 := by unfold wrap64; omega
          clear hdd HDG
          go_wp2_with (at_builtin; refine app_y1 rfl (.tmp 32) (.tmp 38) rfl _ (l ++ (239 + (s : Int)) :: D.take (s - (q + 1))) d rfl (.inl HO.out) rfl (by omega) hlt ?_; intro v2 w2 g1 g2; have HO2 := Lib.hid g1; have HB2 := Lib.hid (HB.out.trans g2); clear g1 g2)
          have HO3 : Hid (OwnsY w2 B v2 (l ++ (239 + (s : Int)) :: D.take (s - q))) := by
            have := HO2.out
            show OwnsY w2 B v2 _
            rw [HT.out]
            simpa using this
          exact ⟨⟨q, (q : Int) - 1, _, rfl, by omega, rfl, rfl, HO3, HB2⟩, by first | (simp [intOf]; done) | (simp [intOf]; omega)⟩
end Go.Proofs.YtpoemflclbhekaaGreat
