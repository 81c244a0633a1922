/- Layer 24 (crc): a register's step, and checksums, in the code and in the reference. -/
import Derived.Test.YtkfmebdpfjjkjaaDoorCrcM
import Derived.Test.YtkfmebdpfjjkjaaDoorBinB
import Derived.Lib.LaidTab
import Derived.Laws.BitsAllLaws
import Derived.IntWalk
namespace Go.Proofs.YtkfmebdpfjjkjaaDoor
open Go.RowKit
set_option linter.unusedVariables false
set_option linter.unusedSimpArgs false

/-- the table of crc -/
def TabW (W : World) : Prop := (∀ i, i < 16 → W.cell? ⟨0, i, none⟩ = some (.int .u32 (tabC.getD i 0 : Nat))) ∧ 0 < W.heap.size
theorem TabW.below {W W' : World} {B : Nat} (h : TabW W) (hb : Below B W W') (hB : 0 < B) : TabW W' :=
  ⟨fun i hi => (hb.cell (by show 0 < B; exact hB)).trans (h.1 i hi), Nat.lt_of_lt_of_le h.2 hb.size⟩
theorem TabW.up {W W' : World} (h : TabW W) (hb : Below W.heap.size W W') : TabW W' := h.below hb h.2
theorem xor32 (a b : Nat) (ha : a < 2 ^ 32) (hb : b < 2 ^ 32) : bits .xor .u32 (a : Int) (b : Int) = ((a ^^^ b : Nat) : Int) := u32_xor_nat a b ha hb
theorem and32 (a b : Nat) (ha : a < 2 ^ 32) (hb : b < 2 ^ 32) : bits .and .u32 (a : Int) (b : Int) = ((a &&& b : Nat) : Int) := u32_and_nat a b ha hb

set_option maxRecDepth 100000 in
set_option maxHeartbeats 2000000 in
theorem crc_by4 (r : Nat) (hr : r < 2 ^ 32) (w : World) (hT : TabW w) : Calls Tryd.prog 20 #[.int .u32 (r : Int)] w fun e w' => e = .returned (.int .u32 (stN 4 r : Nat)) ∧ w = w' := by
  have h15 : bits .and .u32 (r : Int) 15 = ((r % 16 : Nat) : Int) := by
    have := and32 r 15 hr (by omega)
    rw [nat_mask4] at this
    exact this
  have hm : r % 16 < 16 := Nat.mod_lt _ (by omega)
  have hc := hT.1 _ hm
  have hx : bits .xor .u32 ((r / 16 : Nat) : Int) (tabC.getD (r % 16) 0 : Nat) = (stN 4 r : Nat) := by
    rw [st4]
    exact xor32 _ _ (by omega) (tab_lt _)
  rw [show ((r / 16 : Nat) : Int) = (r : Int) / 16 from by omega] at hx
  clear hT
  generalize stN 4 r = y at *
  generalize tabC.getD (r % 16) 0 = t at *
  generalize r % 16 = m at *
  have hmi : (m : Int) < 16 := by omega
  go_enter Tryd.func20, Tryd.ntmps20
  go_wp2
  go_ret
  exact ⟨rfl, rfl⟩
set_option maxRecDepth 100000 in
set_option maxHeartbeats 2000000 in
theorem crc_shifted (r : Nat) (hr : r < 2 ^ 32) (w : World) : Calls Tryd.prog 25 #[.int .u32 (r : Int)] w fun e w' => e = .returned (.int .u32 (st1 r : Nat)) ∧ w = w' := by
  have h1 : bits .and .u32 (r : Int) 1 = ((r % 2 : Nat) : Int) := by
    have := and32 r 1 hr (by omega)
    rw [nat_mask1] at this
    exact this
  by_cases hp : r % 2 = 1
  · have hy : st1 r = r / 2 ^^^ 3988292384 := by unfold st1; rw [if_pos hp]
    have hx := xor32 (r / 2) 3988292384 (by omega) (by omega)
    rw [← hy, show ((r / 2 : Nat) : Int) = (r : Int) / 2 from by omega, show ((3988292384 : Nat) : Int) = 3988292384 from rfl] at hx
    rw [hp, show ((1 : Nat) : Int) = 1 from rfl] at h1
    clear hy hp
    generalize st1 r = y at *
    go_enter Tryd.func25, Tryd.ntmps25
    go_wp2
    go_ret
    exact ⟨rfl, rfl⟩
  · have hp0 : r % 2 = 0 := by omega
    have hy : st1 r = r / 2 := by unfold st1; rw [if_neg hp]
    rw [hy]
    rw [hp0, show ((0 : Nat) : Int) = 0 from rfl] at h1
    rw [show ((r / 2 : Nat) : Int) = (r : Int) / 2 from by omega]
    clear hy hp hp0
    go_enter Tryd.func25, Tryd.ntmps25
    go_wp2
    go_ret
    exact ⟨rfl, rfl⟩
theorem prC_lt : ∀ (n a : Nat) {b : Nat}, b < 2 ^ 32 → prC n a b < 2 ^ 32
  | 0, _, _, _ => by show 0 < _; omega
  | n + 1, a, b, hb => by
    show (if a / 2147483648 % 2 = 1 then b else 0) ^^^ prC n (2 * a % 4294967296) (st1 b) < _
    refine Nat.xor_lt_two_pow ?_ (prC_lt n _ (st1_lt hb))
    split <;> omega
theorem and_top (a : Nat) (ha : a < 2 ^ 32) : bits .and .u32 (a : Int) 2147483648 = ((a / 2147483648 * 2147483648 : Nat) : Int) := by
  have h := and32 a 2147483648 ha (by omega)
  have e : a &&& 2147483648 = a / 2147483648 * 2147483648 := by
    apply Nat.eq_of_testBit_eq
    intro j
    rw [Nat.testBit_and, show (2147483648 : Nat) = 2 ^ 31 from rfl, Nat.testBit_two_pow, Nat.testBit_mul_two_pow, Nat.testBit_div_two_pow]
    by_cases hj : j < 31
    · rw [decide_eq_false (by omega : ¬ 31 = j), Bool.and_false, decide_eq_false (by omega), Bool.false_and]
    · by_cases h31 : j = 31
      · subst h31; simp
      · rw [decide_eq_false (by omega : ¬ 31 = j), Bool.and_false, decide_eq_true (by omega), Bool.true_and, show j - 31 + 31 = j from by omega]
        exact (Nat.testBit_lt_two_pow (Nat.lt_of_lt_of_le ha (Nat.pow_le_pow_right (by omega) (by omega)))).symm
  rw [e] at h
  exact h
set_option maxRecDepth 100000 in
set_option maxHeartbeats 4000000 in
theorem crc_product (a b : Nat) (ha : a < 2 ^ 32) (hb : b < 2 ^ 32) (w : World) : Calls Tryd.prog 23 #[.int .u32 (a : Int), .int .u32 (b : Int)] w fun e w' => e = .returned (.int .u32 (prC 32 a b : Nat)) ∧ w = w' := by
  obtain ⟨y, hy⟩ : ∃ y, y = prC 32 a b := ⟨_, rfl⟩
  rw [← hy]
  have HY : Hid (∃ n, n ≤ 32 ∧ 2 ^ (32 - n) ∣ a ∧ 0 ^^^ prC n a b = y) := ⟨32, Nat.le_refl _, ⟨a, by omega⟩, by rw [hy, Nat.zero_xor]⟩
  clear hy
  go_enter Tryd.func23, Tryd.ntmps23
  go_wp2
  go_loop [0, 1, 5] (fun av bv sv => ∃ (a b s n : Nat), av = .int .u32 (a : Nat) ∧ bv = .int .u32 (b : Nat) ∧ sv = .int .u32 (s : Nat) ∧ a < 2 ^ 32 ∧ b < 2 ^ 32 ∧ s < 2 ^ 32 ∧ n ≤ 32 ∧ Hid (2 ^ (32 - n) ∣ a) ∧ Hid (s ^^^ prC n a b = y)) (fun av _ _ => mzC 32 (intOf av).toNat)
  case atStart =>
    obtain ⟨n, h1, h2, h3⟩ := HY.out
    exact ⟨a, b, 0, n, rfl, rfl, rfl, ha, hb, by omega, h1, h2, h3⟩
  case round =>
    obtain ⟨a, b, s, n, rfl, rfl, rfl, ha, hb, hs, hn, HD, HE⟩ := hrel
    by_cases h0 : 0 < a
    · have hag : (0 : Int) < (a : Int) := by omega
      cases n with
      | zero =>
        obtain ⟨q, hq⟩ := HD.out
        have : (2 : Nat) ^ (32 - 0) = 4294967296 := by decide
        rw [this] at hq
        exfalso
        omega
      | succ n =>
      have HM := Lib.hid (mzC_dbl ha h0)
      have HD2 := Lib.hid (dvd_dbl hn HD.out)
      have HS := Lib.hid (fun W => crc_shifted b hb W)
      have hb1 := st1_lt hb
      have ha1 : 2 * a % 4294967296 < 2 ^ 32 := by omega
      have hw : IntKind.u32.wrap ((a : Int) * 2) = ((2 * a % 4294967296 : Nat) : Int) := by rw [IntKind.wrap_u32']; omega
      have hat := and_top a ha
      by_cases hc : a / 2147483648 % 2 = 1
      · have e1 : a / 2147483648 * 2147483648 = 2147483648 := by omega
        rw [e1, show ((2147483648 : Nat) : Int) = 2147483648 from rfl] at hat
        have HE2 : Hid ((s ^^^ b) ^^^ prC n (2 * a % 4294967296) (st1 b) = y) := by
          have h := HE.out
          show _ = _
          rw [← h]
          show _ = s ^^^ ((if a / 2147483648 % 2 = 1 then b else 0) ^^^ prC n (2 * a % 4294967296) (st1 b))
          rw [if_pos hc, Nat.xor_assoc]
        have hx := xor32 s b hs hb
        have hs2 : s ^^^ b < 2 ^ 32 := Nat.xor_lt_two_pow hs hb
        clear hc e1 HE HD HY
        generalize s ^^^ b = s2 at *
        generalize st1 b = b2 at *
        generalize 2 * a % 4294967296 = a2 at *
        go_wp2_with fail
        refine (HS.out _).mono ?_
        rintro e w2 ⟨rfl, rfl⟩
        go_wp2
        exact ⟨⟨a2, b2, s2, n, rfl, rfl, rfl, ha1, hb1, hs2, by omega, HD2, HE2⟩, HM.out⟩
      · have e1 : a / 2147483648 * 2147483648 = 0 := by omega
        rw [e1, show ((0 : Nat) : Int) = 0 from rfl] at hat
        have HE2 : Hid (s ^^^ prC n (2 * a % 4294967296) (st1 b) = y) := by
          have h := HE.out
          show _ = _
          rw [← h]
          show _ = s ^^^ ((if a / 2147483648 % 2 = 1 then b else 0) ^^^ prC n (2 * a % 4294967296) (st1 b))
          rw [if_neg hc, Nat.zero_xor]
        clear hc e1 HE HD HY
        generalize st1 b = b2 at *
        generalize 2 * a % 4294967296 = a2 at *
        go_wp2_with fail
        refine (HS.out _).mono ?_
        rintro e w2 ⟨rfl, rfl⟩
        go_wp2
        exact ⟨⟨a2, b2, s, n, rfl, rfl, rfl, ha1, hb1, hs, by omega, HD2, HE2⟩, HM.out⟩
    · have ha0 : a = 0 := by omega
      subst ha0
      have hsy : s = y := by
        have := HE.out
        rw [prC_zero, Nat.xor_zero] at this
        exact this
      subst hsy
      clear HE HD HY
      go_wp2
      go_ret
      exact ⟨rfl, rfl⟩
theorem and_one64 (n : Nat) (hn : n < 2 ^ 62) : bits .and .i64 (n : Int) 1 = ((n % 2 : Nat) : Int) := by
  show IntKind.i64.wrap ((BitVec.ofInt 64 (n : Int) &&& BitVec.ofInt 64 ((1 : Nat) : Int)).toNat : Int) = _
  rw [BitVec.ofInt_natCast, BitVec.ofInt_natCast, BitVec.toNat_and, BitVec.toNat_ofNat, BitVec.toNat_ofNat, Nat.mod_eq_of_lt (by omega : n < 2 ^ 64), Nat.mod_eq_of_lt (by omega : 1 < 2 ^ 64), nat_mask1]
  simp [IntKind.wrap, IntKind.bits, IntKind.signed]
  omega
theorem stN_mul (E n a : Nat) : stN (2 * E * (n / 2)) (if n % 2 = 1 then stN E a else a) = stN (E * n) a := by
  by_cases h : n % 2 = 1
  · have hk : n = 2 * (n / 2) + 1 := by omega
    rw [if_pos h, ← stN_add]
    congr 1
    conv => rhs; rw [hk]
    rw [Nat.mul_add, Nat.mul_one, Nat.add_comm, ← Nat.mul_assoc, Nat.mul_comm E 2]
  · have hk : n = 2 * (n / 2) := by omega
    rw [if_neg h]
    congr 1
    conv => rhs; rw [hk]
    rw [← Nat.mul_assoc, Nat.mul_comm E 2]
set_option maxRecDepth 100000 in
set_option maxHeartbeats 4000000 in
theorem crc_Join (a b n : Nat) (ha : a < 2 ^ 32) (hb : b < 2 ^ 32) (hn : n < 2 ^ 62) (w : World) : Calls Tryd.prog 17 #[.int .u32 (a : Int), .int .u32 (b : Int), .int .i64 (n : Int)] w fun e w' => e = .returned (.int .u32 ((stN (8 * n) a ^^^ b : Nat) : Int)) ∧ w = w' := by
  obtain ⟨y, hy⟩ : ∃ y, y = stN (8 * n) a := ⟨_, rfl⟩
  rw [← hy]
  have hyl : y < 2 ^ 32 := by rw [hy]; exact stN_lt _ ha
  have hxy := xor32 y b hyl hb
  generalize y ^^^ b = z at *
  have HY : Hid (stN (8 * n) a = y) := hy.symm
  have H8 : Hid (8388608 = stN 8 2147483648) := Lib.hid (by decide)
  clear hy
  go_enter Tryd.func17, Tryd.ntmps17
  go_wp2
  go_loop [0, 2, 7] (fun av nv sv => ∃ (a n s E : Nat), av = .int .u32 (a : Nat) ∧ nv = .int .i64 (n : Nat) ∧ sv = .int .u32 (s : Nat) ∧ a < 2 ^ 32 ∧ n < 2 ^ 62 ∧ s < 2 ^ 32 ∧ Hid (s = stN E 2147483648) ∧ Hid (stN (E * n) a = y)) (fun _ nv _ => (intOf nv).toNat)
  case atStart => exact ⟨a, n, 8388608, 8, rfl, rfl, rfl, ha, hn, by omega, H8, HY⟩
  case round =>
    obtain ⟨a, n, s, E, rfl, rfl, rfl, ha, hn, hs, HS, HE⟩ := hrel
    by_cases h0 : 0 < n
    · have hng : (0 : Int) < (n : Int) := by omega
      have hat := and_one64 n hn
      have h2 : stN E s < 2 ^ 32 := stN_lt _ hs
      have hS2 : stN E s = stN (2 * E) 2147483648 := by
        rw [show 2 * E = E + E from by omega, stN_add, ← HS.out]
      have hP2 : prC 32 s s = stN E s := by
        conv => lhs; rw [HS.out]
        have := prC_sq (a := stN E 2147483648) (stN_lt _ (by omega)) E
        rw [this, ← HS.out]
      have KQ := Lib.hid (fun W => crc_product s s hs hs W)
      rw [hP2] at KQ
      have HS2 : Hid (stN E s = stN (2 * E) 2147483648) := hS2
      have hm := stN_mul E n a
      by_cases hc : n % 2 = 1
      · rw [if_pos hc] at hm
        have HE2 : Hid (stN (2 * E * (n / 2)) (stN E a) = y) := by
          show _ = _
          rw [hm, HE.out]
        have hP1 : prC 32 a s = stN E a := by
          conv => lhs; rw [HS.out]
          exact prC_sq ha E
        have KP := Lib.hid (fun W => crc_product a s ha hs W)
        rw [hP1] at KP
        have ha2 : stN E a < 2 ^ 32 := stN_lt _ ha
        rw [hc, show ((1 : Nat) : Int) = 1 from rfl] at hat
        have hn2 : n / 2 < 2 ^ 62 := by omega
        have hlt : n / 2 < n := by omega
        have e2 : (n : Int) / 2 = ((n / 2 : Nat) : Int) := by omega
        clear hc hm hP1 hP2 hS2 HE HY H8
        generalize stN E a = a2 at *
        generalize stN E s = s2 at *
        generalize n / 2 = n2 at *
        go_wp2_with fail
        refine (KP.out _).mono ?_
        rintro e w2 ⟨rfl, rfl⟩
        go_wp2_with fail
        refine (KQ.out _).mono ?_
        rintro e w2 ⟨rfl, rfl⟩
        go_wp2
        exact ⟨⟨a2, n2, s2, 2 * E, rfl, rfl, rfl, ha2, hn2, h2, HS2, HE2⟩, by simpa [intOf] using hlt⟩
      · have hc0 : n % 2 = 0 := by omega
        rw [if_neg hc] at hm
        have HE2 : Hid (stN (2 * E * (n / 2)) a = y) := by
          show _ = _
          rw [hm, HE.out]
        rw [hc0, show ((0 : Nat) : Int) = 0 from rfl] at hat
        have hn2 : n / 2 < 2 ^ 62 := by omega
        have hlt : n / 2 < n := by omega
        have e2 : (n : Int) / 2 = ((n / 2 : Nat) : Int) := by omega
        clear hc hc0 hm hP2 hS2 HE HY H8
        generalize stN E s = s2 at *
        generalize n / 2 = n2 at *
        go_wp2_with fail
        refine (KQ.out _).mono ?_
        rintro e w2 ⟨rfl, rfl⟩
        go_wp2
        exact ⟨⟨a, n2, s2, 2 * E, rfl, rfl, rfl, ha, hn2, h2, HS2, HE2⟩, by simpa [intOf] using hlt⟩
    · have hn0 : n = 0 := by omega
      subst hn0
      have hsy : a = y := HE.out
      subst hsy
      clear HE HS HY H8
      go_wp2
      go_ret
      exact ⟨rfl, rfl⟩
set_option maxRecDepth 100000 in
set_option maxHeartbeats 4000000 in
theorem ref_step (r : Nat) (c : Int) (hr : r < 2 ^ 32) (hc0 : 0 ≤ c) (hc1 : c < 256) (w : World) : Calls Tryd.prog 21 #[.int .u32 (r : Int), .int .u8 c] w fun e w' => e = .returned (.int .u32 (stN 8 (r ^^^ c.toNat) : Nat)) ∧ w = w' := by
  obtain ⟨k, rfl⟩ := Int.eq_ofNat_of_zero_le hc0
  rw [Int.toNat_natCast]
  have hk : k < 256 := by omega
  have hx := xor32 r k hr (by omega)
  have hy : r ^^^ k < 2 ^ 32 := Nat.xor_lt_two_pow hr (by omega)
  generalize r ^^^ k = y at *
  have HY : Hid (stN 8 y = stN 8 y) := rfl
  generalize hz : stN 8 y = z at *
  have HZ : Hid (stN 8 y = z) := hz
  clear hz HY
  have hkm : (k : Int) % 4294967296 = (k : Int) := by omega
  go_enter Tryd.func21, Tryd.ntmps21
  go_wp2
  go_loop [0, 5, 6] (fun rv iv _ => ∃ (x i : Nat), rv = .int .u32 (x : Nat) ∧ iv = .int .i64 (i : Nat) ∧ x < 2 ^ 32 ∧ i ≤ 8 ∧ Hid (stN (8 - i) x = z)) (fun _ iv _ => 8 - (intOf iv).toNat)
  case atStart => exact ⟨y, 0, rfl, rfl, hy, by omega, HZ⟩
  case round =>
    obtain ⟨x, i, rfl, rfl, hxl, hi, HE⟩ := hrel
    by_cases h0 : i < 8
    · have hig : (i : Int) < 8 := by omega
      have HE2 : Hid (stN (8 - (i + 1)) (st1 x) = z) := by
        have := HE.out
        rw [show 8 - i = (8 - (i + 1)) + 1 from by omega] at this
        exact this
      have h2 := st1_lt hxl
      by_cases hp : x % 2 = 1
      · have hy : st1 x = x / 2 ^^^ 3988292384 := by unfold st1; rw [if_pos hp]
        have hx2 := xor32 (x / 2) 3988292384 (by omega) (by omega)
        rw [← hy, show ((x / 2 : Nat) : Int) = (x : Int) / 2 from by omega, show ((3988292384 : Nat) : Int) = 3988292384 from rfl] at hx2
        have hpi : (x : Int) % 2 = 1 := by omega
        clear hy hp HE HZ
        generalize st1 x = x2 at *
        go_wp2
        exact ⟨⟨x2, i + 1, rfl, by go_num, h2, by omega, HE2⟩, by simp [intOf]; omega⟩
      · have hp0 : (x : Int) % 2 = 0 := by omega
        have hy : st1 x = x / 2 := by unfold st1; rw [if_neg hp]
        rw [hy] at HE2 h2
        clear hy hp HE HZ
        have e2 : (x : Int) / 2 = ((x / 2 : Nat) : Int) := by omega
        generalize x / 2 = x2 at *
        go_wp2
        exact ⟨⟨x2, i + 1, rfl, by go_num, h2, by omega, HE2⟩, by simp [intOf]; omega⟩
    · have hi8 : i = 8 := by omega
      subst hi8
      have hsy : x = z := HE.out
      subst hsy
      clear HE HZ
      go_wp2
      go_ret
      exact ⟨rfl, rfl⟩
theorem not32 (r : Nat) (h : r < 2 ^ 32) : bits .xor .u32 IntKind.u32.max (r : Int) = (notC r : Nat) := by
  have := xor32 4294967295 r (by omega) h
  rw [show IntKind.u32.max = ((4294967295 : Nat) : Int) from by decide]
  rw [Nat.xor_comm] at this
  exact this
theorem not32' (r : Nat) (h : r < 2 ^ 32) : bits .xor .u32 (r : Int) 4294967295 = (notC r : Nat) := xor32 r 4294967295 h (by omega)
theorem drop_cons {l : List Int} {i : Nat} (h : i < l.length) : l.drop i = l.getD i 0 :: l.drop (i + 1) := by
  rw [List.drop_eq_getElem_cons h, List.getD_eq_getElem?_getD, List.getElem?_eq_getElem h]
  rfl
set_option maxRecDepth 100000 in
set_option maxHeartbeats 4000000 in
theorem crc_More (s : Nat) (b : List Int) (A : Option Addr) (c B : Nat) (hs : s < 2 ^ 32) (w : World) (hT : TabW w) (hA : LiesY w B A b) (hb : byt b) (hl : b.length ≤ 1000000) : Calls Tryd.prog 12 #[.int .u32 (s : Int), .slice A b.length c] w fun e w' => e = .returned (.int .u32 (moreC s b : Nat)) ∧ w = w' := by
  have hn := not32 s hs
  have hn1 := notC_lt hs
  have HT := Lib.hid hT
  have HA := Lib.hid hA
  have HB := Lib.hid hb
  obtain ⟨z, hz⟩ : ∃ z, z = feed (notC s) b := ⟨_, rfl⟩
  have hzl : z < 2 ^ 32 := by rw [hz]; exact feed_lt b hn1 hb
  have hm : moreC s b = notC z := by rw [hz]; rfl
  have hnz := not32 z hzl
  rw [hm]
  have HZ : Hid (feed (notC s) (b.drop 0) = z) := hz.symm
  clear hz hm hT hA hb
  generalize notC s = x0 at *
  generalize notC z = y at *
  generalize hN : b.length = N at *
  have HN := Lib.hid hN
  clear hN
  go_enter Tryd.func12, Tryd.ntmps12
  go_wp2
  go_loop [5, 7, 12] (fun rv _ iv => ∃ (x i : Nat), rv = .int .u32 (x : Nat) ∧ iv = .int .i64 (i : Nat) ∧ x < 2 ^ 32 ∧ i ≤ N ∧ Hid (feed x (b.drop i) = z)) (fun _ _ iv => N - (intOf iv).toNat)
  case atStart => exact ⟨x0, 0, rfl, rfl, hn1, by omega, HZ⟩
  case round =>
    obtain ⟨x, i, rfl, rfl, hxl, hi, HE⟩ := hrel
    by_cases h0 : i < N
    · have hig : (i : Int) < (N : Int) := by omega
      have hi' : i < b.length := by rw [HN.out]; exact h0
      obtain ⟨ad, eA, -, hcell⟩ := HA.out (by omega)
      have hcc := hcell i hi'
      subst eA
      obtain ⟨hk0, hk1⟩ := HB.out.getD i
      have HE2 : Hid (feed (stN 8 (x ^^^ (b.getD i 0).toNat)) (b.drop (i + 1)) = z) := by
        have := HE.out
        rw [drop_cons hi'] at this
        exact this
      clear hcell
      generalize b.getD i 0 = cv at *
      obtain ⟨k, rfl⟩ := Int.eq_ofNat_of_zero_le hk0
      rw [Int.toNat_natCast] at HE2
      have hkl : k < 256 := by omega
      have hkm : (k : Int) % 4294967296 = (k : Int) := by omega
      have hx := xor32 x k hxl (by omega)
      have hy1 : x ^^^ k < 2 ^ 32 := Nat.xor_lt_two_pow hxl (by omega)
      rw [show 8 = 4 + 4 from rfl, stN_add] at HE2
      have hy2 := stN_lt 4 hy1
      have hy3 := stN_lt 4 hy2
      have K1 := Lib.hid (crc_by4 (x ^^^ k) hy1 _ HT.out)
      have K2 := Lib.hid (crc_by4 (stN 4 (x ^^^ k)) hy2 _ HT.out)
      clear HE HZ
      generalize x ^^^ k = y1 at *
      generalize stN 4 y1 = y2 at *
      generalize stN 4 y2 = y3 at *
      go_wp2_with fail
      refine (K1.out).mono ?_
      rintro e w2 ⟨rfl, rfl⟩
      go_wp2_with fail
      refine (K2.out).mono ?_
      rintro e w2 ⟨rfl, rfl⟩
      go_wp2
      exact ⟨⟨y3, i + 1, rfl, by go_num, hy3, by omega, HE2⟩, by simp [intOf]; omega⟩
    · have hiN : i = N := by omega
      subst hiN
      have hsy : x = z := by
        have := HE.out
        rw [List.drop_eq_nil_of_le (by rw [HN.out]; exact Nat.le_refl _)] at this
        exact this
      subst hsy
      clear HE HZ
      go_wp2
      go_ret
      exact ⟨rfl, rfl⟩
set_option maxRecDepth 100000 in
set_option maxHeartbeats 4000000 in
theorem ref_More (s : Nat) (b : List Int) (A : Option Addr) (c B : Nat) (hs : s < 2 ^ 32) (w : World) (hA : LiesY w B A b) (hb : byt b) (hl : b.length ≤ 1000000) : Calls Tryd.prog 13 #[.int .u32 (s : Int), .slice A b.length c] w fun e w' => e = .returned (.int .u32 (moreC s b : Nat)) ∧ w = w' := by
  have hn := not32' s hs
  have hn1 := notC_lt hs
  have HA := Lib.hid hA
  have HB := Lib.hid hb
  obtain ⟨z, hz⟩ : ∃ z, z = feed (notC s) b := ⟨_, rfl⟩
  have hzl : z < 2 ^ 32 := by rw [hz]; exact feed_lt b hn1 hb
  have hm : moreC s b = notC z := by rw [hz]; rfl
  have hnz := not32' z hzl
  rw [hm]
  have HZ : Hid (feed (notC s) (b.drop 0) = z) := hz.symm
  clear hz hm hA hb
  generalize notC s = x0 at *
  generalize notC z = y at *
  generalize hN : b.length = N at *
  have HN := Lib.hid hN
  clear hN
  go_enter Tryd.func13, Tryd.ntmps13
  go_wp2
  go_loop [5, 6] (fun rv iv => ∃ (x i : Nat), rv = .int .u32 (x : Nat) ∧ iv = .int .i64 (i : Nat) ∧ x < 2 ^ 32 ∧ i ≤ N ∧ Hid (feed x (b.drop i) = z)) (fun _ iv => N - (intOf iv).toNat)
  case atStart => exact ⟨x0, 0, rfl, rfl, hn1, by omega, HZ⟩
  case round =>
    obtain ⟨x, i, rfl, rfl, hxl, hi, HE⟩ := hrel
    by_cases h0 : i < N
    · have hig : (i : Int) < (N : Int) := by omega
      have hi' : i < b.length := by rw [HN.out]; exact h0
      obtain ⟨ad, eA, -, hcell⟩ := HA.out (by omega)
      have hcc := hcell i hi'
      subst eA
      obtain ⟨hk0, hk1⟩ := HB.out.getD i
      have HE2 : Hid (feed (stN 8 (x ^^^ (b.getD i 0).toNat)) (b.drop (i + 1)) = z) := by
        have := HE.out
        rw [drop_cons hi'] at this
        exact this
      have hk2 : (b.getD i 0).toNat < 256 := by omega
      have hy3 := stN_lt 8 (Nat.xor_lt_two_pow hxl (by omega : (b.getD i 0).toNat < 2 ^ 32))
      have K1 := Lib.hid (ref_step x (b.getD i 0) hxl hk0 hk1 w)
      clear hcell HE HZ
      generalize stN 8 (x ^^^ (b.getD i 0).toNat) = y3 at *
      generalize b.getD i 0 = cv at *
      go_wp2_with fail
      refine (K1.out).mono ?_
      rintro e w2 ⟨rfl, rfl⟩
      go_wp2
      exact ⟨⟨y3, i + 1, rfl, by go_num, hy3, by omega, HE2⟩, by simp [intOf]; omega⟩
    · have hiN : i = N := by omega
      subst hiN
      have hsy : x = z := by
        have := HE.out
        rw [List.drop_eq_nil_of_le (by rw [HN.out]; exact Nat.le_refl _)] at this
        exact this
      subst hsy
      clear HE HZ
      go_wp2
      go_ret
      exact ⟨rfl, rfl⟩
theorem crc_Sum (b : List Int) (A : Option Addr) (c B : Nat) (w : World) (hT : TabW w) (hA : LiesY w B A b) (hb : byt b) (hl : b.length ≤ 1000000) : Calls Tryd.prog 10 #[.slice A b.length c] w fun e w' => e = .returned (.int .u32 (sumC b : Nat)) ∧ w = w' := by
  have K := Lib.hid (crc_More 0 b A c B (by omega) w hT hA hb hl)
  clear hT hA hb hl
  rw [show ((0 : Nat) : Int) = 0 from rfl, show moreC 0 b = sumC b from rfl] at K
  generalize sumC b = y at *
  generalize b.length = N at *
  go_enter Tryd.func10, Tryd.ntmps10
  go_wp2_with fail
  refine (K.out).mono ?_
  rintro e w2 ⟨rfl, rfl⟩
  go_wp2
  go_ret
  exact ⟨rfl, rfl⟩
theorem ref_Sum (b : List Int) (A : Option Addr) (c B : Nat) (w : World) (hA : LiesY w B A b) (hb : byt b) (hl : b.length ≤ 1000000) : Calls Tryd.prog 11 #[.slice A b.length c] w fun e w' => e = .returned (.int .u32 (sumC b : Nat)) ∧ w = w' := by
  have K := Lib.hid (ref_More 0 b A c B (by omega) w hA hb hl)
  clear hA hb hl
  rw [show ((0 : Nat) : Int) = 0 from rfl, show moreC 0 b = sumC b from rfl] at K
  generalize sumC b = y at *
  generalize b.length = N at *
  go_enter Tryd.func11, Tryd.ntmps11
  go_wp2_with fail
  refine (K.out).mono ?_
  rintro e w2 ⟨rfl, rfl⟩
  go_wp2
  go_ret
  exact ⟨rfl, rfl⟩
end Go.Proofs.YtkfmebdpfjjkjaaDoor
