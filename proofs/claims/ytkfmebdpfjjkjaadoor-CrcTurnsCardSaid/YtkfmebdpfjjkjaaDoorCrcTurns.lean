/- Statement CrcTurns: whatever the input is, the Go function returns true and each argument reads as it did. No condition. -/
import Derived.Test.YtkfmebdpfjjkjaaDoorRows
import Derived.Test.YtkfmebdpfjjkjaaDoorCrcH
import Derived.Test.YtkfmebdpfjjkjaaDoorVecT
import Derived.Test.YtkfmebdpfjjkjaaDoorBase
import Derived.Test.YtkfmebdpfjjkjaaDoorTie
import Derived.Test.YtkfmebdpfjjkjaaDoorCards
import Derived.SevenTiedAt
import Derived.ProofKit
import Derived.OpenShut
import Derived.IntWalk
namespace Go.Proofs.YtkfmebdpfjjkjaaDoor.crcTurns
open Go.ChangeShapes Go.WideShapes Go.ChangeAt Go.RowKit
set_option linter.unusedVariables false
set_option linter.unusedSimpArgs false
set_option maxRecDepth 100000

theorem own : ownKnob Tryd.prog.godebug = none := by kernel_rfl
theorem laid : laidOutB Tryd.prog = true := by kernel_rfl

set_option maxRecDepth 2000000 in
set_option maxHeartbeats 8000000 in
theorem walk (A : Option Addr) (b : List Int) (c : Nat) {w : World} (hA : LiesY w w.heap.size A b) (hb : byt b) (hbc : b.length ≤ c) (hcc : c ≤ 9223372036854775807) (hAc : A = none → c = 0) (t0 : Int) (ht0 : 0 ≤ t0 ∧ t0 < 65536) (m0 : Int) (hm0 : 0 ≤ m0 ∧ m0 < 4294967296) (_ : World) (hT : TabW w) :
    Calls Tryd.prog 6 #[.slice A b.length c, .int .u16 t0, .int .u32 m0] w fun e w' => e = .returned (.bool true) ∧ Below w.heap.size w w' := by
  have KL := Lib.hid (fun W (h : Below w.heap.size w W) => lives24 W (hT.up h))
  by_cases hl : 1000 < b.length ∨ m0 = 0
  · have hg : (1000 : Int) < (b.length : Int) ∨ ¬ (1000 : Int) < (b.length : Int) ∧ m0 = 0 := by omega
    have HK := Lib.hid (KL.out w (Below.refl _ _))
    clear hA hb hAc hl hT KL hm0 ht0
    generalize b.length = N at *
    rcases hg with hg | ⟨hg, hg2⟩
    all_goals
      try subst hg2
      go_enter Tryd.func6, Tryd.ntmps6
      go_wp2_with fail
      refine (HK.out).mono ?_
      rintro e wl ⟨rfl, bl⟩
      have HB := Lib.hid bl
      clear bl
      go_wp2
      go_ret
      exact ⟨rfl, HB.out⟩
  have hg : ¬ (1000 : Int) < (b.length : Int) := by omega
  have hmz : (m0 == 0) = false := by have : ¬ m0 = 0 := fun h => hl (.inr h); simpa using this
  obtain ⟨m, rfl⟩ := Int.eq_ofNat_of_zero_le hm0.1
  obtain ⟨t, rfl⟩ := Int.eq_ofNat_of_zero_le ht0.1
  have hm : m < 2 ^ 32 := by omega
  have hmn : m ≠ 0 := fun h => hl (.inr (by omega))
  have K1 := Lib.hid (ref_Seal b A c w hA hAc hb (by omega))
  unfold GivesY at K1
  obtain ⟨L, hL⟩ : ∃ L, L = b.length + 4 := ⟨_, rfl⟩
  have hSL : (sealC b).length = L := by rw [sealC_len, hL]
  obtain ⟨k, hk⟩ : ∃ k, k = t % (8 * L - 31) := ⟨_, rfl⟩
  have hkl : k < 8 * L - 31 := by rw [hk]; exact Nat.mod_lt _ (by omega)
  have hkm : (t : Int) % (8 * (L : Int) - 31) = (k : Int) := by
    rw [hk, show (8 * (L : Int) - 31) = ((8 * L - 31 : Nat) : Int) from by omega]; exact (Int.natCast_emod t (8 * L - 31)).symm
  have hkt : (t : Int).tmod (8 * (L : Int) - 31) = (k : Int) := by
    rw [Int.tmod_eq_emod_of_nonneg (by omega)]; exact hkm
  have hwt : wrap64 (t : Int) = (t : Int) := by unfold wrap64; omega
  have HF : Hid ((turnC m k (sealC b) 32).drop (L - 4) ≠ le4 (sumC ((turnC m k (sealC b) 32).take (L - 4)))) := by
    have := turned_found hb hm hmn (k := k) (by omega)
    rw [show L - 4 = b.length from by omega]
    exact this
  have HO : Hid (opnC (turnC m k (sealC b) 32) = ([], 240)) := by
    show _ = _
    unfold opnC
    rw [turnC_len, hSL, if_neg (by omega), if_neg HF.out]
  have HBY : Hid (∀ i, byt (turnC m k (sealC b) i)) := turnC_byte m k (sealC_byt hb)
  have HTL := Lib.hid (fun i => (turnC_len m k (sealC b) i).trans hSL)
  have KO : Hid (∀ W v B, Below w.heap.size w W → OwnsY W B v (turnC m k (sealC b) 32) → Calls Tryd.prog 8 #[v] W fun e w' => (∃ v, e = .returned (.tuple #[v, .int .i64 240]) ∧ OwnsY w' W.heap.size v []) ∧ Below W.heap.size W w') := fun W v B h h1 => by
    obtain ⟨A1, c1, rfl, q1, q2, k1, -, -⟩ := h1.lies
    have k := crc_Open (turnC m k (sealC b) 32) A1 c1 W (hT.up h) k1 (HBY.out 32) (by rw [HTL.out]; omega) q1 q2
    rw [HO.out] at k
    exact k
  have hL2 : L ≤ 1004 := by omega
  have hL4 : 4 ≤ L := by omega
  have HS0 : Hid (turnC m k (sealC b) 0 = sealC b) := rfl
  have HSL := Lib.hid hSL
  clear hA hb hAc hl hT hm0 ht0 HF HO hk hL hSL
  generalize hSS : sealC b = S at *
  clear hSS
  generalize b.length = N at *
  go_enter Tryd.func6, Tryd.ntmps6
  go_wp2_with fail
  refine (K1.out).mono ?_
  rintro e w1 ⟨⟨v, rfl, h1⟩, b1⟩
  obtain ⟨A1, c1, rfl, q1, q2, k1, -, q3⟩ := h1.lies
  rw [HSL.out] at h1 q1
  obtain ⟨ad, rfl, -⟩ := k1 (by rw [HSL.out]; omega)
  obtain ⟨g, rfl, hwg, hg1⟩ := q3 _ rfl
  have HV := Lib.hid h1
  have HB := Lib.hid b1
  clear h1 b1 K1 k1 q3
  rw [HSL.out]
  go_wp2
  go_loopw [9] (fun iv wr => ∃ i : Nat, iv = .int .i64 (i : Nat) ∧ i ≤ 32 ∧ Hid (OwnsY wr w.heap.size (.slice (some ⟨g, 0, none⟩) L c1) (turnC m k S i)) ∧ Hid (Below w.heap.size w wr)) (fun iv _ => 32 - (intOf iv).toNat)
  case atStart => exact ⟨0, rfl, by omega, (by rw [HS0.out]; exact HV.out), HB⟩
  case round =>
    obtain ⟨i, rfl, hi, HO, HB⟩ := hrel
    by_cases hlt : i < 32
    · have hig : (i : Int) < 32 := by omega
      have hb0 := and32 (m / 2 ^ i) 1 (Nat.lt_of_le_of_lt (Nat.div_le_self _ _) hm) (by omega)
      rw [nat_mask1, Int.natCast_ediv, Int.natCast_pow] at hb0
      have hb1 : bits .and .u32 ((m : Int) / 2 ^ i) 1 = ((m / 2 ^ i % 2 : Nat) : Int) := hb0
      clear hb0
      by_cases hc : m / 2 ^ i % 2 = 1
      · rw [hc, show ((1 : Nat) : Int) = 1 from rfl] at hb1
        have HE : Hid (turnC m k S (i + 1) = (turnC m k S i).set ((k + i) / 8) ((((turnC m k S i).getD ((k + i) / 8) 0).toNat ^^^ 2 ^ ((k + i) % 8) : Nat) : Int)) := by
          show (if m / 2 ^ i % 2 = 1 then _ else _ : List Int) = _
          rw [if_pos hc]
        have hpl : (k + i) / 8 < (turnC m k S i).length := by rw [HTL.out]; omega
        obtain ⟨e1, e2, e3, e4⟩ := ownY_at HO.out hpl
        obtain ⟨hx0, hx1⟩ := (HBY.out i).getD ((k + i) / 8)
        have hr : (k + i) % 8 < 8 := Nat.mod_lt _ (by omega)
        have hpw : 2 ^ ((k + i) % 8) < 256 := Nat.pow_lt_pow_right (a := 2) (n := 8) (by omega) hr
        have hxx := u8_xor_nat ((turnC m k S i).getD ((k + i) / 8) 0).toNat (2 ^ ((k + i) % 8)) (by omega) hpw
        rw [Int.toNat_of_nonneg hx0] at hxx
        have HW2 := Lib.hid (ownY_set HO.out ((k + i) / 8) ((((turnC m k S i).getD ((k + i) / 8) 0).toNat ^^^ 2 ^ ((k + i) % 8) : Nat) : Int))
        rw [← HE.out] at HW2
        have hpi : ((k + i) / 8 : Nat) < L := by omega
        generalize ((turnC m k S i).getD ((k + i) / 8) 0).toNat ^^^ 2 ^ ((k + i) % 8) = x2 at *
        generalize (turnC m k S i).getD ((k + i) / 8) 0 = x at *
        have hyw : IntKind.i64.wrap ((k : Int) + (i : Int)) = ((k + i : Nat) : Int) := by simp [IntKind.wrap, IntKind.bits, IntKind.signed]; omega
        have hyl : k + i ≤ 100000 := by omega
        clear HE hc hpl
        generalize k + i = y at *
        have htd : (y : Int).tdiv 8 = ((y / 8 : Nat) : Int) := by rw [Int.tdiv_eq_ediv_of_nonneg (by omega)]; omega
        have htm : (y : Int).tmod 8 = ((y % 8 : Nat) : Int) := by rw [Int.tmod_eq_emod_of_nonneg (by omega)]; omega
        have hwp : IntKind.i64.wrap ((y / 8 : Nat) : Int) = ((y / 8 : Nat) : Int) := by simp [IntKind.wrap, IntKind.bits, IntKind.signed]; omega
        have hwr : IntKind.i64.wrap ((y % 8 : Nat) : Int) = ((y % 8 : Nat) : Int) := by simp [IntKind.wrap, IntKind.bits, IntKind.signed]; omega
        have hpg : ((y / 8 : Nat) : Int) < (L : Int) := by omega
        generalize y / 8 = p at *
        generalize y % 8 = r at *
        have e1' : wr.drew.cell? ⟨g, p, none⟩ = some (.int .u8 x) := e1
        have e2' : wr.drew.frozen? ⟨g, p, none⟩ = false := e2
        have hxr : bits .xor .u8 x (2 ^ r % 256) = (x2 : Int) := by
          have e : (2 : Int) ^ r % 256 = ((2 ^ r : Nat) : Int) := by
            have h1 : ((2 ^ r % 256 : Nat) : Int) = (2 : Int) ^ r % 256 := by rw [Int.natCast_emod, Int.natCast_pow]; rfl
            rw [← h1, Nat.mod_eq_of_lt hpw]
          rw [e]; exact hxx
        clear hxx
        have HE3 := Lib.hid e3
        go_wp2
        go_region
        go_wp2
        exact ⟨⟨i + 1, by go_num, by omega, HW2.out.below ((Below.refl _ _).drew), (HB.out.setCell (p := ⟨g, p, none⟩) HE3.out _).drew⟩, by simp [intOf]; omega⟩
      · have hc0 : m / 2 ^ i % 2 = 0 := by omega
        rw [hc0, show ((0 : Nat) : Int) = 0 from rfl] at hb1
        have HE : Hid (turnC m k S (i + 1) = turnC m k S i) := by
          show (if m / 2 ^ i % 2 = 1 then _ else _ : List Int) = _
          rw [if_neg hc]
        go_wp2
        exact ⟨⟨i + 1, by go_num, by omega, (by rw [HE.out]; exact HO.out), HB⟩, by simp [intOf]; omega⟩
    · have hi32 : i = 32 := by omega
      subst hi32
      go_wp2_with fail
      refine (KO.out _ _ _ HB.out HO.out).mono ?_
      rintro e w5 ⟨⟨v5, rfl, h1⟩, b1⟩
      obtain ⟨A5, c5, rfl, -, -, -, -, -⟩ := h1.lies
      have HB5 := Lib.hid (HB.out.trans (b1.mono HB.out.size))
      clear h1 b1 KO
      go_wp2_with fail
      refine (KL.out _ HB5.out).mono ?_
      rintro e wl ⟨rfl, bl⟩
      have HB6 := Lib.hid (HB5.out.trans (bl.mono HB5.out.size))
      clear bl
      go_wp2
      go_ret
      exact ⟨rfl, HB6.out⟩

set_option maxRecDepth 100000 in
theorem lifted (os : Os) (started : os.Started) (H : Type) (enc : TypeId × Value → H) :
    ReturnsInHanded {} Tryd.checked os 6 .any (fun w args => (Rows.crcTurnsSpec.pre enc Tryd.prog Tryd.f6 [] false w args ∧ laidMetH Tryd.prog lst24 w) ∧ sizedMet enc Tryd.prog Tryd.f6 (OpenSpec.ofChange Rows.crcTurnsSpec) false w args) (Rows.crcTurnsSpec.post enc Tryd.prog Tryd.f6 false true false false) := by
  refine returnsInHanded_of_change_and (C := Tryd.checked) (X := fun w _ => laidMetH Tryd.prog lst24 w) (fun _ _ _ hh h => h.of_heap hh) own started (by kernel_rfl) Tryd.func6
    (ChangeSpec.witness_shaped (enc := enc) (C := Tryd.checked) (os := os) (X := fun w _ => laidMetH Tryd.prog lst24 w) false (World.doorLaid Tryd.prog 400 os) #[.slice none 0 0, .int .u16 0, .int .u32 0] 8 rfl (World.shaped_of_RefB (by kernel_rfl) (by kernel_rfl)) (by kernel_rfl) (by kernel_rfl) (by kernel_rfl) (door_met24 os _)) ?_
  intro W base args ds gs before hval0 hW _ _ hL _
  have hT := tab_of24 hL
  have hval : ∀ (j : Nat) t v, Tryd.f6.params[j]? = some t → args[j]? = some v → Value.okWide Tryd.prog W .any base t v := hval0
  have hW' := hW
  obtain ⟨p, q, hA0, hV, rfl, hfz, hnd⟩ := hW
  obtain ⟨rfl, rfl⟩ := trodVars_none hV
  have hA : DataW.TrodAll enc Tryd.prog W 0 (fun _ => true) true Tryd.f6.params.toList args.toList ds p := hA0
  rw [Tryd.params6] at hA hval
  obtain ⟨v0, vs0, d0, ds0, p0, q0, hargs, rfl, rfl, h0, r0⟩ := trodAll_cons hA
  obtain ⟨v1, vs1, d1, ds1, p1, q1, rfl, rfl, rfl, h1, r1⟩ := trodAll_cons r0
  obtain ⟨v2, vs2, d2, ds2, p2, q2, rfl, rfl, rfl, h2, r2⟩ := trodAll_cons r1
  obtain ⟨rfl, rfl, rfl⟩ := trodAll_nil r2
  obtain rfl : args = #[v0, v1, v2] := by cases args; simp_all
  obtain ⟨A0, l0, c0, rfl, L0, I0, C0, M0, N0⟩ := open_bytes Tryd.underlying22 Tryd.underlying5 cells_u8 (hval 0 22 v0 rfl rfl) h0
  obtain ⟨a1, rfl, _, _, w1⟩ := open_int Tryd.underlying35 (hval 1 35 v1 rfl rfl) h1
  obtain ⟨a2, rfl, _, _, w2⟩ := open_int Tryd.underlying23 (hval 2 23 v2 rfl rfl) h2
  refine (walk A0 l0 c0 L0 I0 C0 M0 N0 a1 (u16_of_wf w1) a2 (u32_of_wf w2) W hT).mono fun e W' ⟨he, hg⟩ => ?_
  subst he
  exact ⟨_, rfl, law_post laid (by rw [Tryd.params6]; exact (by decide +kernel)) rfl (by kernel_rfl) Tryd.underlying4 rfl hW' hg⟩

theorem over : Rows.crcTurnsRow.holds Tryd.pinned (OpenSpec.ofChange Rows.crcTurnsSpec) :=
  OpenClaim.holds_of_wide 6 Tryd.f6 rfl rfl rfl rfl rfl rfl rfl ⟨rfl, rfl, rfl, rfl, rfl⟩ rfl rfl rfl rfl rfl (by kernel_rfl) Tryd.func6 (by kernel_rfl)
    (of_decide_eq_true (by kernel_rfl)) (by unfold Func.isWrapper; first | (rw [if_pos (by decide +kernel)]; kernel_rfl) | (rw [if_neg (by decide +kernel)]; exact ⟨rfl, rfl⟩))
    (fun os started H enc _ => lifted os started H enc)
theorem proved : Rows.CrcTurnsCardSaid :=
  Claim7.holds_tied_plain_at .later [] [.data] true Rows.crcTurnsCard.stood.harness false
    over (fun _ h => by cases h) (by kernel_rfl) (fun _ h => by cases h) crcTurns_row_tie rfl ⟨rfl, rfl⟩ (by kernel_rfl) rfl
    (fun f fn hf hfn => by
      obtain rfl : f = 6 := Option.some.inj ((show Tryd.prog.funcNamed Rows.crcTurnsRow.func = some 6 by kernel_rfl).symm.trans hf) |>.symm
      obtain rfl : fn = Tryd.f6 := (Option.some.inj (Tryd.func6.symm.trans hfn)).symm
      exact ⟨by kernel_rfl, fun j t ht => by
        rw [Tryd.params6] at ht
        have hm : t ∈ [22, 35, 23] := by simpa using Array.mem_of_getElem? ht
        have hall : ([22, 35, 23].all fun u => !Tryd.prog.wantsStandIn u) = true := by kernel_rfl
        exact (show Tryd.prog.wantsStandIn t = false by simpa using List.all_eq_true.1 hall t hm)⟩)
    (by kernel_rfl)
end Go.Proofs.YtkfmebdpfjjkjaaDoor.crcTurns
