/- Statement CrcSums: whatever the input is, the Go function returns true and each argument reads as it did. No condition. -/
import Derived.Test.YtkfmebdpfjjkjaaDoorRows
import Derived.Test.YtkfmebdpfjjkjaaDoorCrcH
import Derived.Test.YtkfmebdpfjjkjaaDoorVecT
import Derived.Test.YtkfmebdpfjjkjaaDoorBase
import Derived.Test.YtkfmebdpfjjkjaaDoorTie
import Derived.Test.YtkfmebdpfjjkjaaDoorCards
import Derived.SevenTiedAt
import Derived.ProofKit
import Derived.OpenShut
import Derived.IntWalk
namespace Go.Proofs.YtkfmebdpfjjkjaaDoor.crcSums
open Go.ChangeShapes Go.WideShapes Go.ChangeAt Go.RowKit
set_option linter.unusedVariables false
set_option linter.unusedSimpArgs false
set_option maxRecDepth 100000

theorem own : ownKnob Tryd.prog.godebug = none := by kernel_rfl
theorem laid : laidOutB Tryd.prog = true := by kernel_rfl

set_option maxRecDepth 2000000 in
set_option maxHeartbeats 8000000 in
theorem walk (A : Option Addr) (b : List Int) (c : Nat) {w : World} (hA : LiesY w w.heap.size A b) (hb : byt b) (hbc : b.length ≤ c) (hcc : c ≤ 9223372036854775807) (hAc : A = none → c = 0) (s0 : Int) (hs0 : 0 ≤ s0 ∧ s0 < 4294967296) (_ : World) (hT : TabW w) :
    Calls Tryd.prog 3 #[.slice A b.length c, .int .u32 s0] w fun e w' => e = .returned (.bool true) ∧ Below w.heap.size w w' := by
  have KL := Lib.hid (fun W (h : Below w.heap.size w W) => lives24 W (hT.up h))
  by_cases hl : 1000 < b.length
  · have hg : (1000 : Int) < (b.length : Int) := by omega
    have HK := Lib.hid (KL.out w (Below.refl _ _))
    clear hA hb hAc hl hT KL hs0
    generalize b.length = N at *
    go_enter Tryd.func3, Tryd.ntmps3
    go_wp2_with fail
    refine (HK.out).mono ?_
    rintro e wl ⟨rfl, bl⟩
    have HB := Lib.hid bl
    clear bl
    go_wp2
    go_ret
    exact ⟨rfl, HB.out⟩
  have hg : ¬ (1000 : Int) < (b.length : Int) := by omega
  obtain ⟨s, rfl⟩ := Int.eq_ofNat_of_zero_le hs0.1
  have hs : s < 2 ^ 32 := by omega
  have up : ∀ W, Below w.heap.size w W → LiesY W W.heap.size A b := fun W h => (hA.below h).mono h.size
  have K1 : Hid (∀ W, Below w.heap.size w W → Calls Tryd.prog 8 #[.slice A b.length c] W fun e w' => (∃ v, e = .returned (.tuple #[v, .int .i64 (opnC b).2]) ∧ OwnsY w' W.heap.size v (opnC b).1) ∧ Below W.heap.size W w') := fun W h => crc_Open b A c W (hT.up h) (up W h) hb (by omega) hbc hcc
  have K2 : Hid (∀ W, Below w.heap.size w W → Calls Tryd.prog 9 #[.slice A b.length c] W fun e w' => (∃ A2 c2, e = .returned (.tuple #[.slice A2 (opnC b).1.length c2, .int .i64 (opnC b).2]) ∧ LiesY w' W.heap.size A2 (opnC b).1) ∧ Below W.heap.size W w') := fun W h => ref_Open b A c W (up W h) hb (by omega) hbc hcc
  have K3 : Hid (∀ W, Below w.heap.size w W → Calls Tryd.prog 10 #[.slice A b.length c] W fun e w' => e = .returned (.int .u32 (sumC b : Nat)) ∧ W = w') := fun W h => crc_Sum b A c _ W (hT.up h) (up W h) hb (by omega)
  have K4 : Hid (∀ W, Below w.heap.size w W → Calls Tryd.prog 11 #[.slice A b.length c] W fun e w' => e = .returned (.int .u32 (sumC b : Nat)) ∧ W = w') := fun W h => ref_Sum b A c _ W (up W h) hb (by omega)
  have K5 : Hid (∀ W, Below w.heap.size w W → Calls Tryd.prog 12 #[.int .u32 (s : Int), .slice A b.length c] W fun e w' => e = .returned (.int .u32 (moreC s b : Nat)) ∧ W = w') := fun W h => crc_More s b A c _ hs W (hT.up h) (up W h) hb (by omega)
  have K6 : Hid (∀ W, Below w.heap.size w W → Calls Tryd.prog 13 #[.int .u32 (s : Int), .slice A b.length c] W fun e w' => e = .returned (.int .u32 (moreC s b : Nat)) ∧ W = w') := fun W h => ref_More s b A c _ hs W (up W h) hb (by omega)
  have K7 : Hid (∀ W, Below w.heap.size w W → Calls Tryd.prog 15 #[.slice A b.length c] W fun e w' => (∃ v, e = .returned v ∧ OwnsY w' W.heap.size v (sealC b)) ∧ Below W.heap.size W w') := fun W h => crc_Seal b A c W (hT.up h) (up W h) hAc hb (by omega)
  have K8 : Hid (∀ W, Below w.heap.size w W → Calls Tryd.prog 16 #[.slice A b.length c] W fun e w' => (∃ v, e = .returned v ∧ OwnsY w' W.heap.size v (sealC b)) ∧ Below W.heap.size W w') := fun W h => ref_Seal b A c W (up W h) hAc hb (by omega)
  have K9 : Hid (∀ W v v2 B B2 l, OwnsY W B v l → OwnsY W B2 v2 l → Calls Tryd.prog 14 #[v, v2] W fun e w' => e = .returned (.bool true) ∧ W = w') := fun W v v2 B B2 l h1 h2 => by
    obtain ⟨A1, c1, rfl, -, -, k1, -, -⟩ := h1.lies
    obtain ⟨A2, c2, rfl, -, -, k2, -, -⟩ := h2.lies
    exact ref_SameY l A1 A2 c1 c2 _ W k1 k2
  have K10 : Hid (∀ W v B A2 c2, OwnsY W B v (opnC b).1 → LiesY W W.heap.size A2 (opnC b).1 → Calls Tryd.prog 14 #[v, .slice A2 (opnC b).1.length c2] W fun e w' => e = .returned (.bool true) ∧ W = w') := fun W v B A2 c2 h1 h2 => by
    obtain ⟨A1, c1, rfl, -, -, k1, -, -⟩ := h1.lies
    exact ref_SameY _ A1 A2 c1 c2 _ W k1 h2
  have K11 : Hid (∀ W v B, Below w.heap.size w W → OwnsY W B v b → Calls Tryd.prog 14 #[v, .slice A b.length c] W fun e w' => e = .returned (.bool true) ∧ W = w') := fun W v B h h1 => by
    obtain ⟨A1, c1, rfl, -, -, k1, -, -⟩ := h1.lies
    exact ref_SameY _ A1 A c1 c _ W k1 (up W h)
  have K12 : Hid (∀ W v B, Below w.heap.size w W → OwnsY W B v (sealC b) → Calls Tryd.prog 8 #[v] W fun e w' => (∃ v, e = .returned (.tuple #[v, .int .i64 0]) ∧ OwnsY w' W.heap.size v b) ∧ Below W.heap.size W w') := fun W v B h h1 => by
    obtain ⟨A1, c1, rfl, q1, q2, k1, -, -⟩ := h1.lies
    have k := crc_Open (sealC b) A1 c1 W (hT.up h) k1 (sealC_byt hb) (by rw [sealC_len]; omega) q1 q2
    rw [opnC_seal] at k
    exact k
  clear hA hb hAc hl hT up hs0 hs
  generalize (opnC b).1 = O at *
  generalize (opnC b).2 = E at *
  generalize sumC b = sb at *
  generalize moreC s b = sm at *
  generalize sealC b = S at *
  generalize O.length = on at *
  generalize b.length = N at *
  go_enter Tryd.func3, Tryd.ntmps3
  go_wp2_with fail
  refine (K1.out w (Below.refl _ _)).mono ?_
  rintro e w1 ⟨⟨v1, rfl, h1⟩, b1⟩
  have HV1 := Lib.hid h1
  have HB := Lib.hid b1
  clear h1 b1 K1
  go_wp2_with fail
  refine (K2.out w1 HB.out).mono ?_
  rintro e w2 ⟨⟨A2, c2, rfl, h1⟩, b1⟩
  have HV1 := Lib.hid (HV1.out.below b1)
  have HV2 := Lib.hid (h1.mono b1.size)
  have HB := Lib.hid (HB.out.trans (b1.mono HB.out.size))
  clear h1 b1 K2
  go_wp2_with fail
  refine (K3.out w2 HB.out).mono ?_
  rintro e wl ⟨rfl, rfl⟩
  go_wp2_with fail
  refine (K4.out w2 HB.out).mono ?_
  rintro e wl ⟨rfl, rfl⟩
  go_wp2_with fail
  refine (K5.out w2 HB.out).mono ?_
  rintro e wl ⟨rfl, rfl⟩
  go_wp2_with fail
  refine (K6.out w2 HB.out).mono ?_
  rintro e wl ⟨rfl, rfl⟩
  clear K3 K4 K5 K6
  go_wp2_with fail
  refine (K7.out w2 HB.out).mono ?_
  rintro e w3 ⟨⟨v3, rfl, h1⟩, b1⟩
  have HV3 := Lib.hid h1
  have HV1 := Lib.hid (HV1.out.below b1)
  have HV2 := Lib.hid (HV2.out.up b1)
  have HB := Lib.hid (HB.out.trans (b1.mono HB.out.size))
  clear h1 b1
  go_wp2_with fail
  refine (K8.out w3 HB.out).mono ?_
  rintro e w4 ⟨⟨v4, rfl, h1⟩, b1⟩
  have HV4 := Lib.hid h1
  have HV3 := Lib.hid (HV3.out.below b1)
  have HV1 := Lib.hid (HV1.out.below b1)
  have HV2 := Lib.hid (HV2.out.up b1)
  have HB := Lib.hid (HB.out.trans (b1.mono HB.out.size))
  clear h1 b1 K8
  go_wp2_with fail
  refine (K9.out w4 _ _ _ _ _ HV3.out HV4.out).mono ?_
  rintro e wl ⟨rfl, rfl⟩
  clear K9
  go_wp2_with fail
  refine (K10.out w4 _ _ _ _ HV1.out HV2.out).mono ?_
  rintro e wl ⟨rfl, rfl⟩
  clear K10 HV1 HV2 HV3 HV4
  go_wp2_with fail
  refine (K7.out w4 HB.out).mono ?_
  rintro e w5 ⟨⟨v5, rfl, h1⟩, b1⟩
  have HV5 := Lib.hid h1
  have HB := Lib.hid (HB.out.trans (b1.mono HB.out.size))
  clear h1 b1 K7
  go_wp2_with fail
  refine (K12.out w5 _ _ HB.out HV5.out).mono ?_
  rintro e w6 ⟨⟨v6, rfl, h1⟩, b1⟩
  have HV6 := Lib.hid h1
  have HB := Lib.hid (HB.out.trans (b1.mono HB.out.size))
  clear h1 b1 K12 HV5
  go_wp2_with fail
  refine (K11.out w6 _ _ HB.out HV6.out).mono ?_
  rintro e wl ⟨rfl, rfl⟩
  clear K11
  go_wp2_with fail
  refine (KL.out _ HB.out).mono ?_
  rintro e wl ⟨rfl, bl⟩
  have HB5 := Lib.hid (HB.out.trans (bl.mono HB.out.size))
  clear bl
  go_wp2
  go_ret
  exact ⟨rfl, HB5.out⟩

set_option maxRecDepth 100000 in
theorem lifted (os : Os) (started : os.Started) (H : Type) (enc : TypeId × Value → H) :
    ReturnsInHanded {} Tryd.checked os 3 .any (fun w args => (Rows.crcSumsSpec.pre enc Tryd.prog Tryd.f3 [] false w args ∧ laidMetH Tryd.prog lst24 w) ∧ sizedMet enc Tryd.prog Tryd.f3 (OpenSpec.ofChange Rows.crcSumsSpec) false w args) (Rows.crcSumsSpec.post enc Tryd.prog Tryd.f3 false true false false) := by
  refine returnsInHanded_of_change_and (C := Tryd.checked) (X := fun w _ => laidMetH Tryd.prog lst24 w) (fun _ _ _ hh h => h.of_heap hh) own started (by kernel_rfl) Tryd.func3
    (ChangeSpec.witness_shaped (enc := enc) (C := Tryd.checked) (os := os) (X := fun w _ => laidMetH Tryd.prog lst24 w) false (World.doorLaid Tryd.prog 400 os) #[.slice none 0 0, .int .u32 0] 8 rfl (World.shaped_of_RefB (by kernel_rfl) (by kernel_rfl)) (by kernel_rfl) (by kernel_rfl) (by kernel_rfl) (door_met24 os _)) ?_
  intro W base args ds gs before hval0 hW _ _ hL _
  have hT := tab_of24 hL
  have hval : ∀ (j : Nat) t v, Tryd.f3.params[j]? = some t → args[j]? = some v → Value.okWide Tryd.prog W .any base t v := hval0
  have hW' := hW
  obtain ⟨p, q, hA0, hV, rfl, hfz, hnd⟩ := hW
  obtain ⟨rfl, rfl⟩ := trodVars_none hV
  have hA : DataW.TrodAll enc Tryd.prog W 0 (fun _ => true) true Tryd.f3.params.toList args.toList ds p := hA0
  rw [Tryd.params3] at hA hval
  obtain ⟨v0, vs0, d0, ds0, p0, q0, hargs, rfl, rfl, h0, r0⟩ := trodAll_cons hA
  obtain ⟨v1, vs1, d1, ds1, p1, q1, rfl, rfl, rfl, h1, r1⟩ := trodAll_cons r0
  obtain ⟨rfl, rfl, rfl⟩ := trodAll_nil r1
  obtain rfl : args = #[v0, v1] := by cases args; simp_all
  obtain ⟨A0, l0, c0, rfl, L0, I0, C0, M0, N0⟩ := open_bytes Tryd.underlying22 Tryd.underlying5 cells_u8 (hval 0 22 v0 rfl rfl) h0
  obtain ⟨a1, rfl, _, _, w1⟩ := open_int Tryd.underlying23 (hval 1 23 v1 rfl rfl) h1
  refine (walk A0 l0 c0 L0 I0 C0 M0 N0 a1 (u32_of_wf w1) W hT).mono fun e W' ⟨he, hg⟩ => ?_
  subst he
  exact ⟨_, rfl, law_post laid (by rw [Tryd.params3]; exact (by decide +kernel)) rfl (by kernel_rfl) Tryd.underlying4 rfl hW' hg⟩

theorem over : Rows.crcSumsRow.holds Tryd.pinned (OpenSpec.ofChange Rows.crcSumsSpec) :=
  OpenClaim.holds_of_wide 3 Tryd.f3 rfl rfl rfl rfl rfl rfl rfl ⟨rfl, rfl, rfl, rfl, rfl⟩ rfl rfl rfl rfl rfl (by kernel_rfl) Tryd.func3 (by kernel_rfl)
    (of_decide_eq_true (by kernel_rfl)) (by unfold Func.isWrapper; first | (rw [if_pos (by decide +kernel)]; kernel_rfl) | (rw [if_neg (by decide +kernel)]; exact ⟨rfl, rfl⟩))
    (fun os started H enc _ => lifted os started H enc)
theorem proved : Rows.CrcSumsCardSaid :=
  Claim7.holds_tied_plain_at .later [] [.data] true Rows.crcSumsCard.stood.harness false
    over (fun _ h => by cases h) (by kernel_rfl) (fun _ h => by cases h) crcSums_row_tie rfl ⟨rfl, rfl⟩ (by kernel_rfl) rfl
    (fun f fn hf hfn => by
      obtain rfl : f = 3 := Option.some.inj ((show Tryd.prog.funcNamed Rows.crcSumsRow.func = some 3 by kernel_rfl).symm.trans hf) |>.symm
      obtain rfl : fn = Tryd.f3 := (Option.some.inj (Tryd.func3.symm.trans hfn)).symm
      exact ⟨by kernel_rfl, fun j t ht => by
        rw [Tryd.params3] at ht
        have hm : t ∈ [22, 23] := by simpa using Array.mem_of_getElem? ht
        have hall : ([22, 23].all fun u => !Tryd.prog.wantsStandIn u) = true := by kernel_rfl
        exact (show Tryd.prog.wantsStandIn t = false by simpa using List.all_eq_true.1 hall t hm)⟩)
    (by kernel_rfl)
end Go.Proofs.YtkfmebdpfjjkjaaDoor.crcSums
