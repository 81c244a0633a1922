/- Statement CrcJoins: whatever the input is, the Go function returns true and each argument reads as it did. No condition. -/
import Derived.Test.YtkfmebdpfjjkjaaDoorRows
import Derived.Test.YtkfmebdpfjjkjaaDoorCrcG
import Derived.Test.YtkfmebdpfjjkjaaDoorVecT
import Derived.Test.YtkfmebdpfjjkjaaDoorBase
import Derived.Test.YtkfmebdpfjjkjaaDoorTie
import Derived.Test.YtkfmebdpfjjkjaaDoorCards
import Derived.SevenTiedAt
import Derived.ProofKit
import Derived.OpenShut
import Derived.IntWalk
namespace Go.Proofs.YtkfmebdpfjjkjaaDoor.crcJoins
open Go.ChangeShapes Go.WideShapes Go.ChangeAt Go.RowKit
set_option linter.unusedVariables false
set_option linter.unusedSimpArgs false
set_option maxRecDepth 100000

theorem own : ownKnob Tryd.prog.godebug = none := by kernel_rfl
theorem laid : laidOutB Tryd.prog = true := by kernel_rfl

set_option maxRecDepth 2000000 in
set_option maxHeartbeats 8000000 in
theorem walk (A : Option Addr) (a : List Int) (c : Nat) {w : World} (hA : LiesY w w.heap.size A a) (ha : byt a) (hac : a.length ≤ c) (hcc : c ≤ 9223372036854775807) (hAc : A = none → c = 0)
    (A2 : Option Addr) (b : List Int) (c2 : Nat) (hB : LiesY w w.heap.size A2 b) (hb : byt b) (hbc : b.length ≤ c2) (hcc2 : c2 ≤ 9223372036854775807) (hBc : A2 = none → c2 = 0) (_ : World) (hT : TabW w) :
    Calls Tryd.prog 4 #[.slice A a.length c, .slice A2 b.length c2] w fun e w' => e = .returned (.bool true) ∧ Below w.heap.size w w' := by
  have KL := Lib.hid (fun W (h : Below w.heap.size w W) => lives24 W (hT.up h))
  by_cases hl : 1000 < a.length ∨ 1000 < b.length
  · have hg : (1000 : Int) < (a.length : Int) ∨ ¬ (1000 : Int) < (a.length : Int) ∧ (1000 : Int) < (b.length : Int) := by omega
    have HK := Lib.hid (KL.out w (Below.refl _ _))
    clear hA ha hAc hB hb hBc hl hT KL
    generalize a.length = N at *
    generalize b.length = M at *
    rcases hg with hg | ⟨hg, hg2⟩
    · go_enter Tryd.func4, Tryd.ntmps4
      go_wp2_with fail
      refine (HK.out).mono ?_
      rintro e wl ⟨rfl, bl⟩
      have HB := Lib.hid bl
      clear bl
      go_wp2
      go_ret
      exact ⟨rfl, HB.out⟩
    · go_enter Tryd.func4, Tryd.ntmps4
      go_wp2_with fail
      refine (HK.out).mono ?_
      rintro e wl ⟨rfl, bl⟩
      have HB := Lib.hid bl
      clear bl
      go_wp2
      go_ret
      exact ⟨rfl, HB.out⟩
  have h1 : a.length ≤ 1000 := by omega
  have h2 : b.length ≤ 1000 := by omega
  have g1 : ¬ (1000 : Int) < (a.length : Int) := by omega
  have g2 : ¬ (1000 : Int) < (b.length : Int) := by omega
  have K1 := Lib.hid (crc_Sum a A c w.heap.size w hT hA ha (by omega))
  have K2 := Lib.hid (crc_Sum b A2 c2 w.heap.size w hT hB hb (by omega))
  have K3 := Lib.hid (fun W => crc_Join (sumC a) (sumC b) b.length (moreC_lt (by omega) ha) (moreC_lt (by omega) hb) (by omega) W)
  rw [join_sum] at K3
  have K4 : Hid (∀ W v, OwnsY W w.heap.size v ([] ++ a ++ b) → Calls Tryd.prog 11 #[v] W fun e w' => e = .returned (.int .u32 (sumC (a ++ b) : Nat)) ∧ W = w') := fun W v h => by
    obtain ⟨A9, c9, e9, -, -, h9, -, -⟩ := h.lies
    rw [e9]
    exact ref_Sum (a ++ b) A9 c9 _ W h9 (fun x hx => by rcases List.mem_append.mp hx with h | h; exact ha x h; exact hb x h) (by rw [List.length_append]; omega)
  have b0 := Box.new w #[] 5
  have hal0 := (Below.refl w.heap.size w).alloc (Nat.le_refl _) (.cells #[] 5)
  have HO0 := Lib.hid (own_mt b0 (Nat.le_refl _))
  have HB0 := Lib.hid hal0
  have HA := Lib.hid (hA.below hal0)
  have HA2 := Lib.hid hB
  have HL1 := Lib.hid h1
  have HL2 := Lib.hid h2
  have HAc := Lib.hid hAc
  have HBc := Lib.hid hBc
  generalize sumC (a ++ b) = s at *
  generalize sumC a = sa at *
  generalize sumC b = sb at *
  clear hA ha hAc hB hb hBc hl hT b0 hal0 h1 h2
  generalize hN : a.length = N at *
  generalize hM : b.length = M at *
  have HN := Lib.hid hN
  have HM := Lib.hid hM
  clear hN hM
  go_enter Tryd.func4, Tryd.ntmps4
  go_wp2_with fail
  refine (K1.out).mono ?_
  rintro e wl ⟨rfl, rfl⟩
  go_wp2_with fail
  refine (K2.out).mono ?_
  rintro e wl ⟨rfl, rfl⟩
  go_wp2_with fail
  refine (K3.out _).mono ?_
  rintro e wl ⟨rfl, rfl⟩
  go_wp2_with (first | (at_builtin; refine app_own (B := w.heap.size) rfl (.tmp 21) (.tmp 22) rfl _ [] a A c N rfl rfl HN.out HAc.out HO0.out HA.out HB0.out.size (by have := HL1.out; simp; omega) ?_; intro v3 w3 q1 q2; have HO3 := Lib.hid q1; have HB3 := Lib.hid (HB0.out.trans q2); clear q1 q2) | (at_builtin; refine app_own (B := w.heap.size) rfl (.tmp 23) (.tmp 24) rfl v3 ([] ++ a) b A2 c2 M rfl rfl HM.out HBc.out HO3.out (HA2.out.below HB3.out) HB3.out.size (by have := HL1.out; have := HL2.out; have := HN.out; simp; omega) ?_; intro v4 w4 q1 q2; have HO4 := Lib.hid q1; have HB4 := Lib.hid (HB3.out.trans q2); clear q1 q2) | (go_at_call 11; refine (K4.out _ _ HO4.out).mono ?_; rintro e wl ⟨rfl, rfl⟩) | (go_at_call 7; refine (KL.out _ HB4.out).mono ?_; rintro e wl ⟨rfl, bl⟩; have HB5 := Lib.hid (HB4.out.trans (bl.mono HB4.out.size)); clear bl))
  go_ret
  exact ⟨rfl, HB5.out⟩

set_option maxRecDepth 100000 in
theorem lifted (os : Os) (started : os.Started) (H : Type) (enc : TypeId × Value → H) :
    ReturnsInHanded {} Tryd.checked os 4 .any (fun w args => (Rows.crcJoinsSpec.pre enc Tryd.prog Tryd.f4 [] false w args ∧ laidMetH Tryd.prog lst24 w) ∧ sizedMet enc Tryd.prog Tryd.f4 (OpenSpec.ofChange Rows.crcJoinsSpec) false w args) (Rows.crcJoinsSpec.post enc Tryd.prog Tryd.f4 false true false false) := by
  refine returnsInHanded_of_change_and (C := Tryd.checked) (X := fun w _ => laidMetH Tryd.prog lst24 w) (fun _ _ _ hh h => h.of_heap hh) own started (by kernel_rfl) Tryd.func4
    (ChangeSpec.witness_shaped (enc := enc) (C := Tryd.checked) (os := os) (X := fun w _ => laidMetH Tryd.prog lst24 w) false (World.doorLaid Tryd.prog 400 os) #[.slice none 0 0, .slice none 0 0] 8 rfl (World.shaped_of_RefB (by kernel_rfl) (by kernel_rfl)) (by kernel_rfl) (by kernel_rfl) (by kernel_rfl) (door_met24 os _)) ?_
  intro W base args ds gs before hval0 hW _ _ hL _
  have hT := tab_of24 hL
  have hval : ∀ (j : Nat) t v, Tryd.f4.params[j]? = some t → args[j]? = some v → Value.okWide Tryd.prog W .any base t v := hval0
  have hW' := hW
  obtain ⟨p, q, hA0, hV, rfl, hfz, hnd⟩ := hW
  obtain ⟨rfl, rfl⟩ := trodVars_none hV
  have hA : DataW.TrodAll enc Tryd.prog W 0 (fun _ => true) true Tryd.f4.params.toList args.toList ds p := hA0
  rw [Tryd.params4] at hA hval
  obtain ⟨v0, vs0, d0, ds0, p0, q0, hargs, rfl, rfl, h0, r0⟩ := trodAll_cons hA
  obtain ⟨v1, vs1, d1, ds1, p1, q1, rfl, rfl, rfl, h1, r1⟩ := trodAll_cons r0
  obtain ⟨rfl, rfl, rfl⟩ := trodAll_nil r1
  obtain rfl : args = #[v0, v1] := by cases args; simp_all
  obtain ⟨A0, l0, c0, rfl, L0, I0, C0, M0, N0⟩ := open_bytes Tryd.underlying22 Tryd.underlying5 cells_u8 (hval 0 22 v0 rfl rfl) h0
  obtain ⟨A1, l1, c1, rfl, L1, I1, C1, M1, N1⟩ := open_bytes Tryd.underlying22 Tryd.underlying5 cells_u8 (hval 1 22 v1 rfl rfl) h1
  refine (walk A0 l0 c0 L0 I0 C0 M0 N0 A1 l1 c1 L1 I1 C1 M1 N1 W hT).mono fun e W' ⟨he, hg⟩ => ?_
  subst he
  exact ⟨_, rfl, law_post laid (by rw [Tryd.params4]; exact (by decide +kernel)) rfl (by kernel_rfl) Tryd.underlying4 rfl hW' hg⟩

theorem over : Rows.crcJoinsRow.holds Tryd.pinned (OpenSpec.ofChange Rows.crcJoinsSpec) :=
  OpenClaim.holds_of_wide 4 Tryd.f4 rfl rfl rfl rfl rfl rfl rfl ⟨rfl, rfl, rfl, rfl, rfl⟩ rfl rfl rfl rfl rfl (by kernel_rfl) Tryd.func4 (by kernel_rfl)
    (of_decide_eq_true (by kernel_rfl)) (by unfold Func.isWrapper; first | (rw [if_pos (by decide +kernel)]; kernel_rfl) | (rw [if_neg (by decide +kernel)]; exact ⟨rfl, rfl⟩))
    (fun os started H enc _ => lifted os started H enc)
theorem proved : Rows.CrcJoinsCardSaid :=
  Claim7.holds_tied_plain_at .later [] [.data] true Rows.crcJoinsCard.stood.harness false
    over (fun _ h => by cases h) (by kernel_rfl) (fun _ h => by cases h) crcJoins_row_tie rfl ⟨rfl, rfl⟩ (by kernel_rfl) rfl
    (fun f fn hf hfn => by
      obtain rfl : f = 4 := Option.some.inj ((show Tryd.prog.funcNamed Rows.crcJoinsRow.func = some 4 by kernel_rfl).symm.trans hf) |>.symm
      obtain rfl : fn = Tryd.f4 := (Option.some.inj (Tryd.func4.symm.trans hfn)).symm
      exact ⟨by kernel_rfl, fun j t ht => by
        rw [Tryd.params4] at ht
        have hm : t ∈ [22, 22] := by simpa using Array.mem_of_getElem? ht
        have hall : ([22, 22].all fun u => !Tryd.prog.wantsStandIn u) = true := by kernel_rfl
        exact (show Tryd.prog.wantsStandIn t = false by simpa using List.all_eq_true.1 hall t hm)⟩)
    (by kernel_rfl)
end Go.Proofs.YtkfmebdpfjjkjaaDoor.crcJoins
