/- Statement CrcLong: whatever the input is, the Go function returns true and each argument reads as it did. No condition. -/
import Derived.Test.YtkfmebdpfjjkjaaDoorRows
import Derived.Test.YtkfmebdpfjjkjaaDoorCrcH
import Derived.Test.YtkfmebdpfjjkjaaDoorVecT
import Derived.Test.YtkfmebdpfjjkjaaDoorBase
import Derived.Test.YtkfmebdpfjjkjaaDoorTie
import Derived.Test.YtkfmebdpfjjkjaaDoorCards
import Derived.SevenTiedAt
import Derived.ProofKit
import Derived.OpenShut
import Derived.IntWalk
namespace Go.Proofs.YtkfmebdpfjjkjaaDoor.crcLong
open Go.ChangeShapes Go.WideShapes Go.ChangeAt Go.RowKit
set_option linter.unusedVariables false
set_option linter.unusedSimpArgs false
set_option maxRecDepth 100000

theorem own : ownKnob Tryd.prog.godebug = none := by kernel_rfl
theorem laid : laidOutB Tryd.prog = true := by kernel_rfl

set_option maxRecDepth 2000000 in
set_option maxHeartbeats 8000000 in
theorem walk (A : Option Addr) (a : List Int) (c : Nat) {w : World} (hA : LiesY w w.heap.size A a) (ha : byt a) (hac : a.length ≤ c) (hcc : c ≤ 9223372036854775807) (hAc : A = none → c = 0) (n0 : Int) (hn0 : I64 n0) (_ : World) (hT : TabW w) :
    Calls Tryd.prog 5 #[.slice A a.length c, .int .i64 n0] w fun e w' => e = .returned (.bool true) ∧ Below w.heap.size w w' := by
  have KL := Lib.hid (fun W (h : Below w.heap.size w W) => lives24 W (hT.up h))
  by_cases hl : 300 < a.length ∨ n0 < 0 ∨ 3000 < n0
  · have hg : (300 : Int) < (a.length : Int) ∨ ¬ (300 : Int) < (a.length : Int) ∧ n0 < 0 ∨ ¬ (300 : Int) < (a.length : Int) ∧ ¬ n0 < 0 ∧ 3000 < n0 := by omega
    have HK := Lib.hid (KL.out w (Below.refl _ _))
    clear hA ha hAc hl hT KL hn0
    generalize a.length = N at *
    rcases hg with hg | ⟨hg, hg2⟩ | ⟨hg, hg2, hg3⟩
    all_goals
      go_enter Tryd.func5, Tryd.ntmps5
      go_wp2_with fail
      refine (HK.out).mono ?_
      rintro e wl ⟨rfl, bl⟩
      have HB := Lib.hid bl
      clear bl
      go_wp2
      go_ret
      exact ⟨rfl, HB.out⟩
  have h1 : a.length ≤ 300 := by omega
  have g1 : ¬ (300 : Int) < (a.length : Int) := by omega
  obtain ⟨n, rfl⟩ := Int.eq_ofNat_of_zero_le (show 0 ≤ n0 by omega)
  have g2 : ¬ (n : Int) < 0 := by omega
  have g3 : ¬ (3000 : Int) < (n : Int) := by omega
  have hn : n ≤ 3000 := by omega
  have hz := byt_rep n
  have hzl : (List.replicate n (0 : Int)).length = n := List.length_replicate
  have K1 : Hid (∀ W, Below w.heap.size w W → Calls Tryd.prog 11 #[.slice A a.length c] W fun e w' => e = .returned (.int .u32 (sumC a : Nat)) ∧ W = w') := fun W h => ref_Sum a A c w.heap.size W (hA.below h) ha (by omega)
  have K2 : Hid (∀ W A2 c2, LiesY W W.heap.size A2 (List.replicate n 0) → Calls Tryd.prog 11 #[.slice A2 n c2] W fun e w' => e = .returned (.int .u32 (sumC (List.replicate n 0) : Nat)) ∧ W = w') := fun W A2 c2 h => by
    have := ref_Sum (List.replicate n 0) A2 c2 W.heap.size W h hz (by omega)
    rw [hzl] at this
    exact this
  have K3 := Lib.hid (fun W => crc_Join (sumC a) (sumC (List.replicate n 0)) n (moreC_lt (by omega) ha) (moreC_lt (by omega) hz) (by omega) W)
  have hj := join_sum a (List.replicate n 0)
  rw [hzl] at hj
  rw [hj, ← moreC_sumC] at K3
  have K4 : Hid (∀ W A2 c2, LiesY W W.heap.size A2 (List.replicate n 0) → Calls Tryd.prog 13 #[.int .u32 (sumC a : Nat), .slice A2 n c2] W fun e w' => e = .returned (.int .u32 (moreC (sumC a) (List.replicate n 0) : Nat)) ∧ W = w') := fun W A2 c2 h => by
    have := ref_More (sumC a) (List.replicate n 0) A2 c2 W.heap.size (moreC_lt (by omega) ha) W h hz (by omega)
    rw [hzl] at this
    exact this
  have HN := Lib.hid (show n ≤ 100000000 by omega)
  generalize moreC (sumC a) (List.replicate n 0) = s at *
  generalize sumC (List.replicate n 0) = sz at *
  generalize sumC a = sa at *
  generalize List.replicate n 0 = Z at *
  clear hA ha hAc hl hT hj hz hzl
  generalize a.length = N at *
  go_enter Tryd.func5, Tryd.ntmps5
  go_wp2_with (at_make; refine make_bytes rfl (.tmp 18) (.tmp 18) rfl n rfl rfl HN.out ?_; intro w2 q1 q2; have HZ := Lib.hid q1; have HB := Lib.hid q2; clear q1 q2)
  refine (K1.out _ HB.out).mono ?_
  rintro e wl ⟨rfl, rfl⟩
  go_wp2_with fail
  refine (K2.out _ _ _ HZ.out).mono ?_
  rintro e wl ⟨rfl, rfl⟩
  go_wp2_with fail
  refine (K3.out _).mono ?_
  rintro e wl ⟨rfl, rfl⟩
  go_wp2_with fail
  refine (K1.out _ HB.out).mono ?_
  rintro e wl ⟨rfl, rfl⟩
  go_wp2_with fail
  refine (K4.out _ _ _ HZ.out).mono ?_
  rintro e wl ⟨rfl, rfl⟩
  go_wp2_with fail
  refine (KL.out _ HB.out).mono ?_
  rintro e wl ⟨rfl, bl⟩
  have HB5 := Lib.hid (HB.out.trans (bl.mono HB.out.size))
  clear bl
  go_wp2
  go_ret
  exact ⟨rfl, HB5.out⟩

set_option maxRecDepth 100000 in
theorem lifted (os : Os) (started : os.Started) (H : Type) (enc : TypeId × Value → H) :
    ReturnsInHanded {} Tryd.checked os 5 .any (fun w args => (Rows.crcLongSpec.pre enc Tryd.prog Tryd.f5 [] false w args ∧ laidMetH Tryd.prog lst24 w) ∧ sizedMet enc Tryd.prog Tryd.f5 (OpenSpec.ofChange Rows.crcLongSpec) false w args) (Rows.crcLongSpec.post enc Tryd.prog Tryd.f5 false true false false) := by
  refine returnsInHanded_of_change_and (C := Tryd.checked) (X := fun w _ => laidMetH Tryd.prog lst24 w) (fun _ _ _ hh h => h.of_heap hh) own started (by kernel_rfl) Tryd.func5
    (ChangeSpec.witness_shaped (enc := enc) (C := Tryd.checked) (os := os) (X := fun w _ => laidMetH Tryd.prog lst24 w) false (World.doorLaid Tryd.prog 400 os) #[.slice none 0 0, .int .i64 0] 8 rfl (World.shaped_of_RefB (by kernel_rfl) (by kernel_rfl)) (by kernel_rfl) (by kernel_rfl) (by kernel_rfl) (door_met24 os _)) ?_
  intro W base args ds gs before hval0 hW _ _ hL _
  have hT := tab_of24 hL
  have hval : ∀ (j : Nat) t v, Tryd.f5.params[j]? = some t → args[j]? = some v → Value.okWide Tryd.prog W .any base t v := hval0
  have hW' := hW
  obtain ⟨p, q, hA0, hV, rfl, hfz, hnd⟩ := hW
  obtain ⟨rfl, rfl⟩ := trodVars_none hV
  have hA : DataW.TrodAll enc Tryd.prog W 0 (fun _ => true) true Tryd.f5.params.toList args.toList ds p := hA0
  rw [Tryd.params5] at hA hval
  obtain ⟨v0, vs0, d0, ds0, p0, q0, hargs, rfl, rfl, h0, r0⟩ := trodAll_cons hA
  obtain ⟨v1, vs1, d1, ds1, p1, q1, rfl, rfl, rfl, h1, r1⟩ := trodAll_cons r0
  obtain ⟨rfl, rfl, rfl⟩ := trodAll_nil r1
  obtain rfl : args = #[v0, v1] := by cases args; simp_all
  obtain ⟨A0, l0, c0, rfl, L0, I0, C0, M0, N0⟩ := open_bytes Tryd.underlying22 Tryd.underlying5 cells_u8 (hval 0 22 v0 rfl rfl) h0
  obtain ⟨a1, rfl, _, _, w1⟩ := open_int Tryd.underlying3 (hval 1 3 v1 rfl rfl) h1
  refine (walk A0 l0 c0 L0 I0 C0 M0 N0 a1 (i64_of_wf w1) W hT).mono fun e W' ⟨he, hg⟩ => ?_
  subst he
  exact ⟨_, rfl, law_post laid (by rw [Tryd.params5]; exact (by decide +kernel)) rfl (by kernel_rfl) Tryd.underlying4 rfl hW' hg⟩

theorem over : Rows.crcLongRow.holds Tryd.pinned (OpenSpec.ofChange Rows.crcLongSpec) :=
  OpenClaim.holds_of_wide 5 Tryd.f5 rfl rfl rfl rfl rfl rfl rfl ⟨rfl, rfl, rfl, rfl, rfl⟩ rfl rfl rfl rfl rfl (by kernel_rfl) Tryd.func5 (by kernel_rfl)
    (of_decide_eq_true (by kernel_rfl)) (by unfold Func.isWrapper; first | (rw [if_pos (by decide +kernel)]; kernel_rfl) | (rw [if_neg (by decide +kernel)]; exact ⟨rfl, rfl⟩))
    (fun os started H enc _ => lifted os started H enc)
theorem proved : Rows.CrcLongCardSaid :=
  Claim7.holds_tied_plain_at .later [] [.data] true Rows.crcLongCard.stood.harness false
    over (fun _ h => by cases h) (by kernel_rfl) (fun _ h => by cases h) crcLong_row_tie rfl ⟨rfl, rfl⟩ (by kernel_rfl) rfl
    (fun f fn hf hfn => by
      obtain rfl : f = 5 := Option.some.inj ((show Tryd.prog.funcNamed Rows.crcLongRow.func = some 5 by kernel_rfl).symm.trans hf) |>.symm
      obtain rfl : fn = Tryd.f5 := (Option.some.inj (Tryd.func5.symm.trans hfn)).symm
      exact ⟨by kernel_rfl, fun j t ht => by
        rw [Tryd.params5] at ht
        have hm : t ∈ [22, 3] := by simpa using Array.mem_of_getElem? ht
        have hall : ([22, 3].all fun u => !Tryd.prog.wantsStandIn u) = true := by kernel_rfl
        exact (show Tryd.prog.wantsStandIn t = false by simpa using List.all_eq_true.1 hall t hm)⟩)
    (by kernel_rfl)
end Go.Proofs.YtkfmebdpfjjkjaaDoor.crcLong
