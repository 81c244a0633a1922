/- slices.Grow of nil and slices.Concat, at bytes. -/
import Derived.Test.YtkfmebdpfjjkjaaDoorBinB
import Derived.Lib.AppendZeros
import Derived.IntWalk
namespace Go.Proofs.YtkfmebdpfjjkjaaDoor
open Go.RowKit
set_option linter.unusedVariables false
set_option linter.unusedSimpArgs false

set_option maxRecDepth 100000 in
set_option maxHeartbeats 2000000 in
theorem sl_Grow (n : Nat) (hn : n ≤ 1000000000) (w : World) : Calls Tryd.prog 24 #[.slice none 0 0, .int .i64 (n : Int)] w fun e w' => (∃ v, e = .returned v ∧ OwnsY w' w.heap.size v []) ∧ Below w.heap.size w w' := by
  by_cases h0 : n = 0
  · subst h0
    go_enter Tryd.func24, Tryd.ntmps24
    go_wp2
    go_ret
    exact ⟨⟨_, rfl, OwnsY.nil _ _⟩, Below.refl _ _⟩
  · have hng : (0 : Int) < (n : Int) := by omega
    obtain ⟨i0, hi, hz0, hz1, hz2⟩ := info_parts infoY
    have hr := Lib.run_append_nil_zeros (P := Tryd.prog) w 22 3 22 5 i0 (.int .u8 0) .i64 .i64 Tryd.underlying22 Tryd.underlying3 hi hz0 n (by omega) (by rw [hz1]; omega) (by omega) (by rw [hz2]; omega)
    have hge := grownCap_ge w n 0 5
    have hcm : grownCap w n 0 5 ≤ maxLen := grownCap_le_maxLen w n 0 5 (by unfold maxLen; omega)
    have hsz : (Builtin.zeroCells (Value.int .u8 0).cells n ++ Builtin.zeroCells (Value.int .u8 0).cells (grownCap w n 0 5 - n)).size = grownCap w n 0 5 * 1 := by
      simp only [Array.size_append, size_zeroCells]
      show n * 1 + (grownCap w n 0 5 - n) * 1 = _
      omega
    have HBL := Lib.hid (((Below.refl w.heap.size w).drew).alloc (o := .cells (Builtin.zeroCells (Value.int .u8 0).cells n ++ Builtin.zeroCells (Value.int .u8 0).cells (grownCap w n 0 5 - n)) 5) (Nat.le_refl _))
    have HNB := Lib.hid (Box.new w.drew (Builtin.zeroCells (Value.int .u8 0).cells n ++ Builtin.zeroCells (Value.int .u8 0).cells (grownCap w n 0 5 - n)) 5)
    generalize Builtin.zeroCells (Value.int .u8 0).cells n ++ Builtin.zeroCells (Value.int .u8 0).cells (grownCap w n 0 5 - n) = cur at *
    generalize grownCap w n 0 5 = cap at *
    have HR := Lib.hid hr
    have hcapg : (0 : Int) ≤ (cap : Int) := by omega
    clear hr
    go_enter Tryd.func24, Tryd.ntmps24
    go_wp2_with (at_builtin; refine Lib.wpList_append_run _ rfl (.tmp 20) (.tmp 21) _ _ rfl _ _ rfl rfl _ _ HR.out ?_)
    go_wp2
    go_ret
    refine ⟨⟨_, rfl, rfl, .inr ⟨w.heap.size, cap, cur, rfl, Nat.le_refl _, HNB.out, by simp, hcm, hsz, ?_⟩⟩, HBL.out⟩
    simp [litY]
/-- rows of bytes, laid by their values -/
def LiesYY (W : World) (B : Nat) (ad : Addr) (R : List (List Int)) : Prop :=
  ∀ i, i < R.length → ∃ A c, W.cell? (ad.add i) = some (.slice A (R.getD i []).length c) ∧ LiesY W B A (R.getD i []) ∧ (A = none → c = 0)
set_option maxRecDepth 100000 in
set_option maxHeartbeats 4000000 in
theorem sl_Concat (R : List (List Int)) (ad : Addr) (c : Nat) (w : World) (hR : LiesYY w w.heap.size ad R) (had : ad.block < w.heap.size) (hl : R.flatten.length ≤ 1000000) (hm : R.length ≤ 1000000) :
    Calls Tryd.prog 22 #[.slice (some ad) R.length c] w (GivesY R.flatten w) := by
  have HR := Lib.hid hR
  have HAD := Lib.hid had
  have hstep : ∀ k, k < R.length → (R.take (k + 1)).flatten = (R.take k).flatten ++ R.getD k [] := fun k hk => by
    rw [List.take_add_one, List.flatten_append, List.getD_eq_getElem?_getD, List.getElem?_eq_getElem hk]
    simp
  have hle : ∀ k, (R.take k).flatten.length ≤ R.flatten.length := fun k => by
    conv => rhs; rw [← List.take_append_drop k R, List.flatten_append, List.length_append]
    omega
  have HST := Lib.hid hstep
  have HLE := Lib.hid hle
  have HT : Hid ((R.take R.length).flatten = R.flatten) := by show _ = _; rw [List.take_length]
  have HLF := Lib.hid hl
  have HADD : Hid (ad.add 0 = ad.add 0) := rfl
  clear hR had hstep hle HADD
  generalize hM : R.length = M at *
  have HM := Lib.hid hM
  clear hM
  go_enter Tryd.func22, Tryd.ntmps22
  go_wp2
  go_loop [3, 5, 11] (fun sv _ iv => ∃ (i m : Nat), sv = .int .i64 (m : Nat) ∧ iv = .int .i64 (i : Nat) ∧ i ≤ M ∧ Hid (m = (R.take i).flatten.length)) (fun _ _ iv => M - (intOf iv).toNat)
  case atStart => exact ⟨0, 0, rfl, rfl, Nat.zero_le _, (by show 0 = _; rw [List.take_zero]; rfl)⟩
  case round =>
    obtain ⟨i, m, rfl, rfl, hi, HE⟩ := hrel
    have hm0 : m ≤ 1000000 := by have h1 := HE.out; have h2 := HLE.out i; have h3 := HLF.out; omega
    by_cases h0 : i < M
    · have hig : (i : Int) < (M : Int) := by omega
      obtain ⟨A, c1, hc, hA, hAc⟩ := HR.out i (by rw [HM.out]; exact h0)
      have HE2 : Hid (m + (R.getD i []).length = (R.take (i + 1)).flatten.length) := by
        show _ = _
        rw [HST.out i h0, List.length_append, ← HE.out]
      have hm2 : m + (R.getD i []).length ≤ 1000000 := by have h1 := HE2.out; have h2 := HLE.out (i + 1); have h3 := HLF.out; omega
      have hmg : ¬ (m : Int) + ((R.getD i []).length : Int) < 0 := by omega
      clear hA hAc HE
      generalize (R.getD i []).length = q at *
      go_wp2
      exact ⟨⟨i + 1, m + q, by go_num, by go_num, by omega, HE2⟩, by simp [intOf]; omega⟩
    · have hiM : M = i := by omega
      subst hiM
      have HE2 : Hid (m = R.flatten.length) := by show _ = _; rw [HE.out, HT.out]
      have KG := Lib.hid (sl_Grow m (by omega) w)
      clear HE
      go_wp2_with fail
      refine (KG.out).mono ?_
      rintro e w1 ⟨⟨v0, rfl, g1⟩, g2⟩
      have HO1 := Lib.hid g1
      have HB1 := Lib.hid g2
      clear g1 g2 KG
      go_wp2
      go_loopw [6, 8, 27] (fun vv _ iv wr => ∃ (i : Nat), iv = .int .i64 (i : Nat) ∧ i ≤ M ∧ Hid (OwnsY wr w.heap.size vv (R.take i).flatten) ∧ Hid (Below w.heap.size w wr)) (fun _ _ iv _ => M - (intOf iv).toNat)
      case atStart => exact ⟨0, rfl, Nat.zero_le _, (by have := HO1.out; rw [List.take_zero]; exact this), HB1⟩
      case round =>
        obtain ⟨i, rfl, hi, HO, HB⟩ := hrel
        by_cases h0 : i < M
        · have hig : (i : Int) < (M : Int) := by omega
          obtain ⟨A, c1, hc, hA, hAc⟩ := HR.out i (by rw [HM.out]; exact h0)
          have hcw : wr.cell? (ad.add i) = some (.slice A (R.getD i []).length c1) := (HB.out.cell (by rw [add_block]; exact HAD.out)).trans hc
          have HAw := Lib.hid (hA.below HB.out)
          have HAc := Lib.hid hAc
          have h2 := HLE.out (i + 1)
          have h3 := HLF.out
          have hln : (R.take i).flatten.length + (R.getD i []).length ≤ 1000000000 := by
            rw [HST.out i h0, List.length_append] at h2; omega
          have HST2 := Lib.hid (HST.out i h0)
          have HLQ : Hid ((R.getD i []).length = (R.getD i []).length) := rfl
          clear hc hA hAc h2 h3
          generalize hQ : R.getD i [] = Q at *
          generalize hq : Q.length = q at *
          have HQ := Lib.hid hq
          have HLN := Lib.hid hln
          generalize hT : (R.take i).flatten = T at *
          clear hq hln hQ HLQ
          go_wp2_with (at_builtin; refine app_own (B := w.heap.size) rfl (.tmp 31) (.tmp 32) rfl _ T Q A c1 q rfl rfl HQ.out HAc.out HO.out HAw.out HB.out.size HLN.out ?_; intro v3 w3 g1 g2; have HO3 := Lib.hid g1; have HB3 := Lib.hid (HB.out.trans g2); clear g1 g2)
          exact ⟨⟨i + 1, by go_num, by omega, by show OwnsY _ _ _ _; rw [HST2.out]; exact HO3.out, HB3⟩, by simp [intOf]; omega⟩
        · have hiM : M = i := by omega
          subst hiM
          have HO4 := HO.out
          rw [HT.out] at HO4
          have HO5 := Lib.hid HO4
          clear HO4
          go_wp2
          go_ret
          exact ⟨⟨_, rfl, HO5.out⟩, HB.out⟩
end Go.Proofs.YtkfmebdpfjjkjaaDoor
