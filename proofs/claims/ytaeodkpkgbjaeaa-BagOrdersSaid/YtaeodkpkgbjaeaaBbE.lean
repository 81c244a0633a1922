/- Layer 18 (bag): slices.Grow of nil and slices.Concat at scores; All. -/
import Derived.Test.YtaeodkpkgbjaeaaBbC
import Derived.Lib.AppendZeros
import Derived.IntWalk
namespace Go.Proofs.Ytaeodkpkgbjaeaa
open Go.RowKit
set_option linter.unusedVariables false
set_option linter.unusedSimpArgs false

set_option maxRecDepth 100000 in
set_option maxHeartbeats 2000000 in
theorem sl_GrowS (n : Nat) (hn : n ≤ 1000000) (w : World) : Calls Try.prog 143 #[.slice none 0 0, .int .i64 (n : Int)] w fun e w' => (∃ v, e = .returned v ∧ OwnS w' w.heap.size v []) ∧ Below w.heap.size w w' := by
  by_cases h0 : n = 0
  · subst h0
    go_enter Try.func143, Try.ntmps143
    go_wp2
    go_ret
    exact ⟨⟨_, rfl, ⟨rfl, .inl ⟨rfl, rfl⟩⟩⟩, Below.refl _ _⟩
  · have hng : (0 : Int) < (n : Int) := by omega
    obtain ⟨i0, hi, hz0, hz1, hz2⟩ := info_parts3 info_sc
    have hr := Lib.run_append_nil_zeros (P := Try.prog) w 28 3 28 24 i0 (.agg #[.int .i64 0, .int .i64 0]) .i64 .i64 Try.underlying28 Try.underlying3 hi hz0 n (by omega) (by rw [hz1]; omega) (by omega) (by rw [hz2]; omega)
    have hge := grownCap_ge w n 0 24
    have hcm : grownCap w n 0 24 ≤ maxLen := grownCap_le_maxLen w n 0 24 (by unfold maxLen; omega)
    have hsz : (Builtin.zeroCells (Value.agg #[.int .i64 0, .int .i64 0]).cells n ++ Builtin.zeroCells (Value.agg #[.int .i64 0, .int .i64 0]).cells (grownCap w n 0 24 - n)).size = grownCap w n 0 24 * 2 := by
      simp only [Array.size_append, size_zeroCells]
      show n * 2 + (grownCap w n 0 24 - n) * 2 = _
      omega
    have HBL := Lib.hid (((Below.refl w.heap.size w).drew).alloc (o := .cells (Builtin.zeroCells (Value.agg #[.int .i64 0, .int .i64 0]).cells n ++ Builtin.zeroCells (Value.agg #[.int .i64 0, .int .i64 0]).cells (grownCap w n 0 24 - n)) 24) (Nat.le_refl _))
    have HNB := Lib.hid (Box.new w.drew (Builtin.zeroCells (Value.agg #[.int .i64 0, .int .i64 0]).cells n ++ Builtin.zeroCells (Value.agg #[.int .i64 0, .int .i64 0]).cells (grownCap w n 0 24 - n)) 24)
    generalize Builtin.zeroCells (Value.agg #[.int .i64 0, .int .i64 0]).cells n ++ Builtin.zeroCells (Value.agg #[.int .i64 0, .int .i64 0]).cells (grownCap w n 0 24 - n) = cur at *
    generalize grownCap w n 0 24 = cap at *
    have HR := Lib.hid hr
    have hcapg : (0 : Int) ≤ (cap : Int) := by omega
    clear hr
    go_enter Try.func143, Try.ntmps143
    go_wp2_with (at_builtin; refine Lib.wpList_append_run _ rfl (.tmp 20) (.tmp 21) _ _ rfl _ _ rfl rfl _ _ HR.out ?_)
    go_wp2
    go_ret
    refine ⟨⟨_, rfl, rfl, .inr ⟨w.heap.size, cap, cur, rfl, Nat.le_refl _, HNB.out, by simp, hcm, hsz, ?_⟩⟩, HBL.out⟩
    simp [celS]
theorem flat_take (bs : List Blk) (k : Nat) (hk : k < bs.length) : flat (bs.take (k + 1)) = flat (bs.take k) ++ (bs.getD k bk0).2 := by
  have e : bs.getD k bk0 = bs[k] := by simp [List.getElem?_eq_getElem hk]
  have e2 : bs.take (k + 1) = bs.take k ++ [bs[k]] := by rw [List.take_add_one, List.getElem?_eq_getElem hk]; rfl
  rw [e2, flat_app, e]
  congr 1
  simp [flat]
theorem flat_take_le (bs : List Blk) (k : Nat) : (flat (bs.take k)).length ≤ (flat bs).length := by
  conv => rhs; rw [← List.take_append_drop k bs, flat_app, List.length_append]
  omega
set_option maxRecDepth 100000 in
set_option maxHeartbeats 4000000 in
theorem sl_ConcatS (bs : List Blk) (gB c : Nat) (w : World) (hL : LiesB w w.heap.size gB bs) (hl : (flat bs).length ≤ 100000) (hm : bs.length ≤ 1000000) :
    Calls Try.prog 83 #[.slice (some ⟨gB, 0, none⟩) bs.length c] w fun e w' => (∃ v, e = .returned v ∧ OwnS w' w.heap.size v (flat bs)) ∧ Below w.heap.size w w' := by
  have HR := Lib.hid hL
  have HST := Lib.hid (flat_take bs)
  have HLE := Lib.hid (flat_take_le bs)
  have HT : Hid (flat (bs.take bs.length) = flat bs) := by show _ = _; rw [List.take_length]
  have HLF := Lib.hid hl
  clear hL
  generalize hM : bs.length = M at *
  have HM := Lib.hid hM
  clear hM
  go_enter Try.func83, Try.ntmps83
  go_wp2
  go_loop [3, 5, 11] (fun sv _ iv => ∃ (i m : Nat), sv = .int .i64 (m : Nat) ∧ iv = .int .i64 (i : Nat) ∧ i ≤ M ∧ Hid (m = (flat (bs.take i)).length)) (fun _ _ iv => M - (intOf iv).toNat)
  case atStart => exact ⟨0, 0, rfl, rfl, Nat.zero_le _, (by show 0 = _; rw [List.take_zero]; rfl)⟩
  case round =>
    obtain ⟨i, m, rfl, rfl, hi, HE⟩ := hrel
    have hm0 : m ≤ 1000000 := by have h1 := HE.out; have h2 := HLE.out i; have h3 := HLF.out; omega
    by_cases h0 : i < M
    · have hig : (i : Int) < (M : Int) := by omega
      have hc := HR.out.hd i (by rw [HM.out]; exact h0)
      unfold blkV at hc
      have HE2 : Hid (m + (bs.getD i bk0).2.length = (flat (bs.take (i + 1))).length) := by
        show _ = _
        rw [HST.out i h0, List.length_append, ← HE.out]
      have hm2 : m + (bs.getD i bk0).2.length ≤ 1000000 := by have h1 := HE2.out; have h2 := HLE.out (i + 1); have h3 := HLF.out; omega
      have hmg : ¬ (m : Int) + ((bs.getD i bk0).2.length : Int) < 0 := by omega
      clear HE
      generalize (bs.getD i bk0).2.length = q at *
      generalize (bs.getD i bk0).1 = gb at *
      go_wp2
      exact ⟨⟨i + 1, m + q, by go_num, by go_num, by omega, HE2⟩, by simp [intOf]; omega⟩
    · have hiM : M = i := by omega
      subst hiM
      have HE2 : Hid (m = (flat bs).length) := by show _ = _; rw [HE.out, HT.out]
      have KG := Lib.hid (sl_GrowS m (by omega) w)
      clear HE
      go_wp2_with fail
      refine (KG.out).mono ?_
      rintro e w1 ⟨⟨v0, rfl, g1⟩, g2⟩
      have HO1 := Lib.hid g1
      have HB1 := Lib.hid g2
      clear g1 g2 KG
      go_wp2
      go_loopw [6, 8, 27] (fun vv _ iv wr => ∃ (i : Nat), iv = .int .i64 (i : Nat) ∧ i ≤ M ∧ Hid (OwnS wr w.heap.size vv (flat (bs.take i))) ∧ Hid (Below w.heap.size w wr)) (fun _ _ iv _ => M - (intOf iv).toNat)
      case atStart => exact ⟨0, rfl, Nat.zero_le _, (by have := HO1.out; rw [List.take_zero]; exact this), HB1⟩
      case round =>
        obtain ⟨i, rfl, hi, HO, HB⟩ := hrel
        by_cases h0 : i < M
        · have hig : (i : Int) < (M : Int) := by omega
          have hLw := HR.out.below HB.out
          have hcw := hLw.hd i (by rw [HM.out]; exact h0)
          unfold blkV at hcw
          have HAw := Lib.hid (hLw.sc i (by rw [HM.out]; exact h0))
          have h2 := HLE.out (i + 1)
          have h3 := HLF.out
          have hln : (flat (bs.take i)).length + (bs.getD i bk0).2.length ≤ 1000000 := by
            rw [HST.out i h0, List.length_append] at h2; omega
          have HST2 := Lib.hid (HST.out i h0)
          clear h2 h3 hLw
          generalize hQ : (bs.getD i bk0).2 = Q at *
          generalize (bs.getD i bk0).1 = gb at *
          generalize hq : Q.length = q at *
          have HQ := Lib.hid hq
          have HLN := Lib.hid hln
          generalize hT : flat (bs.take i) = T at *
          clear hq hln hQ
          go_wp2_with (at_builtin; refine app_rowL (B := w.heap.size) rfl (.tmp 31) (.tmp 32) rfl _ T Q ⟨gb, 0, none⟩ 64 q rfl rfl HQ.out HO.out HAw.out HB.out.size HLN.out ?_; intro v3 w3 g1 g2; have HO3 := Lib.hid g1; have HB3 := Lib.hid (HB.out.trans g2); clear g1 g2)
          exact ⟨⟨i + 1, by go_num, by omega, by show OwnS _ _ _ _; rw [HST2.out]; exact HO3.out, HB3⟩, by simp [intOf]; omega⟩
        · have hiM : M = i := by omega
          subst hiM
          have HO4 := HO.out
          rw [HT.out] at HO4
          have HO5 := Lib.hid HO4
          clear HO4
          go_wp2
          go_ret
          exact ⟨⟨_, rfl, HO5.out⟩, HB.out⟩
set_option maxRecDepth 100000 in
set_option maxHeartbeats 4000000 in
theorem bag_all (O : List Nat) (g : Nat) (l : List PQ) (w : World) (h : BagAt w O g l) :
    Calls Try.prog 21 #[.pointer (some ⟨g, 0, none⟩)] w fun e w' => (∃ v, e = .returned v ∧ OwnS w' w.heap.size v l) ∧ Below w.heap.size w w' := by
  obtain ⟨gB, c, bs, hO, hb, hB, hgn, hOk, hfl, hU, hl⟩ := h
  have hfew := hOk.few
  rw [hfl] at hfew
  have K := Lib.hid (sl_ConcatS bs gB c w hB.lies (by rw [hfl]; omega) (by omega))
  rw [hfl] at K
  obtain ⟨x0, x1, _, _⟩ := hb.two
  generalize bs.length = n at *
  clear hB hb hOk hU
  go_enter Try.func21, Try.ntmps21
  go_wp2_with fail
  refine K.out.mono ?_
  rintro e w1 ⟨⟨v, rfl, h1⟩, h2⟩
  have H1 := Lib.hid h1
  have H2 := Lib.hid h2
  clear h1 h2
  go_wp2
  go_ret
  exact ⟨⟨v, rfl, H1.out⟩, H2.out⟩
end Go.Proofs.Ytaeodkpkgbjaeaa
