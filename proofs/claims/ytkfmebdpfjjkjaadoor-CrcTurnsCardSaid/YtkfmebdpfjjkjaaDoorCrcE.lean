/- Layer 24 (crc): the reference's Seal and Open. -/
import Derived.Test.YtkfmebdpfjjkjaaDoorCrcD
import Derived.Deep.RegionWith
namespace Go.Proofs.YtkfmebdpfjjkjaaDoor
open Go.RowKit
set_option linter.unusedVariables false
set_option linter.unusedSimpArgs false

theorem le4_ints {s : Nat} (hs : s < 2 ^ 32) : le4 s = [(s : Int) % 256, (s : Int) / 256 % 256, (s : Int) / 65536 % 256, (s : Int) / 16777216] := by
  unfold le4
  have : s / 16777216 % 256 = s / 16777216 := by omega
  rw [this]
  congr 1
set_option maxRecDepth 100000 in
set_option maxHeartbeats 4000000 in
theorem ref_Seal (b : List Int) (A : Option Addr) (c : Nat) (w : World) (hA : LiesY w w.heap.size A b) (hAc : A = none → c = 0) (hb : byt b) (hl : b.length ≤ 100000) : Calls Tryd.prog 16 #[.slice A b.length c] w (GivesY (sealC b) w) := by
  have K := Lib.hid (ref_Sum b A c w.heap.size w hA hb (by omega))
  have hs : sumC b < 2 ^ 32 := moreC_lt (by omega) hb
  have HS : Hid (sealC b = b ++ le4 (sumC b)) := rfl
  have HAc := Lib.hid hAc
  have HL := Lib.hid hl
  rw [le4_ints hs] at HS
  have HA := Lib.hid hA
  generalize sealC b = S at *
  generalize sumC b = s at *
  have b0 := Box.new w #[] 5
  have hal0 := (Below.refl w.heap.size w).alloc (Nat.le_refl _) (.cells #[] 5)
  have HO0 := Lib.hid (own_mt b0 (Nat.le_refl _))
  have HB0 := Lib.hid hal0
  have HA0 := Lib.hid (hA.below hal0)
  have HLN : Hid (b.length = b.length) := rfl
  clear hA hb hAc hl b0 hal0
  generalize hN : b.length = N at *
  have HN := Lib.hid hN
  clear hN HLN
  go_enter Tryd.func16, Tryd.ntmps16
  go_wp2_with fail
  refine (K.out).mono ?_
  rintro e w2 ⟨rfl, rfl⟩
  go_wp2_with (first | (at_builtin; refine app_own (B := w.heap.size) rfl (.tmp 7) (.tmp 8) rfl _ [] b A c N rfl rfl HN.out HAc.out HO0.out HA0.out HB0.out.size (by have := HL.out; simp; omega) ?_; intro v3 w3 g1 g2; have HO3 := Lib.hid g1; have HB3 := Lib.hid (HB0.out.trans g2); clear g1 g2; have HNB := Lib.hid (Box.new w3 #[.int .u8 ((s : Int) % 256), .int .u8 ((s : Int) / 256 % 256), .int .u8 ((s : Int) / 65536 % 256), .int .u8 ((s : Int) / 16777216)] 5); have HBL := Lib.hid ((Below.refl w3.heap.size w3).alloc (Nat.le_refl _) (.cells #[.int .u8 ((s : Int) % 256), .int .u8 ((s : Int) / 256 % 256), .int .u8 ((s : Int) / 65536 % 256), .int .u8 ((s : Int) / 16777216)] 5)); have HOB := Lib.hid (lies_of_ownC (own_lit4 HNB.out (Nat.le_refl _))); have HLB : Hid (([] ++ b).length + 4 ≤ 1000000000) := (by show _ ≤ _; have := HL.out; have := HN.out; simp; omega); have HBL2 := Lib.hid (HB3.out.trans (HBL.out.mono HB3.out.size)); have HO4 := Lib.hid (HO3.out.below HBL.out)) | (at_builtin; refine app_own (B := w.heap.size) rfl (.tmp 10) (.tmp 25) rfl v3 ([] ++ b) [(s : Int) % 256, (s : Int) / 256 % 256, (s : Int) / 65536 % 256, (s : Int) / 16777216] (some ⟨w3.heap.size, 0, none⟩) 4 4 rfl rfl rfl (fun h => by cases h) HO4.out HOB.out HBL2.out.size HLB.out ?_; intro v5 w5 g1 g2; have HO5 := Lib.hid g1; have HB5 := Lib.hid (HBL2.out.trans g2); clear g1 g2))
  go_ret
  exact ⟨⟨_, rfl, by have := HO5.out; rw [List.nil_append, ← HS.out] at this; exact this⟩, HB5.out⟩
set_option maxRecDepth 100000 in
set_option maxHeartbeats 4000000 in
theorem ref_Open (b : List Int) (A : Option Addr) (c : Nat) (w : World) (hA : LiesY w w.heap.size A b) (hb : byt b) (hl : b.length ≤ 100000) (hbc : b.length ≤ c) (hc : c ≤ 9223372036854775807) : Calls Tryd.prog 9 #[.slice A b.length c] w fun e w' => (∃ A2 c2, e = .returned (.tuple #[.slice A2 (opnC b).1.length c2, .int .i64 (opnC b).2]) ∧ LiesY w' w.heap.size A2 (opnC b).1) ∧ Below w.heap.size w w' := by
  unfold opnC
  by_cases h4 : b.length < 4
  · rw [if_pos h4]
    have hg : (b.length : Int) < 4 := by omega
    clear hA hb
    generalize b.length = N at *
    go_enter Tryd.func9, Tryd.ntmps9
    go_wp2
    refine bodyPost_ret (v := .tuple #[.slice none 0 0, .int .i64 210]) (by simp [results, Tryd.results9, go_sem]) rfl ?_
    exact ⟨⟨none, 0, rfl, LiesY.nil⟩, Below.refl _ _⟩
  rw [if_neg h4]
  obtain ⟨m, hm⟩ : ∃ m, m = b.length - 4 := ⟨_, rfl⟩
  rw [← hm]
  obtain ⟨ad, eA, -⟩ := hA (by omega)
  subst eA
  have hN : b.length = m + 4 := by omega
  have hlt : (b.take m).length = m := by rw [List.length_take]; omega
  have KS : Hid (∀ W, Below w.heap.size w W → Calls Tryd.prog 16 #[.slice (some ad) m c] W (GivesY (sealC (b.take m)) W)) := fun W h => by
    have := ref_Seal (b.take m) (some ad) c W (((hA.below h).mono h.size).takeC m) (fun h => by cases h) (hb.take m) (by omega)
    rw [hlt] at this
    exact this
  have hlen : (sealC (b.take m)).length = m + 4 := by rw [sealC_len, hlt]
  have HSL := Lib.hid hlen
  have KC1 : Hid (∀ W, Below w.heap.size w W → (convert 22 9 (.slice (some ad) (m + 4) c)).run Tryd.prog W = .ok (.string (strOfNums b)) W) := fun W h => by
    have := conv_y W (some ad) b c w.heap.size (hA.below h)
    rw [hN] at this
    exact this
  have KC2 : Hid (∀ W v, OwnsY W w.heap.size v (sealC (b.take m)) → (convert 22 9 v).run Tryd.prog W = .ok (.string (strOfNums (sealC (b.take m)))) W) := fun W v h => by
    obtain ⟨A9, c9, e9, -, -, h9, -, -⟩ := h.lies
    rw [e9]
    exact conv_y W A9 _ c9 _ h9
  have HT : Hid (∀ W, Below w.heap.size w W → LiesY W w.heap.size (some ad) (b.take m)) := fun W h => (hA.below h).takeC m
  have hq : ((strOfNums (sealC (b.take m))).toList == (strOfNums b).toList) = decide (b.drop m = le4 (sumC (b.take m))) := by
    rw [Bool.eq_iff_iff, beq_iff_eq, decide_eq_true_iff, strOf_inj (sealC_byt (hb.take m)) hb]
    unfold sealC
    constructor
    · intro h
      have h2 : b.take m ++ le4 (sumC (b.take m)) = b.take m ++ b.drop m := by rw [List.take_append_drop]; exact h
      exact (List.append_cancel_left h2).symm
    · intro h
      rw [← h, List.take_append_drop]
  have HTL := Lib.hid hlt
  have hs1 : ∀ W : World, (Instr.slice 22 (.slice (some ad) (m + 4) c) none (some (.int .i64 (m : Int))) none).run Tryd.prog W = .ok (.slice (some ad) m c) W := by
    intro W
    have : (m : Int) ≤ (c : Int) := by omega
    have hc0 : ¬ c = 0 := by omega
    simp [go_sem, Tryd.underlying22, this, hc0]
    try omega
  have hg : ¬ (((m + 4 : Nat) : Int) < 4) := by omega
  have hms : ((m + 4 : Nat) : Int) - 4 = (m : Int) := by omega
  rw [hN]
  have hml : m ≤ 100000 := by omega
  clear hA hb hlen h4 hm hl hbc hN
  have hwm : IntKind.i64.wrap (m : Int) = m := by simp [IntKind.wrap, IntKind.bits, IntKind.signed]; omega
  have hwm' : wrap64 (m : Int) = m := by unfold wrap64; omega
  have hmN : Hid (m + 4 ≤ 200000) := by show _ ≤ _; omega
  generalize m + 4 = N at *
  have kc0 := KC1.out _ (Below.refl w.heap.size w).drew
  by_cases hd : b.drop m = le4 (sumC (b.take m))
  · rw [decide_eq_true hd] at hq
    rw [if_pos hd]
    clear hd
    show Calls _ _ _ _ fun e w' => (∃ A2 c2, e = .returned (.tuple #[.slice A2 (b.take m).length c2, .int .i64 0]) ∧ LiesY w' w.heap.size A2 (b.take m)) ∧ Below w.heap.size w w'
    rw [hlt]
    clear hlt
    generalize strOfNums (sealC (b.take m)) = sa at *
    generalize strOfNums b = sb at *
    generalize sealC (b.take m) = S at *
    generalize b.take m = T at *
    unfold GivesY at KS
    go_enter Tryd.func9, Tryd.ntmps9
    go_wp2
    go_region_with (go_at_call 16; refine Calls.mono (KS.out _ (Below.refl _ _).drew) ?_; rintro e w2 ⟨⟨v, rfl, g1⟩, g2⟩; have HB2 := Lib.hid ((Below.refl w.heap.size w).drew.trans g2); have kc1 := KC1.out w2 HB2.out; have kc2 := KC2.out w2 v g1; clear g1 g2)
    all_goals
      go_wp2
      refine bodyPost_ret (v := .tuple #[.slice (some ad) m c, .int .i64 0]) (by simp [results, Tryd.results9, go_sem]) rfl ?_
      exact ⟨⟨_, _, rfl, HT.out _ HB2.out⟩, HB2.out⟩
  · rw [decide_eq_false hd] at hq
    rw [if_neg hd]
    clear hd
    generalize strOfNums (sealC (b.take m)) = sa at *
    generalize strOfNums b = sb at *
    generalize sealC (b.take m) = S at *
    generalize b.take m = T at *
    unfold GivesY at KS
    go_enter Tryd.func9, Tryd.ntmps9
    go_wp2
    go_region_with (go_at_call 16; refine Calls.mono (KS.out _ (Below.refl _ _).drew) ?_; rintro e w2 ⟨⟨v, rfl, g1⟩, g2⟩; have HB2 := Lib.hid ((Below.refl w.heap.size w).drew.trans g2); have kc1 := KC1.out w2 HB2.out; have kc2 := KC2.out w2 v g1; clear g1 g2)
    all_goals
      go_wp2
      refine bodyPost_ret (v := .tuple #[.slice none 0 0, .int .i64 240]) (by simp [results, Tryd.results9, go_sem]) rfl ?_
      exact ⟨⟨none, 0, rfl, LiesY.nil⟩, HB2.out⟩
end Go.Proofs.YtkfmebdpfjjkjaaDoor
