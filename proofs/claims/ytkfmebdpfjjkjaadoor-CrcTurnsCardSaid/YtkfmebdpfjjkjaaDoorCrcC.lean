/- Layer 24 (crc): Seal and Open, in the code. -/
import Derived.Test.YtkfmebdpfjjkjaaDoorCrcA
import Derived.Test.YtkfmebdpfjjkjaaDoorCrcB
import Derived.Deep.RegionWith
import Derived.Lib.Bytes
namespace Go.Proofs.YtkfmebdpfjjkjaaDoor
open Go.RowKit
set_option linter.unusedVariables false
set_option linter.unusedSimpArgs false

theorem strOf_inj {a b : List Int} (ha : byt a) (hb : byt b) : (strOfNums a).toList = (strOfNums b).toList ↔ a = b := by
  constructor
  · intro h
    have hd : a.map (fun n => UInt8.ofNat n.toNat) = b.map (fun n => UInt8.ofNat n.toNat) := by
      have e1 := Lib.strOfNums_toList a
      have e2 := Lib.strOfNums_toList b
      rw [e1, e2] at h
      exact h
    have back : ∀ l : List Int, byt l → (l.map (fun n => UInt8.ofNat n.toNat)).map (fun u => (u.toNat : Int)) = l := by
      intro l hl
      rw [List.map_map]
      conv => rhs; rw [← List.map_id l]
      apply List.map_congr_left
      intro x hx
      have := hl x hx
      show ((UInt8.ofNat x.toNat).toNat : Int) = x
      rw [UInt8.toNat_ofNat']
      omega
    rw [← back a ha, ← back b hb, hd]
  · intro h; rw [h]
theorem LiesY.takeC {w : World} {B : Nat} {A : Option Addr} {l : List Int} (h : LiesY w B A l) (k : Nat) : LiesY w B A (l.take k) := fun h0 => by
  rw [List.length_take] at h0
  obtain ⟨ad, e, hb, hc⟩ := h (by omega)
  refine ⟨ad, e, hb, fun j hj => ?_⟩
  rw [List.length_take] at hj
  rw [hc j (by omega), List.getD_eq_getElem?_getD, List.getD_eq_getElem?_getD, List.getElem?_take, if_pos (by omega)]
theorem LiesY.dropC {w : World} {B : Nat} {ad : Addr} {l : List Int} (h : LiesY w B (some ad) l) (k : Nat) : LiesY w B (some (ad.add k)) (l.drop k) := fun h0 => by
  rw [List.length_drop] at h0
  obtain ⟨ad', e, hb, hc⟩ := h (by omega)
  cases e
  refine ⟨_, rfl, by rw [add_block]; exact hb, fun j hj => ?_⟩
  rw [List.length_drop] at hj
  have ha : (ad.add k).add j = ad.add (k + j) := by
    unfold Addr.add
    by_cases g : k = 0
    · subst g; simp
    · by_cases k2 : j = 0
      · subst k2; simp [g]
      · simp [g, k2]; omega
  rw [ha, hc (k + j) (by omega), List.getD_eq_getElem?_getD, List.getD_eq_getElem?_getD, List.getElem?_drop]
theorem byt_le4 (m : Nat) : byt (le4 m) := fun x hx => by
  unfold le4 at hx
  simp only [List.mem_cons, List.not_mem_nil, or_false] at hx
  omega
set_option maxRecDepth 100000 in
set_option maxHeartbeats 2000000 in
theorem by_Equal (a b : List Int) (ha : byt a) (hb : byt b) (A A2 : Option Addr) (c c2 B : Nat) (w : World) (hA : LiesY w B A a) (hA2 : LiesY w B A2 b) :
    Calls Tryd.prog 18 #[.slice A a.length c, .slice A2 b.length c2] w fun e w' => e = .returned (.bool (decide (a = b))) ∧ w = w' := by
  have k1 := conv_y w A a c B hA
  have k2 := conv_y w A2 b c2 B hA2
  have hi := strOf_inj ha hb
  have hq : ((strOfNums a).toList == (strOfNums b).toList) = decide (a = b) := by
    rw [Bool.eq_iff_iff, beq_iff_eq, decide_eq_true_iff]; exact hi
  generalize decide (a = b) = q at *
  generalize strOfNums a = sa at *
  generalize strOfNums b = sb at *
  clear hA hA2 ha hb hi
  generalize a.length = n at *
  generalize b.length = m at *
  go_enter Tryd.func18, Tryd.ntmps18
  go_wp2
  go_ret
  exact ⟨by first | rw [hq] | (simp [hq]; done) | simp_all, rfl⟩
theorem own_lit4 {W : World} {B g : Nat} {a0 a1 a2 a3 : Int} (h : Box W g #[.int .u8 a0, .int .u8 a1, .int .u8 a2, .int .u8 a3] 5) (hB : B ≤ g) : OwnsY W B (.slice (some ⟨g, 0, none⟩) 4 4) [a0, a1, a2, a3] :=
  ⟨rfl, .inr ⟨g, 4, #[.int .u8 a0, .int .u8 a1, .int .u8 a2, .int .u8 a3], rfl, hB, h, Nat.le_refl _, by unfold maxLen; omega, rfl, rfl⟩⟩
set_option maxRecDepth 100000 in
set_option maxHeartbeats 2000000 in
theorem crc_mark (b : List Int) (A : Option Addr) (c B : Nat) (w : World) (hT : TabW w) (hA : LiesY w B A b) (hb : byt b) (hl : b.length ≤ 1000000) : Calls Tryd.prog 19 #[.slice A b.length c] w fun e w' => (∃ g, e = .returned (.slice (some ⟨g, 0, none⟩) 4 4) ∧ OwnsY w' w.heap.size (.slice (some ⟨g, 0, none⟩) 4 4) (le4 (sumC b))) ∧ Below w.heap.size w w' := by
  have K := Lib.hid (crc_Sum b A c B w hT hA hb hl)
  have hs : sumC b < 2 ^ 32 := moreC_lt (by omega) hb
  clear hT hA hb hl
  generalize sumC b = s at *
  generalize b.length = N at *
  have e4 : le4 s = [(s : Int) % 256, (s : Int) / 256 % 256, (s : Int) / 65536 % 256, (s : Int) / 16777216] := by
    unfold le4
    have : s / 16777216 % 256 = s / 16777216 := by omega
    rw [this]
    congr 1
  rw [e4]
  clear e4
  have HNB := Lib.hid (Box.new w #[.int .u8 ((s : Int) % 256), .int .u8 ((s : Int) / 256 % 256), .int .u8 ((s : Int) / 65536 % 256), .int .u8 ((s : Int) / 16777216)] 5)
  have HBL := Lib.hid ((Below.refl w.heap.size w).alloc (Nat.le_refl _) (.cells #[.int .u8 ((s : Int) % 256), .int .u8 ((s : Int) / 256 % 256), .int .u8 ((s : Int) / 65536 % 256), .int .u8 ((s : Int) / 16777216)] 5))
  go_enter Tryd.func19, Tryd.ntmps19
  go_wp2_with fail
  refine (K.out).mono ?_
  rintro e w2 ⟨rfl, rfl⟩
  go_wp2
  go_ret
  exact ⟨⟨_, rfl, own_lit4 HNB.out (Nat.le_refl _)⟩, HBL.out⟩
theorem le4_length (m : Nat) : (le4 m).length = 4 := rfl
/-- sealed -/
def sealC (b : List Int) : List Int := b ++ le4 (sumC b)
theorem sealC_len (b : List Int) : (sealC b).length = b.length + 4 := by unfold sealC; rw [List.length_append, le4_length]
theorem sealC_byt {b : List Int} (h : byt b) : byt (sealC b) := fun x hx => by
  rcases List.mem_append.mp hx with h1 | h1
  · exact h x h1
  · exact byt_le4 _ x h1
set_option maxRecDepth 100000 in
set_option maxHeartbeats 4000000 in
theorem crc_Seal (b : List Int) (A : Option Addr) (c : Nat) (w : World) (hT : TabW w) (hA : LiesY w w.heap.size A b) (hAc : A = none → c = 0) (hb : byt b) (hl : b.length ≤ 100000) : Calls Tryd.prog 15 #[.slice A b.length c] w (GivesY (sealC b) w) := by
  have K := Lib.hid (crc_mark b A c w.heap.size w hT hA hb (by omega))
  have HA := Lib.hid hA
  have HAc := Lib.hid hAc
  have HL := Lib.hid hl
  have KC := Lib.hid sl_Concat
  have HF : Hid ([b, le4 (sumC b)].flatten = sealC b) := by show _ = _; unfold sealC; simp
  have HLL : Hid ([b, le4 (sumC b)].flatten.length ≤ 1000000) := by show _ ≤ _; rw [HF.out, sealC_len]; omega
  clear hT hA hb hAc hl
  generalize hM : le4 (sumC b) = M at *
  have HM : Hid (M.length = 4) := by show _ = _; rw [← hM]; rfl
  clear hM
  generalize hN : b.length = N at *
  have HN := Lib.hid hN
  clear hN
  go_enter Tryd.func15, Tryd.ntmps15
  go_wp2_with fail
  refine (K.out).mono ?_
  rintro e w1 ⟨⟨g, rfl, g1⟩, g2⟩
  have HCC : Hid (Calls Tryd.prog 22 #[.slice (some ⟨w1.heap.size, 0, none⟩) 2 2] (w1.alloc (.cells #[.slice A N c, .slice (some ⟨g, 0, none⟩) 4 4] 22)) (GivesY (sealC b) (w1.alloc (.cells #[.slice A N c, .slice (some ⟨g, 0, none⟩) 4 4] 22)))) := by
    have hal := (Below.refl w1.heap.size w1).alloc (Nat.le_refl _) (.cells #[.slice A N c, .slice (some ⟨g, 0, none⟩) 4 4] 22)
    have hbx := Box.new w1 #[.slice A N c, .slice (some ⟨g, 0, none⟩) 4 4] 22
    obtain ⟨A9, c9, e9, -, -, hM9, hz9, -⟩ := g1.lies
    rw [HM.out] at e9
    cases e9
    have h := KC.out [b, M] ⟨w1.heap.size, 0, none⟩ 2 _ (fun i hi => ?_) hbx.lt HLL.out (by simp)
    · rw [HF.out] at h
      exact h
    · have hi2 : i = 0 ∨ i = 1 := by simp at hi; omega
      rcases hi2 with rfl | rfl
      · refine ⟨A, c, ?_, ?_, HAc.out⟩
        · rw [addr_addY, hbx.cell 0]
          show some (Value.slice A N c) = some (.slice A b.length c)
          rw [HN.out]
        · exact (HA.out.below (g2.trans (hal.mono g2.size))).mono (Nat.le_trans g2.size hal.size)
      · refine ⟨some ⟨g, 0, none⟩, 4, ?_, ?_, fun h => by cases h⟩
        · rw [addr_addY, hbx.cell 1]
          show some (Value.slice (some ⟨g, 0, none⟩) 4 4) = some (.slice _ M.length 4)
          rw [HM.out]
        · exact (hM9.below hal).mono hal.size
  have hb2 := g2.alloc g2.size (.cells #[.slice A N c, .slice (some ⟨g, 0, none⟩) 4 4] 22)
  have HB2 := Lib.hid hb2
  clear K KC hb2 g1 g2
  go_wp2_with fail
  refine (HCC.out).mono ?_
  rintro e w2 ⟨⟨v, rfl, h1⟩, h2⟩
  have HO := Lib.hid h1
  have HB3 := Lib.hid (HB2.out.trans (h2.mono HB2.out.size))
  clear h1 h2 HCC
  go_wp2
  go_ret
  exact ⟨⟨_, rfl, by
    have h := HO.out
    refine ⟨h.1, ?_⟩
    rcases h.2 with h0 | ⟨g, cap, cur, e1, hbg, hr⟩
    · exact .inl h0
    · exact .inr ⟨g, cap, cur, e1, Nat.le_trans HB2.out.size hbg, hr⟩⟩, HB3.out⟩
end Go.Proofs.YtkfmebdpfjjkjaaDoor
