import Derived.Test.YtehekdahlnpldaaPickB

/-! Layer 7: the parts of a plane, from draws: the reference's. -/
namespace Go.Proofs.Ytehekdahlnpldaa
open Go.RowKit
set_option linter.unusedVariables false
set_option linter.unusedSimpArgs false

def anyN (l : List Int) : Bool := l.any fun x => x != 0
theorem anyN_snoc (l : List Int) (n : Int) : anyN (l ++ [n]) = (anyN l || n != 0) := by simp [anyN]
theorem anyN_iff (l : List Int) : anyN l = true ↔ ∃ x ∈ l, x ≠ 0 := by simp [anyN]
theorem new_own {w w' : World} {v : Value} {l : List Int} {A : Option Addr} {n c : Nat} {e : TypeId} (h : w'.ownsRow w.heap.size e 1 v l.length (litI l)) (hv : v = .slice A n c) : New w A := fun ad e => by
  subst hv; subst e
  rcases h.2 with ⟨h1, _⟩ | ⟨g, cap, cur, h1, hb, _⟩
  · cases h1
  · cases h1; exact hb
set_option maxHeartbeats 4000000 in
theorem ref_Coefs_go (A : Option Addr) (l : List Int) (c D T : Nat) (a : Int) (w : World) (hA : LiesU w w.heap.size A l) (hu : ∀ x ∈ l, U64 x) (hl : (l.length : Int) ≤ 9223372036854775807) (hD1 : 1 ≤ D) (hD : D ≤ 8) (h0 : 0 ≤ a) (h1 : a ≤ 9223372036854775807) (hT1 : 1 ≤ T) (hT : T ≤ 64) :
    Calls Try.prog 27 #[.slice A l.length c, .int .i64 a, .int .i64 D, .int .i64 T] w (GivesC (trs l D T T a) w) := by
  have KR := Lib.hid (fun W (h : Below w.heap.size w W) j (g0 : 0 ≤ j) (g1 : j ≤ 9223372036854775807) => ref_range6 A l c j (-4) 4 T W ((hA.below h).mono h.size) hu hl (by unfold I64; omega) (by unfold I64; omega) (by unfold I64; omega))
  have HAT := Lib.hid (fun j => rng_at (l := l) (a := j) (t := T) hl)
  have HLN := Lib.hid (fun j (h : (cfs l T D j []).2.2 = 0) => (cfs_pos l T D j [] h (by simp)).2.2.2.1)
  have KM := Lib.hid (ref_asked a T)
  rw [show decide (0 ≤ a ∧ (1 : Int) ≤ T ∧ (T : Int) ≤ 64) = true from by simp; omega] at KM
  clear hA hu hl
  generalize hN : l.length = N at *
  have HN := Lib.hid hN
  clear hN
  go_enter Try.func27, Try.ntmps27
  go_wp2_with fail
  refine (KM.out _).mono ?_
  rintro e1 w1 ⟨rfl, rfl⟩
  go_wp2
  go_loopw [1, 11] (fun av i wr => ∃ (k : Nat) (j : Int), k ≤ T ∧ i = .int .i64 k ∧ av = .int .i64 j ∧ Hid (trs l D T T a = trs l D T (T - k) j) ∧ Hid (0 ≤ j ∧ j ≤ 9223372036854775807) ∧ Hid (Below w.heap.size w wr)) (fun _ i _ => T - (intOf i).toNat)
  case atStart => exact ⟨0, a, by omega, rfl, rfl, rfl, ⟨h0, h1⟩, Below.refl _ _⟩
  case round =>
    obtain ⟨k, j, hk, rfl, rfl, HF, HJ, HB⟩ := hrel
    by_cases hlt : k < T
    · have hlg : (k : Int) < (T : Int) := by omega
      have HH := Lib.hid (fun h s => trs_hit (l := l) (d := D) (t := T) (k := T - k - 1) (a := j) h s)
      have HM := Lib.hid (fun h s => trs_more (l := l) (d := D) (t := T) (k := T - k - 1) (a := j) h s)
      have HX := Lib.hid (fun h => trs_fail (l := l) (d := D) (t := T) (k := T - k - 1) (a := j) h)
      have HLJ := Lib.hid (HLN.out j)
      have HFS : Hid (cfs l T D j [] = cfs l T D j []) := rfl
      generalize hF2 : cfs l T D j [] = F at *
      have HF2 := Lib.hid hF2
      clear hF2
      have HFF : Hid (cfs l T D j [] = F) := HF2.out
      go_wp2
      go_loopw [1, 12, 13, 14] (fun av cv sv i wr2 => ∃ (q : Nat) (acc : List Int) (y : Int), q ≤ D ∧ i = .int .i64 q ∧ av = .int .i64 y ∧ sv = .bool (anyN acc) ∧ Hid (acc.length = q) ∧ Hid (wr2.ownsRow w.heap.size 3 1 cv acc.length (litI acc)) ∧ Hid (F = cfs l T (D - q) y acc) ∧ Hid (0 ≤ y ∧ y ≤ 9223372036854775807) ∧ Hid (Below w.heap.size w wr2)) (fun _ _ _ i _ => D - (intOf i).toNat)
      case atStart => exact ⟨0, [], j, by omega, rfl, rfl, rfl, rfl, World.ownsRow_nil _ _ _ _, HFF.out.symm, HJ.out, HB.out⟩
      case round =>
        obtain ⟨q, acc, y, hq, rfl, rfl, rfl, HL, HO, HG, HY, HB2⟩ := hrel
        by_cases hlt2 : q < D
        · have hlg2 : (q : Int) < (D : Int) := by omega
          have K := Lib.hid (KR.out wr HB2.out y HY.out.1 HY.out.2)
          have HS := Lib.hid (fun h => cfs_step (l := l) (t := T) (k := D - q - 1) (a := y) (acc := acc) h)
          have HXX := Lib.hid (fun h => cfs_fail (l := l) (t := T) (k := D - q - 1) (a := y) (acc := acc) h)
          have HA2 := Lib.hid (HAT.out y)
          have HSN := Lib.hid (anyN_snoc acc)
          generalize rng l y (-4) 4 T = G at *
          obtain ⟨n, p, e⟩ := G
          simp only at HS HXX HA2
          generalize hS : anyN acc = sm at *
          clear hS
          have hll : acc.length + 1 ≤ 1000000000 := by have := HL.out; omega
          by_cases he : e = 0
          · subst he
            cases sm
            · by_cases hn0 : n = 0
              · subst hn0
                go_wp2_with fail
                refine K.out.mono ?_
                rintro e1 w2 ⟨rfl, b2⟩
                have HO2 := Lib.hid (ownI_below HO.out b2)
                have HB3 := Lib.hid (HB2.out.trans (b2.mono HB2.out.size))
                clear b2
                go_wp2_with (at_builtin; refine app_int rfl (.tmp 52) (.tmp 54) rfl _ acc 0 rfl HO2.out rfl HB3.out.size hll ?_; intro v' w4 hown4 hb4 _)
                refine ⟨⟨q + 1, acc ++ [0], p, by omega, by go_num, rfl, by rw [HSN.out]; rfl, by show _ = _; rw [List.length_append, HL.out]; rfl, hown4, ?_, HA2.out trivial HY.out.1, HB3.out.trans hb4⟩, by first | (simp [intOf]; done) | (simp [intOf]; omega)⟩
                show _ = _
                rw [HG.out, show D - q = D - q - 1 + 1 from by omega, HS.out trivial, show D - (q + 1) = D - q - 1 from by omega]
              · have hne : (n != 0) = true := by simpa using hn0
                go_wp2_with fail
                refine K.out.mono ?_
                rintro e1 w2 ⟨rfl, b2⟩
                have HO2 := Lib.hid (ownI_below HO.out b2)
                have HB3 := Lib.hid (HB2.out.trans (b2.mono HB2.out.size))
                clear b2
                go_wp2_with (at_builtin; refine app_int rfl (.tmp 52) (.tmp 54) rfl _ acc n rfl HO2.out rfl HB3.out.size hll ?_; intro v' w4 hown4 hb4 _)
                refine ⟨⟨q + 1, acc ++ [n], p, by omega, by go_num, rfl, by rw [HSN.out]; simp [hn0], by show _ = _; rw [List.length_append, HL.out]; rfl, hown4, ?_, HA2.out trivial HY.out.1, HB3.out.trans hb4⟩, by first | (simp [intOf]; done) | (simp [intOf]; omega)⟩
                show _ = _
                rw [HG.out, show D - q = D - q - 1 + 1 from by omega, HS.out trivial, show D - (q + 1) = D - q - 1 from by omega]
            · go_wp2_with fail
              refine K.out.mono ?_
              rintro e1 w2 ⟨rfl, b2⟩
              have HO2 := Lib.hid (ownI_below HO.out b2)
              have HB3 := Lib.hid (HB2.out.trans (b2.mono HB2.out.size))
              clear b2
              go_wp2_with (at_builtin; refine app_int rfl (.tmp 52) (.tmp 54) rfl _ acc n rfl HO2.out rfl HB3.out.size hll ?_; intro v' w4 hown4 hb4 _)
              refine ⟨⟨q + 1, acc ++ [n], p, by omega, by go_num, rfl, by rw [HSN.out]; rfl, by show _ = _; rw [List.length_append, HL.out]; rfl, hown4, ?_, HA2.out trivial HY.out.1, HB3.out.trans hb4⟩, by first | (simp [intOf]; done) | (simp [intOf]; omega)⟩
              show _ = _
              rw [HG.out, show D - q = D - q - 1 + 1 from by omega, HS.out trivial, show D - (q + 1) = D - q - 1 from by omega]
          · have hne : (e != 0) = true := by simpa using he
            go_wp2_with fail
            refine K.out.mono ?_
            rintro e1 w2 ⟨rfl, b2⟩
            have HB3 := Lib.hid (HB2.out.trans (b2.mono HB2.out.size))
            clear b2
            go_wp2
            go_ret3
            have h3 : F = ([], 0, e) := by rw [HG.out, show D - q = D - q - 1 + 1 from by omega, HXX.out he]
            have h2 := HX.out (by rw [h3]; exact he)
            rw [show T - k - 1 + 1 = T - k from by omega, h3] at h2
            rw [HF.out, h2]
            exact givesC_nil HB3.out
        · obtain rfl : q = D := by omega
          have hG := HG.out
          rw [Nat.sub_self, cfs] at hG
          subst hG
          have HOW := Lib.hid HO.out
          obtain ⟨A1, c1, rfl, g1, g2, g3⟩ := lies_ownI HO.out
          have HL3 := Lib.hid g3
          have HNW := Lib.hid (new_own HOW.out rfl)
          clear g3
          have HAI := Lib.hid (anyN_iff acc)
          generalize anyN acc = sm at *
          cases sm
          · go_wp2
            have h2 := HM.out rfl (fun hx => by have := HAI.out.2 hx; cases this)
            rw [show T - k - 1 + 1 = T - k from by omega] at h2
            exact ⟨⟨k + 1, y, by omega, by go_num, rfl, by show _ = _; rw [HF.out, h2, show T - (k + 1) = T - k - 1 from by omega], HY.out, HB2.out⟩, by first | (simp [intOf]; done) | (simp [intOf]; omega)⟩
          · go_wp2
            go_ret3
            have h2 := HH.out (by first | trivial | rfl) (HAI.out.1 (by first | trivial | rfl))
            rw [show T - k - 1 + 1 = T - k from by omega] at h2
            rw [HF.out, h2]
            exact ⟨A1, c1, rfl, g1, g2, HL3.out, HNW.out, HB2.out⟩
    · obtain rfl : k = T := by omega
      go_wp2
      go_ret3
      have hF := HF.out
      rw [Nat.sub_self, trs] at hF
      rw [hF]
      exact givesC_nil HB.out
end Go.Proofs.Ytehekdahlnpldaa
