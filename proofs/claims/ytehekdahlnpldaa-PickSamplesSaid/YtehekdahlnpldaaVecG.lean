import Derived.Test.YtehekdahlnpldaaVecL

/-! The reference of layer 8: Open, Reach, Near; package vec: extremes of rows. -/
namespace Go.Proofs.Ytehekdahlnpldaa
open Go.RowKit
set_option linter.unusedVariables false
set_option linter.unusedSimpArgs false

set_option maxHeartbeats 2000000 in
theorem ref_Open (A A2 : Option Addr) (a b : List Int) (c c2 : Nat) (w : World) (hA : Lies w w.heap.size A a) (hA2 : Lies w w.heap.size A2 b) (hla : a.length ≤ 1000000) (hlb : b.length ≤ 1000000) :
    Calls Try.prog 140 #[.slice A a.length c, .slice A2 b.length c2] w (GivesI (openL a b) w) := by
  have HA := Lib.hid hA
  have HA2 := Lib.hid hA2
  unfold openL
  clear hA hA2
  generalize hN : a.length = N at *
  generalize hM : b.length = M at *
  have HN := Lib.hid hN
  have HM := Lib.hid hM
  clear hN hM
  go_enter Try.func140, Try.ntmps140
  go_wp2
  go_loopw [5, 6] (fun vv i wr => ∃ k : Nat, k ≤ N ∧ k ≤ M ∧ i = .int .i64 k ∧ Hid (wr.ownsRow w.heap.size 3 1 vv (openK a b k).length (litI (openK a b k))) ∧ Hid (Below w.heap.size w wr)) (fun _ i _ => N - (intOf i).toNat)
  case atStart => exact ⟨0, by omega, by omega, rfl, World.ownsRow_nil _ _ _ _, Below.refl _ _⟩
  case round =>
    obtain ⟨k, hk, hk2, rfl, HO, HB⟩ := hrel
    by_cases hlt : k < N
    · by_cases hlt2 : k < M
      · have HAr : Hid (Lies wr w.heap.size A a) := HA.out.below HB.out
        have HAr2 : Hid (Lies wr w.heap.size A2 b) := HA2.out.below HB.out
        obtain ⟨ad, rfl, hb1, hc1⟩ := HAr.out.at (k := k) (by have := HN.out; omega)
        obtain ⟨ad2, rfl, hb2, hc2⟩ := HAr2.out.at (k := k) (by have := HM.out; omega)
        have HS : Hid (openK a b (k + 1) = if a.getD k 0 < b.getD k 0 then openK a b k ++ [(k : Int)] else openK a b k) := rfl
        have hlen := openK_len a b k
        generalize openK a b k = l1 at *
        generalize a.getD k 0 = x at *
        generalize b.getD k 0 = y at *
        have hji : (k : Int) < (N : Int) := by omega
        have hji2 : (k : Int) < (M : Int) := by omega
        by_cases hxy : x < y
        · rw [if_pos hxy] at HS
          have HLN : Hid (l1.length + 1 ≤ 1000000000) := by show _ ≤ _; omega
          clear hlen
          go_wp2
          go_quiet (fail)
          go_wp2_with (at_builtin; refine app_int rfl (.tmp 28) (.tmp 30) rfl _ l1 k rfl (ownI_drewN HO.out nq) rfl (by have := HB.out.size; simpa using this) HLN.out ?_; intro v' w4 hown4 hb4 _)
          have hb5 := (below_drewN2 HB.out nq).trans hb4
          refine ⟨⟨k + 1, by omega, by omega, by go_num, (by show World.ownsRow _ _ _ _ _ _ _; rw [HS.out]; exact hown4), hb5⟩, by first | (simp [intOf]; done) | (simp [intOf]; omega)⟩
        · rw [if_neg hxy] at HS
          go_wp2
          go_quiet (fail)
          go_wp2
          refine ⟨⟨k + 1, by omega, by omega, by go_num, (by show World.ownsRow _ _ _ _ _ _ _; rw [HS.out]; exact ownI_drewN HO.out nq), below_drewN2 HB.out nq⟩, by first | (simp [intOf]; done) | (simp [intOf]; omega)⟩
      · obtain rfl : k = M := by omega
        have hown := HO.out
        obtain ⟨A1, c1, rfl, g1, g2, g3⟩ := lies_ownI hown
        go_wp2
        go_ret
        rw [show min N k = k from by omega]
        exact ⟨A1, c1, rfl, g1, g2, g3, HB.out⟩
    · obtain rfl : k = N := by omega
      have hown := HO.out
      obtain ⟨A1, c1, rfl, g1, g2, g3⟩ := lies_ownI hown
      go_wp2
      go_ret
      rw [show min k M = k from by omega]
      exact ⟨A1, c1, rfl, g1, g2, g3, HB.out⟩

/-! ### the reach -/
def dnR (c : List Int) (R : List Row) : List Int := R.map fun r => dotN c r.l
theorem dnR_get (c : List Int) (R : List Row) {k : Nat} (hk : k < R.length) : (dnR c R).getD k 0 = dotN c (R.getD k row0).l := by
  unfold dnR
  rw [List.getD_eq_getElem?_getD, List.getElem?_map, List.getD_eq_getElem?_getD, List.getElem?_eq_getElem hk]; rfl
def reachE (c : List Int) (R : List Row) : Bool := partsV c c.length && (allV R c.length && decide (0 < R.length))
def reachLo (c : List Int) (R : List Row) : Int := if reachE c R then loL ((dnR c R).getD 0 0) (dnR c R).tail else 0
def reachHi (c : List Int) (R : List Row) : Int := if reachE c R then hiL ((dnR c R).getD 0 0) (dnR c R).tail else 0
def reachC (c : List Int) (R : List Row) : Int := if reachE c R then 0 else 80
theorem allV_iff {R : List Row} {d : Int} : allV R d = true ↔ ∀ j, j < R.length → isV (R.getD j row0).l d = true := by
  unfold allV
  rw [List.all_eq_true]
  constructor
  · intro h j hj; exact h _ (getD_mem hj)
  · intro h r hr
    obtain ⟨j, hj, rfl⟩ := List.mem_iff_getElem.1 hr
    have := h j hj
    rw [List.getD_eq_getElem?_getD, List.getElem?_eq_getElem hj] at this
    exact this
theorem reachE_iff {c : List Int} {R : List Row} : reachE c R = true ↔ 0 < R.length ∧ ∀ j, j < R.length → dotE c (R.getD j row0).l = true := by
  unfold reachE
  simp only [Bool.and_eq_true, decide_eq_true_eq, allV_iff, dotE_iff]
  constructor
  · rintro ⟨h1, h2, h3⟩; exact ⟨h3, fun j hj => ⟨h1, h2 j hj⟩⟩
  · rintro ⟨h1, h2⟩; exact ⟨(h2 0 h1).1, fun j hj => (h2 j hj).2, h1⟩
theorem reachE_no {c : List Int} {R : List Row} {k : Nat} (hk : k < R.length) (h : dotE c (R.getD k row0).l = false) : reachE c R = false := by
  rw [Bool.eq_false_iff]; intro g
  rw [(reachE_iff.1 g).2 k hk] at h; cases h
/-- the least so far, as one by one tells it -/
def loS (D : List Int) : Nat → Int
  | 0 => 0
  | k + 1 => if k = 0 ∨ D.getD k 0 < loS D k then D.getD k 0 else loS D k
def hiS (D : List Int) : Nat → Int
  | 0 => 0
  | k + 1 => if k = 0 ∨ hiS D k < D.getD k 0 then D.getD k 0 else hiS D k
theorem if_or0 {k : Nat} (h : ¬ k = 0) (p : Prop) [Decidable p] (x y : Int) : (if k = 0 ∨ p then x else y) = if p then x else y := by
  by_cases g : p
  · rw [if_pos (.inr g), if_pos g]
  · rw [if_neg (fun hh => hh.elim h g), if_neg g]
theorem tail_take {D : List Int} {k : Nat} (hk : k + 1 < D.length) : (D.take (k + 2)).tail = (D.take (k + 1)).tail ++ [D.getD (k + 1) 0] := by
  rw [take_get D hk]
  cases D with
  | nil => simp at hk
  | cons x D => simp
theorem loS_eq (D : List Int) : ∀ k, k < D.length → loS D (k + 1) = loL (D.getD 0 0) (D.take (k + 1)).tail
  | 0, h => by
    simp only [loS]
    cases D with
    | nil => simp at h
    | cons x D => simp [loL]
  | k + 1, h => by
    have ih := loS_eq D k (by omega)
    rw [tail_take h, loL_snoc, ← ih]
    rw [show loS D (k + 1 + 1) = if k + 1 = 0 ∨ D.getD (k + 1) 0 < loS D (k + 1) then D.getD (k + 1) 0 else loS D (k + 1) from rfl]
    split <;> omega
theorem hiS_eq (D : List Int) : ∀ k, k < D.length → hiS D (k + 1) = hiL (D.getD 0 0) (D.take (k + 1)).tail
  | 0, h => by
    simp only [hiS]
    cases D with
    | nil => simp at h
    | cons x D => simp [hiL]
  | k + 1, h => by
    have ih := hiS_eq D k (by omega)
    rw [tail_take h, hiL_snoc, ← ih]
    rw [show hiS D (k + 1 + 1) = if k + 1 = 0 ∨ hiS D (k + 1) < D.getD (k + 1) 0 then D.getD (k + 1) 0 else hiS D (k + 1) from rfl]
    split <;> omega
theorem loS_end {D : List Int} (h : 0 < D.length) : loS D D.length = loL (D.getD 0 0) D.tail := by
  have := loS_eq D (D.length - 1) (by omega)
  rw [show D.length - 1 + 1 = D.length from by omega, List.take_length] at this
  exact this
theorem hiS_end {D : List Int} (h : 0 < D.length) : hiS D D.length = hiL (D.getD 0 0) D.tail := by
  have := hiS_eq D (D.length - 1) (by omega)
  rw [show D.length - 1 + 1 = D.length from by omega, List.take_length] at this
  exact this
set_option maxHeartbeats 2000000 in
theorem ref_Reach (A A2 : Option Addr) (a : List Int) (R : List Row) (c c2 B : Nat) (w : World) (hA : Lies w B A a) (hA2 : LiesR w B A2 R) (hl : (R.length : Int) ≤ 9223372036854775807) :
    Calls Try.prog 155 #[.slice A a.length c, .slice A2 R.length c2] w fun e w' => e = .returned (.tuple #[.int .i64 (reachLo a R), .int .i64 (reachHi a R), .int .i64 (reachC a R)]) ∧ ∃ n, w' = w.drewN n := by
  have HA := Lib.hid hA
  have HA2 := Lib.hid hA2
  have HD := Lib.hid (fun k (hk : k < R.length) => dnR_get a R hk)
  have HNO : Hid (∀ k, k < R.length → dotE a (R.getD k row0).l = false → reachLo a R = 0 ∧ reachHi a R = 0 ∧ reachC a R = 80) := fun k hk h => by
    have := reachE_no hk h
    unfold reachLo reachHi reachC; rw [this]; exact ⟨rfl, rfl, rfl⟩
  have HZ : Hid (R.length = 0 → reachLo a R = 0 ∧ reachHi a R = 0 ∧ reachC a R = 80) := fun h => by
    have : reachE a R = false := by rw [Bool.eq_false_iff]; intro g; have := (reachE_iff.1 g).1; omega
    unfold reachLo reachHi reachC; rw [this]; exact ⟨rfl, rfl, rfl⟩
  have HYES : Hid (0 < R.length → (∀ j, j < R.length → dotE a (R.getD j row0).l = true) → reachLo a R = loS (dnR a R) R.length ∧ reachHi a R = hiS (dnR a R) R.length ∧ reachC a R = 0) := fun h0 h => by
    have h1 := reachE_iff.2 ⟨h0, h⟩
    have h2 : (dnR a R).length = R.length := by unfold dnR; simp
    unfold reachLo reachHi reachC
    rw [if_pos h1, if_pos h1, if_pos h1, ← h2, loS_end (by omega), hiS_end (by omega)]
    exact ⟨rfl, rfl, rfl⟩
  generalize reachLo a R = qlo at *
  generalize reachHi a R = qhi at *
  generalize reachC a R = qc at *
  clear hA hA2
  generalize hN : R.length = N at *
  have HN := Lib.hid hN
  clear hN
  go_enter Try.func155, Try.ntmps155
  go_wp2
  go_loopw [7, 8, 9] (fun lo hi i wr => ∃ k : Nat, k ≤ N ∧ i = .int .i64 k ∧ lo = .int .i64 (loS (dnR a R) k) ∧ hi = .int .i64 (hiS (dnR a R) k) ∧ Hid (∀ j, j < k → dotE a (R.getD j row0).l = true) ∧ Hid (∃ n, wr = w.drewN n)) (fun _ _ i _ => N - (intOf i).toNat)
  case atStart => exact ⟨0, by omega, rfl, rfl, rfl, fun j hj => absurd hj (by omega), ⟨0, rfl⟩⟩
  case round =>
    obtain ⟨k, hk, rfl, rfl, rfl, HE, HW⟩ := hrel
    by_cases hlt : k < N
    · have HAr : Hid (Lies wr B A a) := by obtain ⟨n, hn⟩ := HW.out; show Lies _ _ _ _; rw [hn]; exact HA.out
      have HAr2 : Hid (LiesR wr B A2 R) := by obtain ⟨n, hn⟩ := HW.out; show LiesR _ _ _ _; rw [hn]; exact HA2.out
      obtain ⟨ad, rfl, _, hcell, hlies⟩ := HAr2.out.at (k := k) (by have := HN.out; omega)
      have K := Lib.hid (ref_Dot A _ a (R.getD k row0).l c (R.getD k row0).c B wr HAr.out hlies)
      have HF := Lib.hid (HNO.out k hlt)
      have HX : Hid (dotE a (R.getD k row0).l = true → ∀ j, j < k + 1 → dotE a (R.getD j row0).l = true) := fun h j hj => by
        rcases Nat.lt_or_ge j k with g | g
        · exact HE.out j g
        · rw [show j = k from by omega]; exact h
      have HDk := Lib.hid (HD.out k hlt)
      have HLS : Hid (loS (dnR a R) (k + 1) = if k = 0 ∨ (dnR a R).getD k 0 < loS (dnR a R) k then (dnR a R).getD k 0 else loS (dnR a R) k) := rfl
      have HHS : Hid (hiS (dnR a R) (k + 1) = if k = 0 ∨ hiS (dnR a R) k < (dnR a R).getD k 0 then (dnR a R).getD k 0 else hiS (dnR a R) k) := rfl
      have HCC : Hid (dotC a (R.getD k row0).l = if dotE a (R.getD k row0).l then 0 else 80) := rfl
      clear hlies
      generalize loS (dnR a R) k = x at *
      generalize hiS (dnR a R) k = y at *
      generalize R.getD k row0 = r at *
      obtain ⟨ra, rl, rc⟩ := r
      simp only at hcell K HF HX HDk HCC
      generalize dotN a rl = z at *
      generalize dotC a rl = ec at *
      generalize dotE a rl = q at *
      generalize rl.length = M at *
      generalize a.length = L at *
      cases q
      · obtain ⟨f1, f2, f3⟩ := HF.out rfl
        have F1 := Lib.hid f1
        have F2 := Lib.hid f2
        have F3 := Lib.hid f3
        clear f1 f2 f3
        obtain rfl : ec = 80 := HCC.out
        go_wp2_with fail
        refine K.out.mono ?_
        rintro e w1 ⟨rfl, n, rfl⟩
        go_wp2
        go_ret3
        exact ⟨ret3i F1.out.symm F2.out.symm F3.out.symm, (by obtain ⟨m, hm⟩ := HW.out; rw [hm]; exact dre2' _ _ _)⟩
      · obtain rfl : ec = 0 := HCC.out
        have HEX := Lib.hid (HX.out rfl)
        clear HF HX
        rw [HDk.out] at HLS HHS
        by_cases h0 : k = 0
        · have HL1 := Lib.hid (HLS.out.trans (if_pos (.inl h0)))
          have HH1 := Lib.hid (HHS.out.trans (if_pos (.inl h0)))
          have hk0 : ((k : Int) == 0) = true := by simp; omega
          clear h0 HLS HHS
          go_wp2_with fail
          refine K.out.mono ?_
          rintro e w1 ⟨rfl, n, rfl⟩
          go_wp2
          exact ⟨⟨k + 1, by omega, by go_num, by rw [HL1.out], by rw [HH1.out], HEX.out, (by obtain ⟨m, hm⟩ := HW.out; show ∃ _, _; rw [hm]; exact dre2' _ _ _)⟩, by first | (simp [intOf]; done) | (simp [intOf]; omega)⟩
        · have hk0 : ((k : Int) == 0) = false := by simp; omega
          have HL1 := Lib.hid (HLS.out.trans (if_or0 h0 _ _ _))
          have HH1 := Lib.hid (HHS.out.trans (if_or0 h0 _ _ _))
          clear HLS HHS h0
          by_cases g1 : z < x <;> by_cases g2 : y < z
          all_goals
            first | rw [if_pos g1] at HL1 | rw [if_neg g1] at HL1
            first | rw [if_pos g2] at HH1 | rw [if_neg g2] at HH1
            go_wp2_with fail
            refine K.out.mono ?_
            rintro e w1 ⟨rfl, n, rfl⟩
            go_wp2
            exact ⟨⟨k + 1, by omega, by go_num, by rw [HL1.out], by rw [HH1.out], HEX.out, (by obtain ⟨m, hm⟩ := HW.out; show ∃ _, _; rw [hm]; exact dre2' _ _ _)⟩, by first | (simp [intOf]; done) | (simp [intOf]; omega)⟩
    · obtain rfl : k = N := by omega
      by_cases h0 : k = 0
      · obtain ⟨f1, f2, f3⟩ := HZ.out h0
        have F1 := Lib.hid f1
        have F2 := Lib.hid f2
        have F3 := Lib.hid f3
        clear f1 f2 f3
        subst h0
        go_wp2
        go_ret3
        exact ⟨ret3i F1.out.symm F2.out.symm F3.out.symm, HW.out⟩
      · have hk0 : ((k : Int) == 0) = false := by simp; omega
        obtain ⟨f1, f2, f3⟩ := HYES.out (by omega) HE.out
        have F1 := Lib.hid f1
        have F2 := Lib.hid f2
        have F3 := Lib.hid f3
        clear f1 f2 f3 h0
        go_wp2
        go_ret3
        exact ⟨ret3i F1.out.symm F2.out.symm F3.out.symm, HW.out⟩
end Go.Proofs.Ytehekdahlnpldaa
