import Derived.Test.YteljkppcaanniaaVecH

/-! Near: the reference's and package vec's. -/
namespace Go.Proofs.Yteljkppcaanniaa
open Go.RowKit
set_option linter.unusedVariables false
set_option linter.unusedSimpArgs false

def nearE (R : List Row) (x : List Int) : Bool := isV x x.length && (allV R x.length && decide (0 < R.length))
def gapR (R : List Row) (x : List Int) (k : Nat) : Int := gapNN (R.getD k row0).l x
def nearAt (R : List Row) (x : List Int) : Int := if nearE R x then (nearG (gapR R x) R.length).1 else 0
def nearFar (R : List Row) (x : List Int) : Int := if nearE R x then (nearG (gapR R x) R.length).2 else 0
def nearC (R : List Row) (x : List Int) : Int := if nearE R x then 0 else 80
theorem gapE_iff2 {a b : List Int} : gapE a b = true ↔ isV b b.length = true ∧ isV a b.length = true := by
  unfold gapE; rw [Bool.and_eq_true]; exact And.comm
theorem nearE_iff {R : List Row} {x : List Int} : nearE R x = true ↔ 0 < R.length ∧ ∀ j, j < R.length → gapE (R.getD j row0).l x = true := by
  unfold nearE
  simp only [Bool.and_eq_true, decide_eq_true_eq, allV_iff, gapE_iff2]
  constructor
  · rintro ⟨h1, h2, h3⟩; exact ⟨h3, fun j hj => ⟨h1, h2 j hj⟩⟩
  · rintro ⟨h1, h2⟩; exact ⟨(h2 0 h1).1, fun j hj => (h2 j hj).2, h1⟩
theorem nearE_no {R : List Row} {x : List Int} {k : Nat} (hk : k < R.length) (h : gapE (R.getD k row0).l x = false) : nearE R x = false := by
  rw [Bool.eq_false_iff]; intro g
  rw [(nearE_iff.1 g).2 k hk] at h; cases h
/-- which is nearest so far, as the reference goes; -1 ahead of all -/
def nrS (g : Nat → Int) : Nat → Int × Int
  | 0 => (-1, 0)
  | k + 1 => if k = 0 ∨ g k < (nrS g k).2 then ((k : Int), g k) else nrS g k
theorem nrS_eq (g : Nat → Int) : ∀ k, nrS g (k + 1) = (((nearG g (k + 1)).1 : Int), (nearG g (k + 1)).2)
  | 0 => by
    rw [nearG_one]
    simp [nrS]
  | k + 1 => by
    have ih := nrS_eq g k
    rw [show nrS g (k + 1 + 1) = if k + 1 = 0 ∨ g (k + 1) < (nrS g (k + 1)).2 then (((k + 1 : Nat) : Int), g (k + 1)) else nrS g (k + 1) from rfl,
      show nearG g (k + 1 + 1) = if g (k + 1) < (nearG g (k + 1)).2 then (k + 1, g (k + 1)) else nearG g (k + 1) from rfl, ih]
    by_cases h : g (k + 1) < (nearG g (k + 1)).2
    · rw [if_pos (.inr h), if_pos h]
    · rw [if_neg (fun hh => hh.elim (by omega) h), if_neg h]
theorem nrS_neg (g : Nat → Int) {k : Nat} (h : 0 < k) : 0 ≤ (nrS g k).1 := by
  obtain ⟨j, rfl⟩ : ∃ j, k = j + 1 := ⟨k - 1, by omega⟩
  rw [nrS_eq]; simp
theorem if_or0p {k : Nat} (h : ¬ k = 0) (p : Prop) [Decidable p] (x y : Int × Int) : (if k = 0 ∨ p then x else y) = if p then x else y := by
  by_cases g : p
  · rw [if_pos (.inr g), if_pos g]
  · rw [if_neg (fun hh => hh.elim h g), if_neg g]
set_option maxHeartbeats 2000000 in
theorem ref_Near (A A2 : Option Addr) (R : List Row) (x : List Int) (c c2 B : Nat) (w : World) (hA : LiesR w B A R) (hA2 : Lies w B A2 x) (hl : (R.length : Int) ≤ 9223372036854775807) :
    Calls Try.prog 45 #[.slice A R.length c, .slice A2 x.length c2] w fun e w' => e = .returned (.tuple #[.int .i64 (nearAt R x), .int .i64 (nearFar R x), .int .i64 (nearC R x)]) ∧ ∃ n, w' = w.drewN n := by
  have HA := Lib.hid hA
  have HA2 := Lib.hid hA2
  have HNO : Hid (∀ k, k < R.length → gapE (R.getD k row0).l x = false → nearAt R x = 0 ∧ nearFar R x = 0 ∧ nearC R x = 80) := fun k hk h => by
    have := nearE_no hk h
    unfold nearAt nearFar nearC; rw [this]; exact ⟨rfl, rfl, rfl⟩
  have HZ : Hid (R.length = 0 → nearAt R x = 0 ∧ nearFar R x = 0 ∧ nearC R x = 80) := fun h => by
    have : nearE R x = false := by rw [Bool.eq_false_iff]; intro g; have := (nearE_iff.1 g).1; omega
    unfold nearAt nearFar nearC; rw [this]; exact ⟨rfl, rfl, rfl⟩
  have HYES : Hid (0 < R.length → (∀ j, j < R.length → gapE (R.getD j row0).l x = true) → nearAt R x = (nrS (gapR R x) R.length).1 ∧ nearFar R x = (nrS (gapR R x) R.length).2 ∧ nearC R x = 0) := fun h0 h => by
    have h1 := nearE_iff.2 ⟨h0, h⟩
    have h2 := nrS_eq (gapR R x) (R.length - 1)
    rw [show R.length - 1 + 1 = R.length from by omega] at h2
    unfold nearAt nearFar nearC
    rw [if_pos h1, if_pos h1, if_pos h1, h2]
    exact ⟨rfl, rfl, rfl⟩
  have HG : Hid (∀ k, gapR R x k = gapNN (R.getD k row0).l x) := fun k => rfl
  have HP : Hid (∀ k, 0 < k → 0 ≤ (nrS (gapR R x) k).1) := fun k hk => nrS_neg _ hk
  generalize nearAt R x = qa at *
  generalize nearFar R x = qf at *
  generalize nearC R x = qc at *
  clear hA hA2
  generalize hN : R.length = N at *
  have HN := Lib.hid hN
  clear hN
  go_enter Try.func45, Try.ntmps45
  go_wp2
  go_loopw [7, 8, 9] (fun lo hi i wr => ∃ k : Nat, k ≤ N ∧ i = .int .i64 k ∧ lo = .int .i64 (nrS (gapR R x) k).1 ∧ hi = .int .i64 (nrS (gapR R x) k).2 ∧ Hid (∀ j, j < k → gapE (R.getD j row0).l x = true) ∧ Hid (∃ n, wr = w.drewN n)) (fun _ _ i _ => N - (intOf i).toNat)
  case atStart => exact ⟨0, by omega, rfl, rfl, rfl, fun j hj => absurd hj (by omega), ⟨0, rfl⟩⟩
  case round =>
    obtain ⟨k, hk, rfl, rfl, rfl, HE, HW⟩ := hrel
    by_cases hlt : k < N
    · have HAr : Hid (LiesR wr B A R) := by obtain ⟨n, hn⟩ := HW.out; show LiesR _ _ _ _; rw [hn]; exact HA.out
      have HAr2 : Hid (Lies wr B A2 x) := by obtain ⟨n, hn⟩ := HW.out; show Lies _ _ _ _; rw [hn]; exact HA2.out
      obtain ⟨ad, rfl, _, hcell, hlies⟩ := HAr.out.at (k := k) (by have := HN.out; omega)
      have K := Lib.hid (ref_Gap _ A2 (R.getD k row0).l x (R.getD k row0).c c2 B wr hlies HAr2.out)
      have HF := Lib.hid (HNO.out k hlt)
      have HX : Hid (gapE (R.getD k row0).l x = true → ∀ j, j < k + 1 → gapE (R.getD j row0).l x = true) := fun h j hj => by
        rcases Nat.lt_or_ge j k with g | g
        · exact HE.out j g
        · rw [show j = k from by omega]; exact h
      have HDk := Lib.hid (HG.out k)
      have HLS : Hid (nrS (gapR R x) (k + 1) = if k = 0 ∨ gapR R x k < (nrS (gapR R x) k).2 then ((k : Int), gapR R x k) else nrS (gapR R x) k) := rfl
      have HCC : Hid (gapCC (R.getD k row0).l x = if gapE (R.getD k row0).l x then 0 else 80) := rfl
      have HPk := Lib.hid (HP.out k)
      clear hlies
      have HS0 : Hid (k = 0 → (nrS (gapR R x) k).1 = -1) := fun h => by subst h; rfl
      generalize nrS (gapR R x) k = st at *
      obtain ⟨sa, sb⟩ := st
      simp only at HPk HLS HS0
      generalize R.getD k row0 = r at *
      obtain ⟨ra, rl, rc⟩ := r
      simp only at hcell K HF HX HDk HCC
      rw [HDk.out] at HLS
      generalize gapNN rl x = z at *
      generalize gapCC rl x = ec at *
      generalize gapE rl x = q at *
      generalize rl.length = M at *
      generalize x.length = L at *
      cases q
      · obtain ⟨f1, f2, f3⟩ := HF.out rfl
        have F1 := Lib.hid f1
        have F2 := Lib.hid f2
        have F3 := Lib.hid f3
        clear f1 f2 f3
        obtain rfl : ec = 80 := HCC.out
        go_wp2_with fail
        refine K.out.mono ?_
        rintro e w1 ⟨rfl, n, rfl⟩
        go_wp2
        go_ret3
        exact ⟨ret3i F1.out.symm F2.out.symm F3.out.symm, (by obtain ⟨m, hm⟩ := HW.out; rw [hm]; exact dre2' _ _ _)⟩
      · obtain rfl : ec = 0 := HCC.out
        have HEX := Lib.hid (HX.out rfl)
        clear HF HX HDk
        by_cases h0 : k = 0
        · have HL1 := Lib.hid (HLS.out.trans (if_pos (.inl h0)))
          have hs := HS0.out h0
          have hneg : decide (sa < 0) = true := decide_eq_true (by omega)
          clear h0 HLS hs HPk HS0
          go_wp2_with fail
          refine K.out.mono ?_
          rintro e w1 ⟨rfl, n, rfl⟩
          go_wp2
          exact ⟨⟨k + 1, by omega, by go_num, by rw [HL1.out], by rw [HL1.out], HEX.out, (by obtain ⟨m, hm⟩ := HW.out; show ∃ _, _; rw [hm]; exact dre2' _ _ _)⟩, by first | (simp [intOf]; done) | (simp [intOf]; omega)⟩
        · have HL1 := Lib.hid (HLS.out.trans (if_or0p h0 _ _ _))
          have hs := HPk.out (by omega)
          have hneg : decide (sa < 0) = false := decide_eq_false (by omega)
          clear HLS HPk HS0
          by_cases g1 : z < sb
          all_goals
            first | rw [if_pos g1] at HL1 | rw [if_neg g1] at HL1
            clear h0
            go_wp2_with fail
            refine K.out.mono ?_
            rintro e w1 ⟨rfl, n, rfl⟩
            go_wp2
            exact ⟨⟨k + 1, by omega, by go_num, by rw [HL1.out], by rw [HL1.out], HEX.out, (by obtain ⟨m, hm⟩ := HW.out; show ∃ _, _; rw [hm]; exact dre2' _ _ _)⟩, by first | (simp [intOf]; done) | (simp [intOf]; omega)⟩
    · obtain rfl : k = N := by omega
      by_cases h0 : k = 0
      · obtain ⟨f1, f2, f3⟩ := HZ.out h0
        have F1 := Lib.hid f1
        have F2 := Lib.hid f2
        have F3 := Lib.hid f3
        have hneg : decide ((nrS (gapR R x) k).1 < 0) = true := by rw [h0]; rfl
        clear f1 f2 f3 h0
        generalize nrS (gapR R x) k = st at *
        obtain ⟨sa, sb⟩ := st
        go_wp2
        go_ret3
        exact ⟨ret3i F1.out.symm F2.out.symm F3.out.symm, HW.out⟩
      · obtain ⟨f1, f2, f3⟩ := HYES.out (by omega) HE.out
        have F1 := Lib.hid f1
        have F2 := Lib.hid f2
        have F3 := Lib.hid f3
        have hs := HP.out k (by omega)
        have hneg : decide ((nrS (gapR R x) k).1 < 0) = false := decide_eq_false (by omega)
        clear f1 f2 f3 h0
        generalize nrS (gapR R x) k = st at *
        obtain ⟨sa, sb⟩ := st
        go_wp2
        go_ret3
        exact ⟨ret3i F1.out.symm F2.out.symm F3.out.symm, HW.out⟩

set_option maxRecDepth 100000 in
set_option maxHeartbeats 4000000 in
theorem vec_Near (A A2 : Option Addr) (R : List Row) (x : List Int) (c c2 B : Nat) (w : World) (hA : LiesR w B A R) (hA2 : Lies w B A2 x) (hR : OkR R) (hlx : (x.length : Int) ≤ 9223372036854775807) (hl : (R.length : Int) ≤ 9223372036854775807) (hcx : x.length ≤ c2) :
    Calls Try.prog 44 #[.slice A R.length c, .slice A2 x.length c2] w fun e w' => e = .returned (.tuple #[.int .i64 (nearAt R x), .int .i64 (nearFar R x), .int .i64 (nearC R x)]) ∧ ∃ n, w' = w.drewN n := by
  have K1 := Lib.hid (vec_is A2 x c2 B x.length w hA2 hlx hcx)
  have K2 := Lib.hid (fun n => vec_check A R c B x.length (w.drewN n) hA hR hl)
  have HA := Lib.hid hA
  have HA2 := Lib.hid hA2
  by_cases hE : nearE R x = true
  · obtain ⟨h0, hall⟩ := nearE_iff.1 hE
    have hp : isV x x.length = true := (gapE_iff2.1 (hall 0 h0)).1
    have hch : chkV R x.length = 0 := chkV_iff.2 ⟨h0, allV_iff.2 fun j hj => (gapE_iff2.1 (hall j hj)).2⟩
    rw [hp] at K1
    rw [hch] at K2
    have hLo : Hid (nearAt R x = (nearG (gapR R x) R.length).1) := by
      show _ = _
      unfold nearAt; rw [if_pos hE]
    have hHi : Hid (nearFar R x = (nearG (gapR R x) R.length).2) := by
      show _ = _
      unfold nearFar; rw [if_pos hE]
    have hCo : Hid (nearC R x = 0) := by
      show _ = _
      unfold nearC; rw [if_pos hE]
    generalize nearAt R x = qlo at *
    generalize nearFar R x = qhi at *
    generalize nearC R x = qc at *
    have KG : Hid (∀ j, j < R.length → ∀ W, (∃ n, W = w.drewN n) → Calls Try.prog 67 #[.slice (R.getD j row0).a (R.getD j row0).l.length (R.getD j row0).c, .slice A2 x.length c2] W fun e w' => e = .returned (.int .i64 (gapR R x j)) ∧ ∃ n, w' = W.drewN n) := fun j hj W hW => by
      have hg := hall j hj
      obtain ⟨g1, g2, g3, g4⟩ := gapE_ok hg
      have h := vec_gap (R.getD j row0).a A2 (R.getD j row0).l x (R.getD j row0).c c2 B W (by obtain ⟨n, rfl⟩ := hW; exact hA.2 _ (getD_mem hj)) (by obtain ⟨n, rfl⟩ := hW; exact hA2) g1 g2 g3 g4
      rw [show gapR R x j = gapI (R.getD j row0).l x (R.getD j row0).l.length from by unfold gapR gapNN; rw [if_pos hg]]
      exact h
    have HG1 : Hid (∀ k, nearG (gapR R x) (k + 1) = if gapR R x k < (nearG (gapR R x) k).2 then (k, gapR R x k) else nearG (gapR R x) k) := fun k => rfl
    have HG0 : Hid (nearG (gapR R x) 0 = (0, gapR R x 0)) := rfl
    obtain ⟨ad, rfl, _, hcell, _⟩ := hA.at (k := 0) h0
    have hcell' : w.cell? ad = some (.slice (R.getD 0 row0).a (R.getD 0 row0).l.length (R.getD 0 row0).c) := by rw [add_zero'] at hcell; exact hcell
    have KG0 := Lib.hid (KG.out 0 h0)
    generalize gapR R x = gf at *
    generalize hN : R.length = N at *
    have HN := Lib.hid hN
    clear hN hA hA2 hR hE hall hp hch
    generalize x.length = L at *
    have h0' : (0 : Int) < (N : Int) := by omega
    generalize R.getD 0 row0 = r0 at *
    obtain ⟨ra0, rl0, rc0⟩ := r0
    simp only at hcell hcell' KG0
    generalize rl0.length = M0 at *
    go_enter Try.func44, Try.ntmps44
    go_wp2_with fail
    refine K1.out.mono ?_
    rintro e w1 ⟨rfl, n1, rfl⟩
    go_wp2_with fail
    refine (K2.out _).mono ?_
    rintro e w2 ⟨rfl, hw2⟩
    have hw3 : ∃ n, w2 = w.drewN n := by obtain ⟨n, rfl⟩ := hw2; exact ⟨_, by first | rfl | exact World.drewN_drewN _ _ _⟩
    have HW2 := Lib.hid hw3
    have hcell2 : w2.cell? (ad.add 0) = some (.slice ra0 M0 rc0) := by obtain ⟨n, rfl⟩ := hw3; exact hcell
    have hcell2' : w2.cell? ad = some (.slice ra0 M0 rc0) := by obtain ⟨n, rfl⟩ := hw3; exact hcell'
    clear hw2 hw3
    go_wp2_with fail
    refine (KG0.out _ HW2.out).mono ?_
    rintro e w3 ⟨rfl, hw3⟩
    have HW3 : Hid (∃ n, w3 = w.drewN n) := by obtain ⟨n, rfl⟩ := hw3; obtain ⟨m, hm⟩ := HW2.out; show ∃ _, _; rw [hm]; exact dre2' _ _ _
    clear hw3
    go_wp2
    go_loopw [7, 8, 31] (fun av lv i wr => ∃ k : Nat, k ≤ N ∧ i = .int .i64 k ∧ av = .int .i64 (nearG gf k).1 ∧ lv = .int .i64 (nearG gf k).2 ∧ Hid (∃ n, wr = w.drewN n)) (fun _ _ i _ => N - (intOf i).toNat)
    case atStart => exact ⟨0, by omega, rfl, by rw [HG0.out]; rfl, by rw [HG0.out], HW3.out⟩
    case round =>
      obtain ⟨k, hk, rfl, rfl, rfl, HW⟩ := hrel
      by_cases hlt : k < N
      · have HAr : Hid (LiesR wr B (some ad) R) := by obtain ⟨n, hn⟩ := HW.out; show LiesR _ _ _ _; rw [hn]; exact HA.out
        obtain ⟨ad2, hade, _, hcellk, _⟩ := HAr.out.at (k := k) (by have := HN.out; omega)
        cases hade
        have K := Lib.hid (KG.out k hlt wr HW.out)
        have HLS := Lib.hid (HG1.out k)
        generalize nearG gf k = st at *
        obtain ⟨sa, sb⟩ := st
        simp only at HLS
        generalize R.getD k row0 = r at *
        obtain ⟨ra, rl, rc⟩ := r
        simp only at hcellk K
        generalize gf k = z at *
        generalize rl.length = M at *
        by_cases g1 : z < sb
        all_goals
          first | rw [if_pos g1] at HLS | rw [if_neg g1] at HLS
          go_wp2_with fail
          refine K.out.mono ?_
          rintro e w4 ⟨rfl, n, rfl⟩
          go_wp2
          exact ⟨⟨k + 1, by omega, by go_num, by rw [HLS.out], by rw [HLS.out], (by obtain ⟨m, hm⟩ := HW.out; show ∃ _, _; rw [hm]; exact dre2' _ _ _)⟩, by first | (simp [intOf]; done) | (simp [intOf]; omega)⟩
      · obtain rfl : k = N := by omega
        go_wp2
        go_ret3
        exact ⟨ret3i hLo.out.symm hHi.out.symm hCo.out.symm, HW.out⟩
  · have hLo : Hid (nearAt R x = 0) := by show _ = _; unfold nearAt; rw [if_neg hE]
    have hHi : Hid (nearFar R x = 0) := by show _ = _; unfold nearFar; rw [if_neg hE]
    have hCo : Hid (nearC R x = 80) := by show _ = _; unfold nearC; rw [if_neg hE]
    have HCH : Hid (isV x x.length = true → chkV R x.length = 80) := fun h => by
      rcases chkV_or R x.length with g | g
      · exfalso
        obtain ⟨g1, g2⟩ := chkV_iff.1 g
        exact hE (by unfold nearE; rw [h, g2, decide_eq_true g1]; rfl)
      · exact g
    generalize nearAt R x = qlo at *
    generalize nearFar R x = qhi at *
    generalize nearC R x = qc at *
    generalize chkV R x.length = ch at *
    generalize isV x x.length = pv at *
    clear hA hA2 hE hR
    generalize x.length = N at *
    generalize R.length = M at *
    cases pv
    · go_enter Try.func44, Try.ntmps44
      go_wp2_with fail
      refine K1.out.mono ?_
      rintro e w1 ⟨rfl, n1, rfl⟩
      go_wp2
      go_ret3
      exact ⟨ret3i hLo.out.symm hHi.out.symm hCo.out.symm, _, rfl⟩
    · obtain rfl : ch = 80 := HCH.out rfl
      go_enter Try.func44, Try.ntmps44
      go_wp2_with fail
      refine K1.out.mono ?_
      rintro e w1 ⟨rfl, n1, rfl⟩
      go_wp2_with fail
      refine (K2.out _).mono ?_
      rintro e w1 ⟨rfl, n2, rfl⟩
      go_wp2
      go_ret3
      exact ⟨ret3i hLo.out.symm hHi.out.symm hCo.out.symm, _, rfl⟩
end Go.Proofs.Yteljkppcaanniaa
