import Derived.Test.YtpjgnghmhbkmkaaCutC
import Derived.Test.YtpjgnghmhbkmkaaPickC
import Derived.Test.YtpjgnghmhbkmkaaVecN

/-! The reference of layer 9: level, Draw. -/
namespace Go.Proofs.Ytpjgnghmhbkmkaa
open Go.RowKit
set_option linter.unusedVariables false
set_option linter.unusedSimpArgs false

set_option maxHeartbeats 1000000 in
theorem ref_level (Ac Ar A : Option Addr) (co : List Int) (R : List Row) (l : List Int) (cc cr c : Nat) (a t : Int) (w : World) (hc : Lies w w.heap.size Ac co) (hr : LiesR w w.heap.size Ar R) (hA : LiesU w w.heap.size A l) (hu : ∀ x ∈ l, U64 x) (hl : (l.length : Int) ≤ 9223372036854775807)
    (hat : I64 a) (hlr : (R.length : Int) ≤ 9223372036854775807) (hE : reachE co R = true) (hne : ¬ reachLo co R = reachHi co R) :
    Calls Try.prog 80 #[.slice Ac co.length cc, .slice Ar R.length cr, .slice A l.length c, .int .i64 a, .int .i64 t] w (GivesB co Ac cc (btw co R l a t) w) := by
  have K1 := Lib.hid (fun W (h : Below w.heap.size w W) => ref_Reach Ac Ar co R cc cr w.heap.size W (hc.below h) (hr.below h) hlr)
  have HX := Lib.hid ((Kpc.start w).alloc #[.slice none 0 0, .int .i64 0] 40)
  have hb := reach_bd hE
  have hC := reachC_0 hE
  have KR := Lib.hid (fun W (h : Below w.heap.size w W) => ref_range6 A l c a (reachLo co R + 1) (reachHi co R) t W ((hA.below h).mono h.size) hu hl (by unfold I64; omega) (by unfold I64; omega) hat)
  have HV : Hid (btw co R l a t = if (rng l a (reachLo co R + 1) (reachHi co R) t).2.2 = 0 then (co, (rng l a (reachLo co R + 1) (reachHi co R) t).1, (rng l a (reachLo co R + 1) (reachHi co R) t).2.1, true, 0) else noD (rng l a (reachLo co R + 1) (reachHi co R) t).2.2) := by
    show _ = _
    unfold btw; rw [if_pos hC]
  rw [hC] at K1
  generalize btw co R l a t = Z at *
  generalize rng l a (reachLo co R + 1) (reachHi co R) t = G at *
  generalize reachLo co R = lo at *
  generalize reachHi co R = hi at *
  obtain ⟨n, p, e⟩ := G
  simp only at HV
  clear hc hr hA hE hu
  have hwr : wrap64 (lo + 1) = lo + 1 := by unfold wrap64; omega
  have hlh : (lo == hi) = false := by simpa using hne
  obtain ⟨y0, y1, f0, f1⟩ := HX.out.head.two
  go_enter Try.func80, Try.ntmps80
  go_wp2_with fail
  refine (K1.out _ HX.out.2.1).mono ?_
  rintro e1 w1 ⟨rfl, hw⟩
  have J1 := Lib.hid (HX.out.below (qdb hw))
  clear hw
  go_wp2_with fail
  refine (KR.out _ J1.out.2.1).mono ?_
  rintro e1 w2 ⟨rfl, b2⟩
  have J2 := Lib.hid (J1.out.below b2)
  obtain ⟨z0, z1, g0, g1⟩ := J2.out.head.two
  clear b2
  by_cases he : e = 0
  · subst he
    go_wp2
    obtain ⟨⟨k0, k1⟩, bz⟩ := Kpc.set2 J2.out (Nat.le_refl _) (.slice Ac co.length cc) (.int .i64 n)
    refine bodyPost_ret (v := .tuple #[.agg #[.slice Ac co.length cc, .int .i64 n], .int .i64 p, .bool true, .int .i64 0]) ?_ rfl ?_
    · simp [results, Try.results80, go_sem, k0, k1]
    · rw [show Z = (co, n, p, true, 0) from HV.out.trans (if_pos trivial)]
      exact ⟨bz, .inl ⟨rfl, rfl⟩⟩
  · have hne : (e != 0) = true := by simpa using he
    go_wp2
    obtain ⟨⟨k0, k1⟩, bz⟩ := Kpc.set2 J2.out (Nat.le_refl _) (.slice none 0 0) (.int .i64 0)
    refine bodyPost_ret (v := .tuple #[.agg #[.slice none 0 0, .int .i64 0], .int .i64 0, .bool false, .int .i64 e]) ?_ rfl ?_
    · simp [results, Try.results80, go_sem, k0, k1]
    · rw [show Z = noD e from HV.out.trans (if_neg he)]
      exact ⟨bz, .inr ⟨rfl, he, rfl⟩⟩
set_option maxHeartbeats 1000000 in
theorem ref_level_no (Ac Ar A : Option Addr) (co : List Int) (R : List Row) (l : List Int) (cc cr c : Nat) (a t : Int) (w : World) (hc : Lies w w.heap.size Ac co) (hr : LiesR w w.heap.size Ar R)
    (hlr : (R.length : Int) ≤ 9223372036854775807) (hE : reachE co R = true) (heq : reachLo co R = reachHi co R) :
    Calls Try.prog 80 #[.slice Ac co.length cc, .slice Ar R.length cr, .slice A l.length c, .int .i64 a, .int .i64 t] w fun e w' => e = .returned (.tuple #[.agg #[.slice none 0 0, .int .i64 0], .int .i64 a, .bool false, .int .i64 0]) ∧ Below w.heap.size w w' := by
  have K1 := Lib.hid (fun W (h : Below w.heap.size w W) => ref_Reach Ac Ar co R cc cr w.heap.size W (hc.below h) (hr.below h) hlr)
  have HX := Lib.hid ((Kpc.start w).alloc #[.slice none 0 0, .int .i64 0] 40)
  rw [reachC_0 hE, heq] at K1
  generalize reachHi co R = hi at *
  clear hc hr hE heq
  have hlh : (hi == hi) = true := by simp
  obtain ⟨y0, y1, f0, f1⟩ := HX.out.head.two
  go_enter Try.func80, Try.ntmps80
  go_wp2_with fail
  refine (K1.out _ HX.out.2.1).mono ?_
  rintro e1 w1 ⟨rfl, hw⟩
  have J1 := Lib.hid (HX.out.below (qdb hw))
  obtain ⟨z0, z1, g0, g1⟩ := J1.out.head.two
  clear hw
  go_wp2
  obtain ⟨⟨k0, k1⟩, bz⟩ := Kpc.set2 J1.out (Nat.le_refl _) (.slice none 0 0) (.int .i64 0)
  refine bodyPost_ret (v := .tuple #[.agg #[.slice none 0 0, .int .i64 0], .int .i64 a, .bool false, .int .i64 0]) ?_ rfl ⟨rfl, bz⟩
  simp [results, Try.results80, go_sem, k0, k1]
set_option maxRecDepth 100000 in
set_option maxHeartbeats 8000000 in
theorem ref_Draw (Ar A : Option Addr) (R : List Row) (l : List Int) (cr c : Nat) (k a t : Int) (w : World) (hr : LiesR w w.heap.size Ar R) (hA : LiesU w w.heap.size A l) (hu : ∀ x ∈ l, U64 x) (hl : (l.length : Int) ≤ 9223372036854775807)
    (hat : I64 a) (hlr : (R.length : Int) ≤ 9223372036854775807) :
    Calls Try.prog 41 #[.int .i64 k, .slice Ar R.length cr, .slice A l.length c, .int .i64 a, .int .i64 t] w (GivesD (drw k R l a t) w) := by
  have KM := Lib.hid (ref_asked a t)
  have HX := Lib.hid ((Kpc.start w).alloc #[.slice none 0 0, .int .i64 0] 40)
  by_cases hk : k = 1 ∨ k = 2
  · by_cases hask' : 0 ≤ a ∧ 1 ≤ t ∧ t ≤ 64
    · have hask : (k = 1 ∨ k = 2) ∧ 0 ≤ a ∧ 1 ≤ t ∧ t ≤ 64 := ⟨hk, hask'⟩
      rw [decide_eq_true hask'] at KM
      have hk1 : ¬ k < 1 := by omega
      have hk2 : ¬ 2 < k := by omega
      have KA := Lib.hid (fun W (h : Below w.heap.size w W) => ref_All Ar R cr w.heap.size (dimR R) W (hr.below h) hlr)
      have hbE : (allV R (dimR R) && decide (0 < R.length)) = boxE R (dimR R) := rfl
      rw [hbE] at KA
      rcases Nat.eq_zero_or_pos R.length with h0 | h0
      · have hE : ¬ boxE R (dimR R) = true := by rw [boxE_iff]; omega
        have HV : Hid (drw k R l a t = noD 80) := by
          show _ = _
          unfold drw; rw [if_pos (show AskD _ _ _ from hask), if_neg hE]
        generalize drw k R l a t = Z at *
        clear hr hA hu hE hbE KA
        rw [h0]
        obtain ⟨z0, z1, g0, g1⟩ := HX.out.head.two
        go_enter Try.func41, Try.ntmps41
        go_wp2_with fail
        refine (KM.out _).mono ?_
        rintro e1 w1 ⟨rfl, rfl⟩
        go_wp2
        obtain ⟨⟨k0, k1⟩, bz⟩ := Kpc.set2 HX.out (Nat.le_refl _) (.slice none 0 0) (.int .i64 0)
        refine bodyPost_ret (v := .tuple #[.agg #[.slice none 0 0, .int .i64 0], .int .i64 0, .bool false, .int .i64 80]) ?_ rfl ?_
        · simp [results, Try.results41, go_sem, k0, k1]
        · rw [HV.out]
          exact givesD_no (by first | exact bz | exact HX.out.2.1)
      · obtain ⟨ad, rfl, hadb, hcell, hlies⟩ := hr.at (k := 0) h0
        have hcell' : w.cell? ad = some (.slice (R.getD 0 row0).a (dimR R) (R.getD 0 row0).c) := by rw [add_zero'] at hcell; exact hcell
        have hcellx : (w.alloc (.cells #[.slice none 0 0, .int .i64 0] 40)).cell? ad = some (.slice (R.getD 0 row0).a (dimR R) (R.getD 0 row0).c) := (HX.out.2.1.cell hadb).trans hcell'
        have hg1 : (0 : Int) < (R.length : Int) := by omega
        have hz : ((R.length : Int) == 0) = false := by rw [beq_eq_false_iff_ne]; omega
        by_cases hE : boxE R (dimR R) = true
        · rw [hE] at KA
          have hd := box_dim hE
          have hll := box_lens hE
          have hC : boxC R (dimR R) = 0 := by unfold boxC; rw [if_pos hE]
          have KX := Lib.hid (fun W (h : Below w.heap.size w W) => ref_Box (some ad) R cr (dimR R) W ((hr.below h).mono h.size) hlr)
          unfold GivesBox at KX
          rw [hC] at KX
          have KO := Lib.hid (fun W A1 A2 c1 c2 (h1 : Lies W W.heap.size A1 (boxLo R (dimR R))) (h2 : Lies W W.heap.size A2 (boxHi R (dimR R))) => ref_Open A1 A2 (boxLo R (dimR R)) (boxHi R (dimR R)) c1 c2 W h1 h2 (by omega) (by omega))
          unfold GivesI at KO
          rw [show openL (boxLo R (dimR R)) (boxHi R (dimR R)) = opn R from rfl] at KO
          rw [hll.1, hll.2] at KX KO
          have HOM := Lib.hid (fun k (hk : k < (opn R).length) => opn_mem hE (mem_getD hk))
          have HUO := Lib.hid (fun j (h1 : j < dimR R) h2 => unit_open hE h1 h2)
          have hdr : boxLo R (dimR R) = boxLo R (dimR R) := rfl
          by_cases hop : opn R = []
          · have HV : Hid (drw k R l a t = ([], 0, a, false, 0)) := by
              show _ = _
              unfold drw; rw [if_pos (show AskD _ _ _ from hask), if_pos hE, if_pos hop]
            rw [hop] at KO
            generalize drw k R l a t = Z at *
            clear hr hA hu hop hE hlies hbE HOM HUO
            generalize dimR R = D at *
            generalize boxLo R D = LO at *
            generalize boxHi R D = HI at *
            go_enter Try.func41, Try.ntmps41
            go_wp2_with fail
            refine (KM.out _).mono ?_
            rintro e1 w1 ⟨rfl, rfl⟩
            go_wp2_with fail
            refine (KA.out _ HX.out.2.1).mono ?_
            rintro e1 w1 ⟨rfl, rfl⟩
            go_wp2_with fail
            refine (KX.out _ HX.out.2.1).mono ?_
            rintro e1 w1 ⟨A1, c1, A2, c2, rfl, q1, q2, q3, q4, b1⟩
            have J1 := Lib.hid (HX.out.below b1)
            have HLO := Lib.hid q3
            have HHI := Lib.hid q4
            clear q3 q4 b1
            go_wp2_with fail
            refine (KO.out _ _ _ _ _ HLO.out HHI.out).mono ?_
            rintro e1 w2 ⟨A3, c3, rfl, r1, r2, r3, b2⟩
            have J2 := Lib.hid (J1.out.below b2)
            have HOP := Lib.hid r3
            clear r3 b2 HLO HHI
            obtain ⟨z0, z1, g0, g1⟩ := J2.out.head.two
            go_wp2
            obtain ⟨⟨k0, k1⟩, bz⟩ := Kpc.set2 J2.out (Nat.le_refl _) (.slice none 0 0) (.int .i64 0)
            refine bodyPost_ret (v := .tuple #[.agg #[.slice none 0 0, .int .i64 0], .int .i64 a, .bool false, .int .i64 0]) ?_ rfl ?_
            · simp [results, Try.results41, go_sem, k0, k1]
            · rw [HV.out]
              exact givesD_no (by first | exact bz | exact HX.out.2.1)
          · have hol : 0 < (opn R).length := List.length_pos_iff.2 hop
            have hol8 := opn_len hE
            have hne0 : (((opn R).length : Int) == 0) = false := by rw [beq_eq_false_iff_ne]; omega
            have hwo : IntKind.u64.wrap ((opn R).length : Int) = ((opn R).length : Int) := by simp only [u64w]; omega
            obtain ⟨T, rfl⟩ : ∃ T : Nat, t = T := ⟨t.toNat, by omega⟩
            have HCO := Lib.hid (fun p (h : (colD (opn R) (dimR R) l p T).2.2 = 0) => col_of hE hop h)
            have HBL0 := Lib.hid (fun p => bnd_lt (l := l) (a := p) (n := (opn R).length) (t := T) (by omega))
            have KB := Lib.hid (fun W p (h : Below w.heap.size w W) (hp : I64 p) => ref_bound6 A l c p (opn R).length T W ((hA.below h).mono h.size) hu hl (by unfold U64; omega) hp)
            have KL := Lib.hid (fun W Ac cc co p (h : Below w.heap.size w W) (hl1 : Lies W W.heap.size Ac co) (hp : I64 p) (h8 : reachE co R = true) (hn : ¬ reachLo co R = reachHi co R) => ref_level Ac (some ad) A co R l cc cr c p T W hl1 ((hr.below h).mono h.size) ((hA.below h).mono h.size) hu hl hp hlr h8 hn)
            have KN := Lib.hid (fun W Ac cc co p (h : Below w.heap.size w W) (hl1 : Lies W W.heap.size Ac co) (h8 : reachE co R = true) (hn : reachLo co R = reachHi co R) => ref_level_no Ac (some ad) A co R l cc cr c p T W hl1 ((hr.below h).mono h.size) hlr h8 hn)
            unfold GivesB at KL
            have HAX : Hid (∀ p, axs (opn R) (dimR R) R l p T = if (colD (opn R) (dimR R) l p T).2.2 = 0 then btw (colD (opn R) (dimR R) l p T).1 R l (colD (opn R) (dimR R) l p T).2.1 T else noD (colD (opn R) (dimR R) l p T).2.2) := fun p => rfl
            by_cases hk3 : k = 1
            · subst hk3
              have HV : Hid (drw 1 R l a T = axs (opn R) (dimR R) R l a T) := by
                show _ = _
                unfold drw; rw [if_pos (show AskD _ _ _ from hask), if_pos hE, if_neg hop, if_neg (by decide)]
              generalize drw 1 R l a T = Z at *
              clear hr hA hu hop hE hlies hbE
              go_enter Try.func41, Try.ntmps41
              go_wp2_with fail
              refine (KM.out _).mono ?_
              rintro e1 w1 ⟨rfl, rfl⟩
              go_wp2_with fail
              refine (KA.out _ HX.out.2.1).mono ?_
              rintro e1 w1 ⟨rfl, rfl⟩
              go_wp2_with fail
              refine (KX.out _ HX.out.2.1).mono ?_
              rintro e1 w1 ⟨A1, c1, A2, c2, rfl, q1, q2, q3, q4, b1⟩
              have J1 := Lib.hid (HX.out.below b1)
              have HLO := Lib.hid q3
              have HHI := Lib.hid q4
              clear q3 q4 b1
              go_wp2_with fail
              refine (KO.out _ _ _ _ _ HLO.out HHI.out).mono ?_
              rintro e1 w2 ⟨A3, c3, rfl, r1, r2, r3, b2⟩
              have J2 := Lib.hid (J1.out.below b2)
              have HOP := Lib.hid r3
              clear r3 b2 HLO HHI
              have KCC := Lib.hid (KB.out w2 a J2.out.2.1 hat)
              have HA0 := Lib.hid (HV.out.trans (HAX.out a))
              have HO0 := Lib.hid (HCO.out a)
              have HBL := Lib.hid (HBL0.out a)
              have HCD : Hid (colD (opn R) (dimR R) l a T = if (bnd l a (opn R).length T).2.2 = 0 then (unitC (dimR R) ((opn R).getD (bnd l a (opn R).length T).1.toNat 0).toNat, (bnd l a (opn R).length T).2.1, 0) else ([], 0, (bnd l a (opn R).length T).2.2)) := rfl
              generalize colD (opn R) (dimR R) l a T = G at *
              generalize bnd l a (opn R).length T = G2 at *
              obtain ⟨bx, bp, be⟩ := G2
              simp only at HCD HBL
              go_wp2_with fail
              refine KCC.out.mono ?_
              rintro e1 wn ⟨rfl, hbn⟩
              have bn := qdb hbn
              have Jn := Lib.hid (J2.out.below bn)
              have HOPn := Lib.hid ((HOP.out.below bn).mono bn.size)
              clear bn hbn
              by_cases hbe : be = 0
              · subst hbe
                have hG : G = (unitC (dimR R) ((opn R).getD bx.toNat 0).toNat, bp, 0) := HCD.out.trans (if_pos (by first | trivial | rfl))
                obtain ⟨j, t1, t2, t3, t4, t5, t6⟩ := HO0.out (by rw [hG])
                have hbl := HBL.out
                obtain ⟨k, rfl⟩ : ∃ k : Nat, bx = k := ⟨bx.toNat, by omega⟩
                have hk : k < (opn R).length := by omega
                obtain ⟨ad, rfl, hb0, hc0⟩ := HOPn.out.at (k := k) hk
                obtain ⟨j2, hj2, hj3, hj4⟩ := HOM.out k hk
                rw [hj3] at hc0
                rw [show ((k : Int)).toNat = k from by omega, hj3, show ((j2 : Int)).toNat = j2 from by omega] at hG
                have hU := HUO.out j2 hj2 hj4
                have hHA := HA0.out
                rw [hG] at hHA t4 t5
                simp only at hHA t4 t5
                have HZ0 : Hid (Z = btw (unitC (dimR R) j2) R l bp T) := hHA.trans (if_pos (by first | trivial | rfl))
                have hul := unitC_len (dimR R) j2
                have hug : unitC (dimR R) j2 = (List.replicate (dimR R) 0).set j2 1 := rfl
                clear HA0 hHA hG t3 HO0 HCD t1 t2
                generalize unitC (dimR R) j2 = us at *
                have hkl : (k : Int) < ((opn R).length : Int) := by omega
                have hjd : (j2 : Int) < (dimR R : Int) := by omega
                have hpd : I64 bp := by have := hask.2.1; skip; unfold I64; omega
                have HKL := Lib.hid (fun W A1 (h : Below w.heap.size w W) (hl1 : Lies W W.heap.size A1 us) => KL.out W A1 (dimR R) us bp h hl1 hpd hU.1 (by have := hU.2; omega))
                rw [hul] at HKL
                go_wp2_with (at_make; refine make_ints rfl (.tmp 126) (.tmp 126) rfl (dimR R) rfl rfl (by omega) ?_; intro wm ho2 hb2; have hc2 := (hb2.cell (by rw [add_block]; exact hb0)).trans hc0; have hfr := ho2.free j2; have hcl := ho2.cell (k := j2) (by simp; omega); have HO2 := Lib.hid ho2; have HB2 := Lib.hid hb2; clear ho2 hb2)
                have ho3 := HO2.out.set (k := j2) (by simp; omega) 1
                rw [← hug] at ho3
                have hbs := HB2.out.setCell (p := ⟨wn.heap.size, j2, none⟩) (Nat.le_refl _) (.int .i64 1)
                have JM := Lib.hid (Jn.out.below hbs)
                have HLM := Lib.hid ho3.lies
                have hNB : ∀ ad, some (⟨wn.heap.size, 0, none⟩ : Addr) = some ad → w.heap.size < ad.block := fun ad e => by cases e; exact Jn.out.head.lt
                have HNB := Lib.hid hNB
                clear ho3 hbs hNB
                refine (HKL.out _ _ JM.out.2.1 HLM.out).mono ?_
                rintro e1 wz ⟨bz, hh⟩
                have JZ := Lib.hid (JM.out.below bz)
                have HLZ := Lib.hid ((HLM.out.below bz).mono bz.size)
                obtain ⟨x0, x1, f0, f1⟩ := JZ.out.head.two
                clear bz
                generalize btw us R l bp T = Y at *
                obtain ⟨yc, yn, yp, yb, ye⟩ := Y
                simp only at hh
                rcases hh with ⟨hy, rfl⟩ | ⟨hy, hne, rfl⟩
                · have HY := Lib.hid hy
                  clear hy
                  go_wp2
                  obtain ⟨⟨k0, k1⟩, bz⟩ := Kpc.set2 JZ.out (Nat.le_refl _) (.slice (some ⟨wn.heap.size, 0, none⟩) (dimR R) (dimR R)) (.int .i64 yn)
                  refine bodyPost_ret (v := .tuple #[.agg #[.slice (some ⟨wn.heap.size, 0, none⟩) (dimR R) (dimR R), .int .i64 yn], .int .i64 yp, .bool true, .int .i64 0]) ?_ rfl ?_
                  · simp [results, Try.results41, go_sem, k0, k1]
                  · rw [HZ0.out, HY.out]
                    exact ⟨_, dimR R, by first | (rw [show (us, yn, yp, true, (0 : Int)).1.length = dimR R from hul]; done) | (rw [show (us, yn, yp, true, (0 : Int)).1.length = dimR R from hul]; rfl), by first | omega | (simp only; omega), by omega, (box_off HLZ.out HNB.out).mono (by simp), fun ad e => Nat.le_of_lt (HNB.out ad e), bz⟩
                · have HY := Lib.hid hy
                  clear hy
                  go_wp2
                  obtain ⟨⟨k0, k1⟩, bz⟩ := Kpc.set2 JZ.out (Nat.le_refl _) (.slice none 0 0) (.int .i64 0)
                  refine bodyPost_ret (v := .tuple #[.agg #[.slice none 0 0, .int .i64 0], .int .i64 0, .bool false, .int .i64 ye]) ?_ rfl ?_
                  · simp [results, Try.results41, go_sem, k0, k1]
                  · rw [HZ0.out, HY.out]
                    exact givesD_no bz
              · have hG : G = ([], 0, be) := HCD.out.trans (if_neg hbe)
                have hne : (be != 0) = true := by simpa using hbe
                obtain ⟨z0, z1, g0, g1⟩ := Jn.out.head.two
                have hHA := HA0.out
                rw [hG] at hHA
                have HZ0 : Hid (Z = noD be) := hHA.trans (if_neg hbe)
                clear HA0 hHA hG HO0 HCD
                go_wp2
                obtain ⟨⟨k0, k1⟩, bz⟩ := Kpc.set2 Jn.out (Nat.le_refl _) (.slice none 0 0) (.int .i64 0)
                refine bodyPost_ret (v := .tuple #[.agg #[.slice none 0 0, .int .i64 0], .int .i64 0, .bool false, .int .i64 be]) ?_ rfl ?_
                · simp [results, Try.results41, go_sem, k0, k1]
                · rw [HZ0.out]
                  exact givesD_no bz
            · obtain rfl : k = 2 := by omega
              have KP := Lib.hid (fun W (h : Below w.heap.size w W) => ref_Coefs_go A l c (dimR R) T a W ((hA.below h).mono h.size) hu hl hd.1 hd.2.1 hask.2.1 (by unfold I64 at hat; omega) (by omega) (by omega))
              unfold GivesC at KP
              have hcy : cof l a (dimR R) T = trs l (dimR R) T T a := by rw [cof_yes (by omega)]; simp
              have HCP := Lib.hid (fun (h : (cof l a (dimR R) T).2.2 = 0) => cof_pos h)
              have HCA := Lib.hid (fun (h : (cof l a (dimR R) T).2.2 = 0) => cof_at hl hask.2.1 h)
              have HRE := Lib.hid (fun co (h : partsV co (dimR R) = true) => reach_of hE h)
              have HV : Hid (drw 2 R l a T = pln R l a T) := by
                show _ = _
                unfold drw; rw [if_pos (show AskD _ _ _ from hask), if_pos hE, if_neg hop, if_pos rfl]
              have HPL : Hid (pln R l a T = if (cof l a (dimR R) T).2.2 = 0 then (if reachLo (cof l a (dimR R) T).1 R < reachHi (cof l a (dimR R) T).1 R then btw (cof l a (dimR R) T).1 R l (cof l a (dimR R) T).2.1 T else axs (opn R) (dimR R) R l (cof l a (dimR R) T).2.1 T) else noD (cof l a (dimR R) T).2.2) := rfl
              rw [← hcy] at KP
              generalize drw 2 R l a T = Z at *
              generalize pln R l a T = Z2 at *
              generalize cof l a (dimR R) T = G0 at *
              obtain ⟨cs, p, e⟩ := G0
              simp only at HCP HCA HPL
              clear hr hA hu hop hE hcy hlies hbE
              go_enter Try.func41, Try.ntmps41
              go_wp2_with fail
              refine (KM.out _).mono ?_
              rintro e1 w1 ⟨rfl, rfl⟩
              go_wp2_with fail
              refine (KA.out _ HX.out.2.1).mono ?_
              rintro e1 w1 ⟨rfl, rfl⟩
              go_wp2_with fail
              refine (KX.out _ HX.out.2.1).mono ?_
              rintro e1 w1 ⟨A1, c1, A2, c2, rfl, q1, q2, q3, q4, b1⟩
              have J1 := Lib.hid (HX.out.below b1)
              have HLO := Lib.hid q3
              have HHI := Lib.hid q4
              clear q3 q4 b1
              go_wp2_with fail
              refine (KO.out _ _ _ _ _ HLO.out HHI.out).mono ?_
              rintro e1 w2 ⟨A3, c3, rfl, r1, r2, r3, b2⟩
              have J2 := Lib.hid (J1.out.below b2)
              have HOP := Lib.hid r3
              clear r3 b2 HLO HHI
              go_wp2_with fail
              refine (KP.out _ J2.out.2.1).mono ?_
              rintro e1 w3 ⟨A4, c4, rfl, u1, u2, u3, u4, b3⟩
              have J3 := Lib.hid (J2.out.below b3)
              have HOP3 := Lib.hid ((HOP.out.below b3).mono b3.size)
              try simp only at u1 u3
              have H4 := Lib.hid u3
              have hA4 : ∀ ad, A4 = some ad → w.heap.size < ad.block := fun ad e => Nat.lt_of_lt_of_le J2.out.head.lt (u4 ad e)
              have HNB := Lib.hid hA4
              obtain ⟨z0, z1, g0, g1⟩ := J3.out.head.two
              clear u3 u4 b3 hA4
              by_cases he : e = 0
              · subst he
                obtain ⟨p1, p2, p3, p4⟩ := HCP.out rfl
                have p5 := HCA.out rfl
                obtain ⟨v1, v2, v3, _⟩ := partsV_iff.1 p4
                have hRE := HRE.out cs p4
                have hbd := reach_bd hRE
                have hp3 : I64 p := by unfold I64; omega
                have HZ2 : Hid (Z2 = if reachLo cs R < reachHi cs R then btw cs R l p T else axs (opn R) (dimR R) R l p T) := HPL.out.trans (if_pos rfl)
                by_cases hlt : reachLo cs R < reachHi cs R
                · have HZ3 : Hid (Z = btw cs R l p T) := HV.out.trans (HZ2.out.trans (if_pos hlt))
                  have KBB := Lib.hid (KL.out w3 A4 c4 cs p J3.out.2.1 H4.out hp3 hRE (by omega))
                  clear hRE hbd hlt HZ2
                  generalize btw cs R l p T = Y at *
                  obtain ⟨yc, yn, yp, yb, ye⟩ := Y
                  simp only at KBB
                  go_wp2_with fail
                  refine KBB.out.mono ?_
                  rintro e1 w4 ⟨b4, hh⟩
                  have J4 := Lib.hid (J3.out.below b4)
                  have HL4 := Lib.hid ((H4.out.below b4).mono b4.size)
                  clear b4
                  rcases hh with ⟨hy, rfl⟩ | ⟨hy, hne, rfl⟩
                  · have HY := Lib.hid hy
                    clear hy
                    have JJ := Lib.hid (J4.out.alloc #[.slice A4 cs.length c4, .int .i64 yn] 40)
                    obtain ⟨v0, v1, i0, i1⟩ := JJ.out.head.two
                    obtain ⟨x0, x1, f0, f1⟩ := JJ.out.tail.head.two
                    have bS : Below w4.heap.size w4 (w4.alloc (.cells #[.slice A4 cs.length c4, .int .i64 yn] 40)) := (Below.refl _ _).alloc (Nat.le_refl _) _
                    have JS := Lib.hid (J4.out.below bS)
                    have HLS := Lib.hid ((HL4.out.below bS).mono bS.size)
                    clear bS
                    go_wp2
                    obtain ⟨⟨k0, k1⟩, bz⟩ := Kpc.set2 JS.out (Nat.le_refl _) (.slice A4 cs.length c4) (.int .i64 yn)
                    refine bodyPost_ret (v := .tuple #[.agg #[.slice A4 cs.length c4, .int .i64 yn], .int .i64 yp, .bool true, .int .i64 0]) ?_ rfl ?_
                    · simp [results, Try.results41, go_sem, k0, k1]
                    · rw [HZ3.out, HY.out]
                      exact ⟨A4, c4, rfl, u1, by unfold maxLen at u2; omega, (box_off HLS.out HNB.out).mono (by simp), fun ad e => Nat.le_of_lt (HNB.out ad e), bz⟩
                  · have HY := Lib.hid hy
                    have hye : (ye != 0) = true := by simpa using hne
                    clear hy
                    have JJ := Lib.hid (J4.out.alloc #[.slice none 0 0, .int .i64 0] 40)
                    obtain ⟨v0, v1, i0, i1⟩ := JJ.out.head.two
                    obtain ⟨x0, x1, f0, f1⟩ := JJ.out.tail.head.two
                    have bS : Below w4.heap.size w4 (w4.alloc (.cells #[.slice none 0 0, .int .i64 0] 40)) := (Below.refl _ _).alloc (Nat.le_refl _) _
                    have JS := Lib.hid (J4.out.below bS)
                    obtain ⟨x2, x3, f2, f3⟩ := JS.out.head.two
                    clear bS
                    go_wp2
                    obtain ⟨⟨k0, k1⟩, bz⟩ := Kpc.set2 JS.out (Nat.le_refl _) (.slice none 0 0) (.int .i64 0)
                    refine bodyPost_ret (v := .tuple #[.agg #[.slice none 0 0, .int .i64 0], .int .i64 0, .bool false, .int .i64 ye]) ?_ rfl ?_
                    · simp [results, Try.results41, go_sem, k0, k1]
                    · rw [HZ3.out, HY.out]
                      exact givesD_no bz
                · have HV2 : Hid (Z = axs (opn R) (dimR R) R l p T) := HV.out.trans (HZ2.out.trans (if_neg hlt))
                  have KBB := Lib.hid (KN.out w3 A4 c4 cs p J3.out.2.1 H4.out hRE (by omega))
                  clear hRE hbd hlt HZ2
                  go_wp2_with fail
                  refine KBB.out.mono ?_
                  rintro e1 w4 ⟨rfl, b4⟩
                  have J4 := Lib.hid (J3.out.below b4)
                  have HOP4 := Lib.hid ((HOP3.out.below b4).mono b4.size)
                  clear b4
                  have JJ := Lib.hid (J4.out.alloc #[.slice none 0 0, .int .i64 0] 40)
                  obtain ⟨v0, v1, i0, i1⟩ := JJ.out.head.two
                  obtain ⟨x0, x1, f0, f1⟩ := JJ.out.tail.head.two
                  have bS : Below w4.heap.size w4 (w4.alloc (.cells #[.slice none 0 0, .int .i64 0] 40)) := (Below.refl _ _).alloc (Nat.le_refl _) _
                  have JS := Lib.hid (J4.out.below bS)
                  obtain ⟨x2, x3, f2, f3⟩ := JS.out.head.two
                  have HOP5 := Lib.hid ((HOP4.out.below bS).mono bS.size)
                  clear bS HNB
                  have KCC := Lib.hid (KB.out _ p JS.out.2.1 hp3)
                  have HA0 := Lib.hid (HV2.out.trans (HAX.out p))
                  have HO0 := Lib.hid (HCO.out p)
                  have HBL := Lib.hid (HBL0.out p)
                  have HCD : Hid (colD (opn R) (dimR R) l p T = if (bnd l p (opn R).length T).2.2 = 0 then (unitC (dimR R) ((opn R).getD (bnd l p (opn R).length T).1.toNat 0).toNat, (bnd l p (opn R).length T).2.1, 0) else ([], 0, (bnd l p (opn R).length T).2.2)) := rfl
                  generalize colD (opn R) (dimR R) l p T = G at *
                  generalize bnd l p (opn R).length T = G2 at *
                  obtain ⟨bx, bp, be⟩ := G2
                  simp only at HCD HBL
                  go_wp2_with fail
                  refine KCC.out.mono ?_
                  rintro e1 wn ⟨rfl, hbn⟩
                  have bn := qdb hbn
                  have Jn := Lib.hid (JS.out.below bn)
                  have HOPn := Lib.hid ((HOP5.out.below bn).mono bn.size)
                  clear bn hbn
                  by_cases hbe : be = 0
                  · subst hbe
                    have hG : G = (unitC (dimR R) ((opn R).getD bx.toNat 0).toNat, bp, 0) := HCD.out.trans (if_pos (by first | trivial | rfl))
                    obtain ⟨j, t1, t2, t3, t4, t5, t6⟩ := HO0.out (by rw [hG])
                    have hbl := HBL.out
                    obtain ⟨k, rfl⟩ : ∃ k : Nat, bx = k := ⟨bx.toNat, by omega⟩
                    have hk : k < (opn R).length := by omega
                    obtain ⟨ad, rfl, hb0, hc0⟩ := HOPn.out.at (k := k) hk
                    obtain ⟨j2, hj2, hj3, hj4⟩ := HOM.out k hk
                    rw [hj3] at hc0
                    rw [show ((k : Int)).toNat = k from by omega, hj3, show ((j2 : Int)).toNat = j2 from by omega] at hG
                    have hU := HUO.out j2 hj2 hj4
                    have hHA := HA0.out
                    rw [hG] at hHA t4 t5
                    simp only at hHA t4 t5
                    have HZ0 : Hid (Z = btw (unitC (dimR R) j2) R l bp T) := hHA.trans (if_pos (by first | trivial | rfl))
                    have hul := unitC_len (dimR R) j2
                    have hug : unitC (dimR R) j2 = (List.replicate (dimR R) 0).set j2 1 := rfl
                    clear HA0 hHA hG t3 HO0 HCD t1 t2
                    generalize unitC (dimR R) j2 = us at *
                    have hkl : (k : Int) < ((opn R).length : Int) := by omega
                    have hjd : (j2 : Int) < (dimR R : Int) := by omega
                    have hpd : I64 bp := by have := hask.2.1; have := p5.1; unfold I64; omega
                    have HKL := Lib.hid (fun W A1 (h : Below w.heap.size w W) (hl1 : Lies W W.heap.size A1 us) => KL.out W A1 (dimR R) us bp h hl1 hpd hU.1 (by have := hU.2; omega))
                    rw [hul] at HKL
                    go_wp2_with (at_make; refine make_ints rfl (.tmp 126) (.tmp 126) rfl (dimR R) rfl rfl (by omega) ?_; intro wm ho2 hb2; have hc2 := (hb2.cell (by rw [add_block]; exact hb0)).trans hc0; have hfr := ho2.free j2; have hcl := ho2.cell (k := j2) (by simp; omega); have HO2 := Lib.hid ho2; have HB2 := Lib.hid hb2; clear ho2 hb2)
                    have ho3 := HO2.out.set (k := j2) (by simp; omega) 1
                    rw [← hug] at ho3
                    have hbs := HB2.out.setCell (p := ⟨wn.heap.size, j2, none⟩) (Nat.le_refl _) (.int .i64 1)
                    have JM := Lib.hid (Jn.out.below hbs)
                    have HLM := Lib.hid ho3.lies
                    have hNB : ∀ ad, some (⟨wn.heap.size, 0, none⟩ : Addr) = some ad → w.heap.size < ad.block := fun ad e => by cases e; exact Jn.out.head.lt
                    have HNB := Lib.hid hNB
                    clear ho3 hbs hNB
                    refine (HKL.out _ _ JM.out.2.1 HLM.out).mono ?_
                    rintro e1 wz ⟨bz, hh⟩
                    have JZ := Lib.hid (JM.out.below bz)
                    have HLZ := Lib.hid ((HLM.out.below bz).mono bz.size)
                    obtain ⟨x0, x1, f0, f1⟩ := JZ.out.head.two
                    clear bz
                    generalize btw us R l bp T = Y at *
                    obtain ⟨yc, yn, yp, yb, ye⟩ := Y
                    simp only at hh
                    rcases hh with ⟨hy, rfl⟩ | ⟨hy, hne, rfl⟩
                    · have HY := Lib.hid hy
                      clear hy
                      go_wp2
                      obtain ⟨⟨k0, k1⟩, bz⟩ := Kpc.set2 JZ.out (Nat.le_refl _) (.slice (some ⟨wn.heap.size, 0, none⟩) (dimR R) (dimR R)) (.int .i64 yn)
                      refine bodyPost_ret (v := .tuple #[.agg #[.slice (some ⟨wn.heap.size, 0, none⟩) (dimR R) (dimR R), .int .i64 yn], .int .i64 yp, .bool true, .int .i64 0]) ?_ rfl ?_
                      · simp [results, Try.results41, go_sem, k0, k1]
                      · rw [HZ0.out, HY.out]
                        exact ⟨_, dimR R, by first | (rw [show (us, yn, yp, true, (0 : Int)).1.length = dimR R from hul]; done) | (rw [show (us, yn, yp, true, (0 : Int)).1.length = dimR R from hul]; rfl), by first | omega | (simp only; omega), by omega, (box_off HLZ.out HNB.out).mono (by simp), fun ad e => Nat.le_of_lt (HNB.out ad e), bz⟩
                    · have HY := Lib.hid hy
                      clear hy
                      go_wp2
                      obtain ⟨⟨k0, k1⟩, bz⟩ := Kpc.set2 JZ.out (Nat.le_refl _) (.slice none 0 0) (.int .i64 0)
                      refine bodyPost_ret (v := .tuple #[.agg #[.slice none 0 0, .int .i64 0], .int .i64 0, .bool false, .int .i64 ye]) ?_ rfl ?_
                      · simp [results, Try.results41, go_sem, k0, k1]
                      · rw [HZ0.out, HY.out]
                        exact givesD_no bz
                  · have hG : G = ([], 0, be) := HCD.out.trans (if_neg hbe)
                    have hne : (be != 0) = true := by simpa using hbe
                    obtain ⟨z0, z1, g0, g1⟩ := Jn.out.head.two
                    have hHA := HA0.out
                    rw [hG] at hHA
                    have HZ0 : Hid (Z = noD be) := hHA.trans (if_neg hbe)
                    clear HA0 hHA hG HO0 HCD
                    go_wp2
                    obtain ⟨⟨k0, k1⟩, bz⟩ := Kpc.set2 Jn.out (Nat.le_refl _) (.slice none 0 0) (.int .i64 0)
                    refine bodyPost_ret (v := .tuple #[.agg #[.slice none 0 0, .int .i64 0], .int .i64 0, .bool false, .int .i64 be]) ?_ rfl ?_
                    · simp [results, Try.results41, go_sem, k0, k1]
                    · rw [HZ0.out]
                      exact givesD_no bz
              · have hne : (e != 0) = true := by simpa using he
                have HZ2 : Hid (Z = noD e) := HV.out.trans (HPL.out.trans (if_neg he))
                go_wp2
                obtain ⟨⟨k0, k1⟩, bz⟩ := Kpc.set2 J3.out (Nat.le_refl _) (.slice none 0 0) (.int .i64 0)
                refine bodyPost_ret (v := .tuple #[.agg #[.slice none 0 0, .int .i64 0], .int .i64 0, .bool false, .int .i64 e]) ?_ rfl ?_
                · simp [results, Try.results41, go_sem, k0, k1]
                · rw [HZ2.out]
                  exact givesD_no (by first | exact bz | exact HX.out.2.1)
        · have hE2 : boxE R (dimR R) = false := by simpa using hE
          rw [hE2] at KA
          have HV : Hid (drw k R l a t = noD 80) := by
            show _ = _
            unfold drw; rw [if_pos (show AskD _ _ _ from hask), if_neg hE]
          generalize drw k R l a t = Z at *
          clear hr hA hu hE hlies hbE hE2
          generalize dimR R = D at *
          obtain ⟨z0, z1, g0, g1⟩ := HX.out.head.two
          go_enter Try.func41, Try.ntmps41
          go_wp2_with fail
          refine (KM.out _).mono ?_
          rintro e1 w1 ⟨rfl, rfl⟩
          go_wp2_with fail
          refine (KA.out _ HX.out.2.1).mono ?_
          rintro e1 w1 ⟨rfl, rfl⟩
          go_wp2
          obtain ⟨⟨k0, k1⟩, bz⟩ := Kpc.set2 HX.out (Nat.le_refl _) (.slice none 0 0) (.int .i64 0)
          refine bodyPost_ret (v := .tuple #[.agg #[.slice none 0 0, .int .i64 0], .int .i64 0, .bool false, .int .i64 80]) ?_ rfl ?_
          · simp [results, Try.results41, go_sem, k0, k1]
          · rw [HV.out]
            exact givesD_no (by first | exact bz | exact HX.out.2.1)
    · rw [decide_eq_false hask'] at KM
      have hk1 : ¬ k < 1 := by omega
      have hk2 : ¬ 2 < k := by omega
      have HV : Hid (drw k R l a t = noD 1) := by
        show _ = _
        unfold drw; rw [if_neg (show ¬ AskD _ _ _ from fun h => hask' h.2)]
      generalize drw k R l a t = Z at *
      clear hr hA hu
      obtain ⟨z0, z1, g0, g1⟩ := HX.out.head.two
      go_enter Try.func41, Try.ntmps41
      go_wp2_with fail
      refine (KM.out _).mono ?_
      rintro e1 w1 ⟨rfl, rfl⟩
      go_wp2
      obtain ⟨⟨k0, k1⟩, bz⟩ := Kpc.set2 HX.out (Nat.le_refl _) (.slice none 0 0) (.int .i64 0)
      refine bodyPost_ret (v := .tuple #[.agg #[.slice none 0 0, .int .i64 0], .int .i64 0, .bool false, .int .i64 1]) ?_ rfl ?_
      · simp [results, Try.results41, go_sem, k0, k1]
      · rw [HV.out]
        exact givesD_no (by first | exact bz | exact HX.out.2.1)
  · have HV : Hid (drw k R l a t = noD 1) := by
      show _ = _
      unfold drw; rw [if_neg (show ¬ AskD _ _ _ from fun h => hk h.1)]
    generalize drw k R l a t = Z at *
    clear hr hA hu KM
    obtain ⟨z0, z1, g0, g1⟩ := HX.out.head.two
    by_cases hk1 : k < 1
    · go_enter Try.func41, Try.ntmps41
      go_wp2
      obtain ⟨⟨k0, k1⟩, bz⟩ := Kpc.set2 HX.out (Nat.le_refl _) (.slice none 0 0) (.int .i64 0)
      refine bodyPost_ret (v := .tuple #[.agg #[.slice none 0 0, .int .i64 0], .int .i64 0, .bool false, .int .i64 1]) ?_ rfl ?_
      · simp [results, Try.results41, go_sem, k0, k1]
      · rw [HV.out]
        exact givesD_no (by first | exact bz | exact HX.out.2.1)
    · have hk2 : 2 < k := by omega
      go_enter Try.func41, Try.ntmps41
      go_wp2
      obtain ⟨⟨k0, k1⟩, bz⟩ := Kpc.set2 HX.out (Nat.le_refl _) (.slice none 0 0) (.int .i64 0)
      refine bodyPost_ret (v := .tuple #[.agg #[.slice none 0 0, .int .i64 0], .int .i64 0, .bool false, .int .i64 1]) ?_ rfl ?_
      · simp [results, Try.results41, go_sem, k0, k1]
      · rw [HV.out]
        exact givesD_no (by first | exact bz | exact HX.out.2.1)
end Go.Proofs.Ytpjgnghmhbkmkaa
