import Derived.Test.YtkkeejbgaaodeaaTreeF

/-! Layer 10: the reference's Same. -/
namespace Go.Proofs.Ytkkeejbgaaodeaa
open Go.RowKit
set_option linter.unusedVariables false
set_option linter.unusedSimpArgs false

set_option maxRecDepth 100000 in
set_option maxHeartbeats 8000000 in
theorem ref_SameT (d e : Int) (N M : List TN) (A A2 : Option Addr) (c c2 B : Nat) (w : World) (hA : LiesT w B A N) (hA2 : LiesT w B A2 M) (hB : B ≤ w.heap.size) (hl : (N.length : Int) ≤ 100000) (hm : (M.length : Int) ≤ 9223372036854775807) (hN : ∀ n ∈ N, (n.co.length : Int) ≤ 9223372036854775807) (hM : ∀ n ∈ M, (n.co.length : Int) ≤ 9223372036854775807) :
    Calls Try.prog 18 #[.agg #[.int .i64 d, .slice A N.length c], .agg #[.int .i64 e, .slice A2 M.length c2]] w fun r w' => r = .returned (.bool (samT d N e M)) ∧ Below w.heap.size w w' := by
  have HX := Lib.hid (((Kpc.start w).alloc #[.int .i64 d, .slice A N.length c] 24).alloc #[.int .i64 e, .slice A2 M.length c2] 24)
  rw [alloc_size'] at HX
  obtain ⟨v0, v1⟩ := box_cut HX.out.head
  obtain ⟨y0, y1⟩ := box_cut HX.out.tail.head
  have HNO : Hid (∀ k, k < N.length → ¬ nodeS (N.getD k tn0) (M.getD k tn0) → samT d N e M = false) := fun k hk h => decide_eq_false (fun g => h (g.2.2 k hk))
  have HYES : Hid (d = e → N.length = M.length → (∀ j, j < N.length → nodeS (N.getD j tn0) (M.getD j tn0)) → samT d N e M = true) := fun h1 h2 h3 => decide_eq_true ⟨h1, h2, h3⟩
  by_cases h1 : d = e
  · by_cases h2 : N.length = M.length
    · subst h1
      have HA := Lib.hid (fun W (h : Below w.heap.size w W) k (hk : k < N.length) => (hA.below (h.mono hB)).at hk)
      have HA2 := Lib.hid (fun W (h : Below w.heap.size w W) k (hk : k < N.length) => (hA2.below (h.mono hB)).at (k := k) (by omega))
      have HCN := Lib.hid (fun k (hk : k < N.length) => hN _ (mem_tn hk))
      have HCM := Lib.hid (fun k (hk : k < N.length) => hM _ (mem_tn (k := k) (by omega)))
      have HY := Lib.hid (HYES.out rfl h2)
      generalize samT d N d M = R at *
      rw [← h2] at HX v1 ⊢
      have hBW := Lib.hid hB
      clear hA hA2 hN hM hm HYES h2
      generalize N.length = K at *
      have eq0 : (d != d) = false := by simp
      have eq1 : ((K : Int) != (K : Int)) = false := by simp
      go_enter Try.func18, Try.ntmps18
      go_wp2
      go_loopw [5] (fun i wr => ∃ k : Nat, k ≤ K ∧ i = .int .i64 k ∧ Hid (∀ j, j < k → nodeS (N.getD j tn0) (M.getD j tn0)) ∧ Hid (Kpc w.heap.size w [(w.heap.size + 1, #[.int .i64 d, .slice A2 K c2], 24), (w.heap.size, #[.int .i64 d, .slice A K c], 24)] wr)) (fun i _ => K - (intOf i).toNat)
      case atStart => exact ⟨0, by omega, rfl, fun j hj => absurd hj (by omega), HX.out⟩
      case round =>
        obtain ⟨k, hk, rfl, HQ, HJ⟩ := hrel
        by_cases hlt : k < K
        · have hlg : (k : Int) < (K : Int) := by omega
          have HN := Lib.hid (HNO.out k hlt)
          have HL1 := Lib.hid (fun W h => (show Lies W B (N.getD k tn0).a (N.getD k tn0).co from by obtain ⟨_, _, _, _, g⟩ := HA.out W h k hlt; exact g))
          have HL2 := Lib.hid (fun W h => (show Lies W B (M.getD k tn0).a (M.getD k tn0).co from by obtain ⟨_, _, _, _, g⟩ := HA2.out W h k hlt; exact g))
          have HC1 := HCN.out k hlt
          have HC2 := HCM.out k hlt
          have KS := Lib.hid (fun W (h : Below w.heap.size w W) => ref_Same9 (N.getD k tn0).a (M.getD k tn0).a (N.getD k tn0).co (M.getD k tn0).co (N.getD k tn0).c (M.getD k tn0).c B (N.getD k tn0).lv (M.getD k tn0).lv W (HL1.out W h) (HL2.out W h) (Nat.le_trans hBW.out h.size) HC1 HC2)
          have HQ2 : Hid (nodeS (N.getD k tn0) (M.getD k tn0) → ∀ j, j < k + 1 → nodeS (N.getD j tn0) (M.getD j tn0)) := fun h j hj => by
            rcases Nat.lt_or_ge j k with g | g
            · exact HQ.out j g
            · rw [show j = k from by omega]; exact h
          obtain ⟨ad, eA, _, _, _⟩ := HA.out wr HJ.out.2.1 k hlt
          obtain ⟨ad2, eA2, _, _, _⟩ := HA2.out wr HJ.out.2.1 k hlt
          subst eA
          subst eA2
          have HCn := Lib.hid (fun W (h : Below w.heap.size w W) => (show W.cell? (ad.add (k * 5)) = some (.slice (N.getD k tn0).a (N.getD k tn0).co.length (N.getD k tn0).c) ∧ W.cell? ⟨(ad.add (k * 5)).block, (ad.add (k * 5)).off + 1, none⟩ = some (.int .i64 (N.getD k tn0).lv) ∧ W.cell? ⟨(ad.add (k * 5)).block, (ad.add (k * 5)).off + 2, none⟩ = some (.int .i64 (N.getD k tn0).lf) ∧ W.cell? ⟨(ad.add (k * 5)).block, (ad.add (k * 5)).off + 3, none⟩ = some (.int .i64 (N.getD k tn0).rt) ∧ W.cell? ⟨(ad.add (k * 5)).block, (ad.add (k * 5)).off + 4, none⟩ = some (.int .i64 (N.getD k tn0).sz) from by obtain ⟨_, e, _, g, _⟩ := HA.out W h k hlt; cases e; exact g))
          have HCm := Lib.hid (fun W (h : Below w.heap.size w W) => (show W.cell? (ad2.add (k * 5)) = some (.slice (M.getD k tn0).a (M.getD k tn0).co.length (M.getD k tn0).c) ∧ W.cell? ⟨(ad2.add (k * 5)).block, (ad2.add (k * 5)).off + 1, none⟩ = some (.int .i64 (M.getD k tn0).lv) ∧ W.cell? ⟨(ad2.add (k * 5)).block, (ad2.add (k * 5)).off + 2, none⟩ = some (.int .i64 (M.getD k tn0).lf) ∧ W.cell? ⟨(ad2.add (k * 5)).block, (ad2.add (k * 5)).off + 3, none⟩ = some (.int .i64 (M.getD k tn0).rt) ∧ W.cell? ⟨(ad2.add (k * 5)).block, (ad2.add (k * 5)).off + 4, none⟩ = some (.int .i64 (M.getD k tn0).sz) from by obtain ⟨_, e, _, g, _⟩ := HA2.out W h k hlt; cases e; exact g))
          clear HL1 HL2 HC1 HC2 HA HA2 HNO HCN HCM
          generalize N.getD k tn0 = n at *
          generalize M.getD k tn0 = m at *
          obtain ⟨na, nc, nco, nlv, nlf, nrt, nsz⟩ := n
          obtain ⟨ma, mc, mco, mlv, mlf, mrt, msz⟩ := m
          simp only at *
          have HNS : Hid (nodeS ⟨na, nc, nco, nlv, nlf, nrt, nsz⟩ ⟨ma, mc, mco, mlv, mlf, mrt, msz⟩ ↔ samC nco nlv mco mlv = true ∧ nlf = mlf ∧ nrt = mrt ∧ nsz = msz) := Iff.rfl
          have HN := Lib.hid (fun (h : ¬ (samC nco nlv mco mlv = true ∧ nlf = mlf ∧ nrt = mrt ∧ nsz = msz)) => HN.out (fun g => h (HNS.out.1 g)))
          have HQ2 := Lib.hid (fun (h : samC nco nlv mco mlv = true ∧ nlf = mlf ∧ nrt = mrt ∧ nsz = msz) => HQ2.out (HNS.out.2 h))
          generalize samC nco nlv mco mlv = sb at *
          generalize nco.length = L at *
          generalize mco.length = L2 at *
          obtain ⟨v0, v1⟩ := box_cut HJ.out.head
          obtain ⟨y0, y1⟩ := box_cut HJ.out.tail.head
          go_upto_region 6 with fail
          go_cut [6, 7] from 22 to 65 (fun s6 s7 wc => ∃ gx gy : Nat, s6 = .pointer (some ⟨gx, 0, none⟩) ∧ s7 = .pointer (some ⟨gy, 0, none⟩) ∧ Hid (Kpc w.heap.size w [(gy, #[.slice ma L2 mc, .int .i64 mlv, .int .i64 mlf, .int .i64 mrt, .int .i64 msz], 39), (gx, #[.slice na L nc, .int .i64 nlv, .int .i64 nlf, .int .i64 nrt, .int .i64 nsz], 39), (w.heap.size + 1, #[.int .i64 d, .slice (some ad2) K c2], 24), (w.heap.size, #[.int .i64 d, .slice (some ad) K c], 24)] wc))
          case first =>
            obtain ⟨c0, c1, c2', c3, c4⟩ := HCn.out _ HJ.out.2.1
            obtain ⟨d0, d1, d2, d3, d4⟩ := HCm.out _ HJ.out.2.1
            have JZ := Lib.hid (HJ.out.alloc #[.slice none 0 0, .int .i64 0, .int .i64 0, .int .i64 0, .int .i64 0] 39)
            obtain ⟨_, v1Z⟩ := box_cut JZ.out.tail.head
            obtain ⟨_, y1Z⟩ := box_cut JZ.out.tail.tail.head
            obtain ⟨c0Z, c1Z, c2Z, c3Z, c4Z⟩ := HCn.out _ JZ.out.2.1
            obtain ⟨d0Z, d1Z, d2Z, d3Z, d4Z⟩ := HCm.out _ JZ.out.2.1
            have JZZ := Lib.hid (JZ.out.alloc #[.slice none 0 0, .int .i64 0, .int .i64 0, .int .i64 0, .int .i64 0] 39)
            obtain ⟨_, v1ZZ⟩ := box_cut JZZ.out.tail.tail.head
            obtain ⟨_, y1ZZ⟩ := box_cut JZZ.out.tail.tail.tail.head
            obtain ⟨c0ZZ, c1ZZ, c2ZZ, c3ZZ, c4ZZ⟩ := HCn.out _ JZZ.out.2.1
            obtain ⟨d0ZZ, d1ZZ, d2ZZ, d3ZZ, d4ZZ⟩ := HCm.out _ JZZ.out.2.1
            have JZL := Lib.hid (JZ.out.alloc #[.slice na L nc, .int .i64 nlv, .int .i64 nlf, .int .i64 nrt, .int .i64 nsz] 39)
            obtain ⟨_, v1ZL⟩ := box_cut JZL.out.tail.tail.head
            obtain ⟨_, y1ZL⟩ := box_cut JZL.out.tail.tail.tail.head
            obtain ⟨c0ZL, c1ZL, c2ZL, c3ZL, c4ZL⟩ := HCn.out _ JZL.out.2.1
            obtain ⟨d0ZL, d1ZL, d2ZL, d3ZL, d4ZL⟩ := HCm.out _ JZL.out.2.1
            have JZR := Lib.hid (JZ.out.alloc #[.slice ma L2 mc, .int .i64 mlv, .int .i64 mlf, .int .i64 mrt, .int .i64 msz] 39)
            obtain ⟨_, v1ZR⟩ := box_cut JZR.out.tail.tail.head
            obtain ⟨_, y1ZR⟩ := box_cut JZR.out.tail.tail.tail.head
            obtain ⟨c0ZR, c1ZR, c2ZR, c3ZR, c4ZR⟩ := HCn.out _ JZR.out.2.1
            obtain ⟨d0ZR, d1ZR, d2ZR, d3ZR, d4ZR⟩ := HCm.out _ JZR.out.2.1
            have JL := Lib.hid (HJ.out.alloc #[.slice na L nc, .int .i64 nlv, .int .i64 nlf, .int .i64 nrt, .int .i64 nsz] 39)
            obtain ⟨_, v1L⟩ := box_cut JL.out.tail.head
            obtain ⟨_, y1L⟩ := box_cut JL.out.tail.tail.head
            obtain ⟨c0L, c1L, c2L, c3L, c4L⟩ := HCn.out _ JL.out.2.1
            obtain ⟨d0L, d1L, d2L, d3L, d4L⟩ := HCm.out _ JL.out.2.1
            have JLZ := Lib.hid (JL.out.alloc #[.slice none 0 0, .int .i64 0, .int .i64 0, .int .i64 0, .int .i64 0] 39)
            obtain ⟨_, v1LZ⟩ := box_cut JLZ.out.tail.tail.head
            obtain ⟨_, y1LZ⟩ := box_cut JLZ.out.tail.tail.tail.head
            obtain ⟨c0LZ, c1LZ, c2LZ, c3LZ, c4LZ⟩ := HCn.out _ JLZ.out.2.1
            obtain ⟨d0LZ, d1LZ, d2LZ, d3LZ, d4LZ⟩ := HCm.out _ JLZ.out.2.1
            have JLR := Lib.hid (JL.out.alloc #[.slice ma L2 mc, .int .i64 mlv, .int .i64 mlf, .int .i64 mrt, .int .i64 msz] 39)
            obtain ⟨_, v1LR⟩ := box_cut JLR.out.tail.tail.head
            obtain ⟨_, y1LR⟩ := box_cut JLR.out.tail.tail.tail.head
            obtain ⟨c0LR, c1LR, c2LR, c3LR, c4LR⟩ := HCn.out _ JLR.out.2.1
            obtain ⟨d0LR, d1LR, d2LR, d3LR, d4LR⟩ := HCm.out _ JLR.out.2.1
            have JR := Lib.hid (HJ.out.alloc #[.slice ma L2 mc, .int .i64 mlv, .int .i64 mlf, .int .i64 mrt, .int .i64 msz] 39)
            obtain ⟨_, v1R⟩ := box_cut JR.out.tail.head
            obtain ⟨_, y1R⟩ := box_cut JR.out.tail.tail.head
            obtain ⟨c0R, c1R, c2R, c3R, c4R⟩ := HCn.out _ JR.out.2.1
            obtain ⟨d0R, d1R, d2R, d3R, d4R⟩ := HCm.out _ JR.out.2.1
            have JRZ := Lib.hid (JR.out.alloc #[.slice none 0 0, .int .i64 0, .int .i64 0, .int .i64 0, .int .i64 0] 39)
            obtain ⟨_, v1RZ⟩ := box_cut JRZ.out.tail.tail.head
            obtain ⟨_, y1RZ⟩ := box_cut JRZ.out.tail.tail.tail.head
            obtain ⟨c0RZ, c1RZ, c2RZ, c3RZ, c4RZ⟩ := HCn.out _ JRZ.out.2.1
            obtain ⟨d0RZ, d1RZ, d2RZ, d3RZ, d4RZ⟩ := HCm.out _ JRZ.out.2.1
            have JRL := Lib.hid (JR.out.alloc #[.slice na L nc, .int .i64 nlv, .int .i64 nlf, .int .i64 nrt, .int .i64 nsz] 39)
            obtain ⟨_, v1RL⟩ := box_cut JRL.out.tail.tail.head
            obtain ⟨_, y1RL⟩ := box_cut JRL.out.tail.tail.tail.head
            obtain ⟨c0RL, c1RL, c2RL, c3RL, c4RL⟩ := HCn.out _ JRL.out.2.1
            obtain ⟨d0RL, d1RL, d2RL, d3RL, d4RL⟩ := HCm.out _ JRL.out.2.1
            go_region
            · have J := Lib.hid (JLR.out.drew)
              rw [alloc_size'] at J
              go_wp2_with fail
              go_meet
              exact ⟨_, _, rfl, rfl, J⟩
            · have J := Lib.hid (JRL.out.drew.swap)
              rw [alloc_size'] at J
              go_wp2_with fail
              go_meet
              exact ⟨_, _, rfl, rfl, J⟩
          case rest =>
            clear v0 v1 y0 y1 HCn HCm
            obtain ⟨gx, gy, rfl, rfl, JM⟩ := hcut
            obtain ⟨m0, m1, m2, m3, m4⟩ := box5' JM.out.head
            obtain ⟨z0, z1, z2, z3, z4⟩ := box5' JM.out.tail.head
            by_cases k1 : nlf = mlf
            · by_cases k2 : nrt = mrt
              · by_cases k3 : nsz = msz
                · have f1 : (nlf != mlf) = false := by simpa using k1
                  have f2 : (nrt != mrt) = false := by simpa using k2
                  have f3 : (nsz != msz) = false := by simpa using k3
                  cases sb
                  · have HR := Lib.hid (HN.out (fun g => by cases g.1))
                    clear HN HQ2
                    subst k1
                    subst k2
                    subst k3
                    go_wp2_with fail
                    refine (KS.out _ JM.out.2.1).mono ?_
                    rintro r w1 ⟨rfl, b1⟩
                    have J1 := Lib.hid (JM.out.below b1)
                    clear b1
                    go_wp2
                    go_ret
                    rw [HR.out]
                    exact ⟨rfl, J1.out.2.1⟩
                  · have HQ3 := Lib.hid (HQ2.out ⟨rfl, k1, k2, k3⟩)
                    clear HN HQ2
                    subst k1
                    subst k2
                    subst k3
                    go_wp2_with fail
                    refine (KS.out _ JM.out.2.1).mono ?_
                    rintro r w1 ⟨rfl, b1⟩
                    have J1 := Lib.hid (JM.out.below b1)
                    clear b1 m0 m1 m2 m3 m4 z0 z1 z2 z3 z4
                    obtain ⟨v0, v1⟩ := box_cut J1.out.tail.tail.head
                    obtain ⟨y0, y1⟩ := box_cut J1.out.tail.tail.tail.head
                    go_wp2
                    refine ⟨⟨k + 1, by omega, by go_num, HQ3.out, J1.out.tail.tail⟩, by first | (simp [intOf]; done) | (simp [intOf]; omega)⟩
                · have HR := Lib.hid (HN.out (fun g => k3 g.2.2.2))
                  have f3 : (nsz != msz) = true := by simpa using k3
                  subst k1
                  subst k2
                  go_wp2
                  go_ret
                  rw [HR.out]
                  exact ⟨rfl, JM.out.2.1⟩
              · have HR := Lib.hid (HN.out (fun g => k2 g.2.2.1))
                have f2 : (nrt != mrt) = true := by simpa using k2
                subst k1
                go_wp2
                go_ret
                rw [HR.out]
                exact ⟨rfl, JM.out.2.1⟩
            · have HR := Lib.hid (HN.out (fun g => k1 g.2.1))
              have f1 : (nlf != mlf) = true := by simpa using k1
              go_wp2
              go_ret
              rw [HR.out]
              exact ⟨rfl, JM.out.2.1⟩
        · obtain rfl : k = K := by omega
          have HR := Lib.hid (HY.out HQ.out)
          obtain ⟨v0, v1⟩ := box_cut HJ.out.head
          obtain ⟨y0, y1⟩ := box_cut HJ.out.tail.head
          go_wp2
          go_ret
          rw [HR.out]
          exact ⟨rfl, HJ.out.2.1⟩
    · have hR : samT d N e M = false := decide_eq_false (fun h => h2 h.2.1)
      rw [hR]
      subst h1
      clear hA hA2 HNO HYES hR hN hM
      generalize N.length = K at *
      generalize M.length = Q at *
      have eq0 : (d != d) = false := by simp
      have eq1 : ((K : Int) != (Q : Int)) = true := by simp; omega
      go_enter Try.func18, Try.ntmps18
      go_wp2
      go_ret
      exact ⟨rfl, HX.out.2.1⟩
  · have hR : samT d N e M = false := decide_eq_false (fun h => h1 h.1)
    rw [hR]
    clear hA hA2 HNO HYES hR hN hM
    generalize N.length = K at *
    generalize M.length = Q at *
    have eq0 : (d != e) = true := by simpa using h1
    go_enter Try.func18, Try.ntmps18
    go_wp2
    go_ret
    exact ⟨rfl, HX.out.2.1⟩
end Go.Proofs.Ytkkeejbgaaodeaa
