import Derived.Test.YtkkeejbgaaodeaaTreeA

/-! Layer 10: Same. -/
namespace Go.Proofs.Ytkkeejbgaaodeaa
open Go.RowKit
set_option linter.unusedVariables false
set_option linter.unusedSimpArgs false

def nodeS (x y : TN) : Prop := samC x.co x.lv y.co y.lv = true ∧ x.lf = y.lf ∧ x.rt = y.rt ∧ x.sz = y.sz
instance (x y : TN) : Decidable (nodeS x y) := by unfold nodeS; exact inferInstance
def samT (d : Int) (N : List TN) (e : Int) (M : List TN) : Bool := decide (d = e ∧ N.length = M.length ∧ ∀ j, j < N.length → nodeS (N.getD j tn0) (M.getD j tn0))
theorem box5' {w : World} {g : Nat} {a b c d e : Value} {t : TypeId} (h : Box w g #[a, b, c, d, e] t) : w.cell? ⟨g, 0, none⟩ = some a ∧ w.cell? ⟨g, 1, none⟩ = some b ∧ w.cell? ⟨g, 2, none⟩ = some c ∧ w.cell? ⟨g, 3, none⟩ = some d ∧ w.cell? ⟨g, 4, none⟩ = some e :=
  ⟨h.cell 0, h.cell 1, h.cell 2, h.cell 3, h.cell 4⟩
set_option maxRecDepth 100000 in
set_option maxHeartbeats 8000000 in
theorem tree_Same (d e : Int) (N M : List TN) (A A2 : Option Addr) (c c2 B : Nat) (w : World) (hA : LiesT w B A N) (hA2 : LiesT w B A2 M) (hB : B ≤ w.heap.size) (hl : (N.length : Int) ≤ 100000) (hm : (M.length : Int) ≤ 9223372036854775807) (hN : ∀ n ∈ N, (n.co.length : Int) ≤ 9223372036854775807) (hM : ∀ n ∈ M, (n.co.length : Int) ≤ 9223372036854775807) :
    Calls Try.prog 17 #[.agg #[.int .i64 d, .slice A N.length c], .agg #[.int .i64 e, .slice A2 M.length c2]] w fun r w' => r = .returned (.bool (samT d N e M)) ∧ Below w.heap.size w w' := by
  have HX := Lib.hid (((Kpc.start w).alloc #[.int .i64 d, .slice A N.length c] 24).alloc #[.int .i64 e, .slice A2 M.length c2] 24)
  rw [alloc_size'] at HX
  obtain ⟨v0, v1⟩ := box_cut HX.out.head
  obtain ⟨y0, y1⟩ := box_cut HX.out.tail.head
  have HNO : Hid (∀ k, k < N.length → ¬ nodeS (N.getD k tn0) (M.getD k tn0) → samT d N e M = false) := fun k hk h => decide_eq_false (fun g => h (g.2.2 k hk))
  have HYES : Hid (d = e → N.length = M.length → (∀ j, j < N.length → nodeS (N.getD j tn0) (M.getD j tn0)) → samT d N e M = true) := fun h1 h2 h3 => decide_eq_true ⟨h1, h2, h3⟩
  by_cases h1 : d = e
  · by_cases h2 : N.length = M.length
    · subst h1
      have HA := Lib.hid (fun W (h : Below w.heap.size w W) k (hk : k < N.length) => (hA.below (h.mono hB)).at hk)
      have HA2 := Lib.hid (fun W (h : Below w.heap.size w W) k (hk : k < N.length) => (hA2.below (h.mono hB)).at (k := k) (by omega))
      have HCN := Lib.hid (fun k (hk : k < N.length) => hN _ (mem_tn hk))
      have HCM := Lib.hid (fun k (hk : k < N.length) => hM _ (mem_tn (k := k) (by omega)))
      have HY := Lib.hid (HYES.out rfl h2)
      generalize samT d N d M = R at *
      rw [← h2] at HX v1 ⊢
      have hBW := Lib.hid hB
      clear hA hA2 hN hM hm HYES h2
      generalize N.length = K at *
      have eq0 : (d != d) = false := by simp
      have eq1 : ((K : Int) != (K : Int)) = false := by simp
      go_enter Try.func17, Try.ntmps17
      go_wp2
      go_loopw [25] (fun i wr => ∃ k : Nat, k ≤ K ∧ i = .int .i64 k ∧ Hid (∀ j, j < k → nodeS (N.getD j tn0) (M.getD j tn0)) ∧ Hid (Kpc w.heap.size w [(w.heap.size + 1, #[.int .i64 d, .slice A2 K c2], 24), (w.heap.size, #[.int .i64 d, .slice A K c], 24)] wr)) (fun i _ => K - (intOf i).toNat)
      case atStart => exact ⟨0, by omega, rfl, fun j hj => absurd hj (by omega), HX.out⟩
      case round =>
        obtain ⟨k, hk, rfl, HQ, HJ⟩ := hrel
        by_cases hlt : k < K
        · have hlg : (k : Int) < (K : Int) := by omega
          have HN := Lib.hid (HNO.out k hlt)
          have HL1 := Lib.hid (fun W h => (show Lies W B (N.getD k tn0).a (N.getD k tn0).co from by obtain ⟨_, _, _, _, g⟩ := HA.out W h k hlt; exact g))
          have HL2 := Lib.hid (fun W h => (show Lies W B (M.getD k tn0).a (M.getD k tn0).co from by obtain ⟨_, _, _, _, g⟩ := HA2.out W h k hlt; exact g))
          have HC1 := HCN.out k hlt
          have HC2 := HCM.out k hlt
          have KS := Lib.hid (fun W (h : Below w.heap.size w W) => cut_Same (N.getD k tn0).a (M.getD k tn0).a (N.getD k tn0).co (M.getD k tn0).co (N.getD k tn0).c (M.getD k tn0).c B (N.getD k tn0).lv (M.getD k tn0).lv W (HL1.out W h) (HL2.out W h) (Nat.le_trans hBW.out h.size) HC1 HC2)
          have HQ2 : Hid (nodeS (N.getD k tn0) (M.getD k tn0) → ∀ j, j < k + 1 → nodeS (N.getD j tn0) (M.getD j tn0)) := fun h j hj => by
            rcases Nat.lt_or_ge j k with g | g
            · exact HQ.out j g
            · rw [show j = k from by omega]; exact h
          obtain ⟨ad, rfl, _, ⟨c0, c1, c2', c3, c4⟩, _⟩ := HA.out wr HJ.out.2.1 k hlt
          have HJN := Lib.hid (HJ.out.alloc #[.slice (N.getD k tn0).a (N.getD k tn0).co.length (N.getD k tn0).c, .int .i64 (N.getD k tn0).lv, .int .i64 (N.getD k tn0).lf, .int .i64 (N.getD k tn0).rt, .int .i64 (N.getD k tn0).sz] 39)
          obtain ⟨ad2, rfl, _, ⟨d0, d1, d2, d3, d4⟩, _⟩ := HA2.out _ HJN.out.2.1 k hlt
          clear HL1 HL2 HC1 HC2
          generalize N.getD k tn0 = n at *
          generalize M.getD k tn0 = m at *
          obtain ⟨na, nc, nco, nlv, nlf, nrt, nsz⟩ := n
          obtain ⟨ma, mc, mco, mlv, mlf, mrt, msz⟩ := m
          simp only at *
          have HNS : Hid (nodeS ⟨na, nc, nco, nlv, nlf, nrt, nsz⟩ ⟨ma, mc, mco, mlv, mlf, mrt, msz⟩ ↔ samC nco nlv mco mlv = true ∧ nlf = mlf ∧ nrt = mrt ∧ nsz = msz) := Iff.rfl
          have HN := Lib.hid (fun (h : ¬ (samC nco nlv mco mlv = true ∧ nlf = mlf ∧ nrt = mrt ∧ nsz = msz)) => HN.out (fun g => h (HNS.out.1 g)))
          have HQ2 := Lib.hid (fun (h : samC nco nlv mco mlv = true ∧ nlf = mlf ∧ nrt = mrt ∧ nsz = msz) => HQ2.out (HNS.out.2 h))
          generalize samC nco nlv mco mlv = sb at *
          generalize nco.length = L at *
          generalize mco.length = L2 at *
          have JM := Lib.hid (HJN.out.alloc #[.slice ma L2 mc, .int .i64 mlv, .int .i64 mlf, .int .i64 mrt, .int .i64 msz] 39)
          rw [alloc_size'] at JM
          obtain ⟨m0, m1, m2, m3, m4⟩ := box5' JM.out.head
          obtain ⟨z0, z1, z2, z3, z4⟩ := box5' JM.out.tail.head
          obtain ⟨v0, v1⟩ := box_cut HJ.out.head
          obtain ⟨y0, y1⟩ := box_cut HJ.out.tail.head
          obtain ⟨vn0, vn1⟩ := box_cut HJN.out.tail.head
          cases sb
          · have HR := Lib.hid (HN.out (fun g => by cases g.1))
            go_wp2_with fail
            refine (KS.out _ JM.out.2.1).mono ?_
            rintro r w1 ⟨rfl, b1⟩
            have J1 := Lib.hid (JM.out.below b1)
            obtain ⟨m0, m1, m2, m3, m4⟩ := box5' J1.out.head
            obtain ⟨z0, z1, z2, z3, z4⟩ := box5' J1.out.tail.head
            clear b1
            go_wp2
            go_ret
            rw [HR.out]
            exact ⟨rfl, J1.out.2.1⟩
          · by_cases k1 : nlf = mlf
            · by_cases k2 : nrt = mrt
              · by_cases k3 : nsz = msz
                · have HQ3 := Lib.hid (HQ2.out ⟨rfl, k1, k2, k3⟩)
                  have f1 : (nlf != mlf) = false := by simpa using k1
                  have f2 : (nrt != mrt) = false := by simpa using k2
                  have f3 : (nsz != msz) = false := by simpa using k3
                  clear HN
                  subst k1
                  subst k2
                  subst k3
                  go_wp2_with fail
                  refine (KS.out _ JM.out.2.1).mono ?_
                  rintro r w1 ⟨rfl, b1⟩
                  have J1 := Lib.hid (JM.out.below b1)
                  obtain ⟨m0, m1, m2, m3, m4⟩ := box5' J1.out.head
                  obtain ⟨z0, z1, z2, z3, z4⟩ := box5' J1.out.tail.head
                  clear b1
                  go_wp2
                  refine ⟨⟨k + 1, by omega, by go_num, HQ3.out, J1.out.tail.tail⟩, by first | (simp [intOf]; done) | (simp [intOf]; omega)⟩
                · have HR := Lib.hid (HN.out (fun g => k3 g.2.2.2))
                  have f3 : (nsz != msz) = true := by simpa using k3
                  subst k1
                  subst k2
                  go_wp2_with fail
                  refine (KS.out _ JM.out.2.1).mono ?_
                  rintro r w1 ⟨rfl, b1⟩
                  have J1 := Lib.hid (JM.out.below b1)
                  obtain ⟨m0, m1, m2, m3, m4⟩ := box5' J1.out.head
                  obtain ⟨z0, z1, z2, z3, z4⟩ := box5' J1.out.tail.head
                  clear b1
                  go_wp2
                  go_ret
                  rw [HR.out]
                  exact ⟨rfl, J1.out.2.1⟩
              · have HR := Lib.hid (HN.out (fun g => k2 g.2.2.1))
                have f2 : (nrt != mrt) = true := by simpa using k2
                subst k1
                go_wp2_with fail
                refine (KS.out _ JM.out.2.1).mono ?_
                rintro r w1 ⟨rfl, b1⟩
                have J1 := Lib.hid (JM.out.below b1)
                obtain ⟨m0, m1, m2, m3, m4⟩ := box5' J1.out.head
                obtain ⟨z0, z1, z2, z3, z4⟩ := box5' J1.out.tail.head
                clear b1
                go_wp2
                go_ret
                rw [HR.out]
                exact ⟨rfl, J1.out.2.1⟩
            · have HR := Lib.hid (HN.out (fun g => k1 g.2.1))
              have f1 : (nlf != mlf) = true := by simpa using k1
              go_wp2_with fail
              refine (KS.out _ JM.out.2.1).mono ?_
              rintro r w1 ⟨rfl, b1⟩
              have J1 := Lib.hid (JM.out.below b1)
              obtain ⟨m0, m1, m2, m3, m4⟩ := box5' J1.out.head
              obtain ⟨z0, z1, z2, z3, z4⟩ := box5' J1.out.tail.head
              clear b1
              go_wp2
              go_ret
              rw [HR.out]
              exact ⟨rfl, J1.out.2.1⟩
        · obtain rfl : k = K := by omega
          have HR := Lib.hid (HY.out HQ.out)
          go_wp2
          go_ret
          rw [HR.out]
          exact ⟨rfl, HJ.out.2.1⟩
    · have hR : samT d N e M = false := decide_eq_false (fun h => h2 h.2.1)
      rw [hR]
      subst h1
      clear hA hA2 HNO HYES hR hN hM
      generalize N.length = K at *
      generalize M.length = Q at *
      have eq0 : (d != d) = false := by simp
      have eq1 : ((K : Int) != (Q : Int)) = true := by simp; omega
      go_enter Try.func17, Try.ntmps17
      go_wp2
      go_ret
      exact ⟨rfl, HX.out.2.1⟩
  · have hR : samT d N e M = false := decide_eq_false (fun h => h1 h.1)
    rw [hR]
    clear hA hA2 HNO HYES hR hN hM
    generalize N.length = K at *
    generalize M.length = Q at *
    have eq0 : (d != e) = true := by simpa using h1
    go_enter Try.func17, Try.ntmps17
    go_wp2
    go_ret
    exact ⟨rfl, HX.out.2.1⟩
end Go.Proofs.Ytkkeejbgaaodeaa
