import Derived.Test.YteenemdiokajbaaTreeA

/-! Layer 10: the reference's End. -/
namespace Go.Proofs.Yteenemdiokajbaa
open Go.RowKit
set_option linter.unusedVariables false
set_option linter.unusedSimpArgs false

theorem Sub.most {N : List TN} {dim : Int} {i e d : Nat} (h : Sub N dim i e d) : (N.getD i tn0).sz ≤ 64 * ((e : Int) - i) := by
  induction h with
  | leaf hi hl => have := hl.2.2.2.2; omega
  | inner hi hl hr hc h1 h2 hs ih1 ih2 => omega
theorem endR_out {N : List TN} {dim : Int} {f i : Nat} (h : ¬ i < N.length) : endR N dim (f + 1) i = -1 := by rw [endR, if_pos h]
theorem endR_lf {N : List TN} {dim : Int} {f i : Nat} (h : i < N.length) (h2 : (N.getD i tn0).lf = 0 ∧ (N.getD i tn0).rt = 0) : endR N dim (f + 1) i = if leafN (N.getD i tn0) then (i : Int) + 1 else -1 := by rw [endR, if_neg (by omega), if_pos h2]
theorem endR_bad {N : List TN} {dim : Int} {f i : Nat} (h : i < N.length) (h2 : ¬ ((N.getD i tn0).lf = 0 ∧ (N.getD i tn0).rt = 0)) (h3 : ¬ ((N.getD i tn0).lf = (i : Int) + 1 ∧ isC (N.getD i tn0).co (N.getD i tn0).lv dim = true)) : endR N dim (f + 1) i = -1 := by
  rw [endR, if_neg (by omega), if_neg h2, if_pos h3]
theorem endR_in {N : List TN} {dim : Int} {f i : Nat} (h : i < N.length) (h2 : ¬ ((N.getD i tn0).lf = 0 ∧ (N.getD i tn0).rt = 0)) (h3 : (N.getD i tn0).lf = (i : Int) + 1 ∧ isC (N.getD i tn0).co (N.getD i tn0).lv dim = true) :
    endR N dim (f + 1) i = if endR N dim f (i + 1) < 0 ∨ ¬ (N.getD i tn0).rt = endR N dim f (i + 1) then -1
      else if endR N dim f (endR N dim f (i + 1)).toNat < 0 ∨ ¬ (N.getD i tn0).sz = (N.getD (i + 1) tn0).sz + (N.getD (endR N dim f (i + 1)).toNat tn0).sz then -1
      else endR N dim f (endR N dim f (i + 1)).toNat := by
  rw [endR, if_neg (by omega), if_neg h2, if_neg (fun g => g h3)]
/-- a subtree's root is there, and its size is not great -/
theorem endR_at {N : List TN} {dim : Int} {f i : Nat} (hl : N.length ≤ 100000) (h : 0 ≤ endR N dim f i) : i < N.length ∧ (endR N dim f i ≤ N.length) ∧ 1 ≤ (N.getD i tn0).sz ∧ (N.getD i tn0).sz ≤ 6400000 := by
  obtain ⟨d, _, s⟩ := endR_sub f i h
  have h1 := s.lt
  have h2 := s.most
  have h3 := s.count
  omega
/-- a node's block -/
theorem box5 {w : World} {g : Nat} {a b c d e : Value} {t : TypeId} (h : Box w g #[a, b, c, d, e] t) : w.cell? ⟨g, 0, none⟩ = some a ∧ w.cell? ⟨g, 1, none⟩ = some b ∧ w.cell? ⟨g, 2, none⟩ = some c ∧ w.cell? ⟨g, 3, none⟩ = some d ∧ w.cell? ⟨g, 4, none⟩ = some e :=
  ⟨h.cell 0, h.cell 1, h.cell 2, h.cell 3, h.cell 4⟩
set_option maxRecDepth 100000 in
set_option maxHeartbeats 8000000 in
theorem ref_end (N : List TN) (dim : Int) (A : Option Addr) (c B : Nat) (hl : N.length ≤ 100000) : ∀ (f i : Nat), f ≤ 1000 → ∀ (w : World), LiesT w B A N → B ≤ w.heap.size →
    Calls Try.prog 45 #[.agg #[.int .i64 dim, .slice A N.length c], .int .i64 i, .int .i64 ((f : Int) - 1)] w fun e w' => e = .returned (.int .i64 (endR N dim f i)) ∧ Below w.heap.size w w'
  | 0, i, hf, w, hA, hB => by
    rw [show endR N dim 0 i = -1 from rfl]
    generalize N.length = M at *
    have HX := Lib.hid ((Kpc.start w).alloc #[.int .i64 dim, .slice A M c] 24)
    obtain ⟨y0, y1⟩ := box_cut HX.out.head
    by_cases hi : i < M
    · have hg : (i : Int) < (M : Int) := by omega
      go_enter Try.func45, Try.ntmps45
      go_wp2
      go_ret
      exact ⟨rfl, HX.out.2.1⟩
    · have hg : ¬ (i : Int) < (M : Int) := by omega
      go_enter Try.func45, Try.ntmps45
      go_wp2
      go_ret
      exact ⟨rfl, HX.out.2.1⟩
  | f + 1, i, hf, w, hA, hB => by
    have HX := Lib.hid ((Kpc.start w).alloc #[.int .i64 dim, .slice A N.length c] 24)
    obtain ⟨y0, y1⟩ := box_cut HX.out.head
    by_cases hi : i < N.length
    · rw [show (((f + 1 : Nat) : Int) - 1) = (f : Int) from by omega]
      have IH1 : Hid (∀ W (h : Below w.heap.size w W), Calls Try.prog 45 #[.agg #[.int .i64 dim, .slice A N.length c], .int .i64 ((i : Int) + 1), .int .i64 ((f : Int) - 1)] W fun e w' => e = .returned (.int .i64 (endR N dim f (i + 1))) ∧ Below W.heap.size W w') := fun W h => ref_end N dim A c B hl f (i + 1) (by omega) W (hA.below (h.mono hB)) (Nat.le_trans hB h.size)
      have IH2 : Hid (∀ (q : Nat) W (h : Below w.heap.size w W), Calls Try.prog 45 #[.agg #[.int .i64 dim, .slice A N.length c], .int .i64 q, .int .i64 ((f : Int) - 1)] W fun e w' => e = .returned (.int .i64 (endR N dim f q)) ∧ Below W.heap.size W w') := fun q W h => ref_end N dim A c B hl f q (by omega) W (hA.below (h.mono hB)) (Nat.le_trans hB h.size)
      obtain ⟨ad, e0, hab, _, hli⟩ := hA.at hi
      obtain ⟨ad1, e1, _, ⟨c0, c1, c2, c3, c4⟩, _⟩ := (hA.below (HX.out.2.1.mono hB)).at hi
      cases e0
      cases e1
      have hf0 : ¬ (f : Int) < 0 := by omega
      have HS4 : Hid (∀ W (h : Below w.heap.size w W) k (hk : k < N.length), W.cell? ⟨(ad.add (k * 5)).block, (ad.add (k * 5)).off + 4, none⟩ = some (.int .i64 (N.getD k tn0).sz)) := fun W h k hk => by
        obtain ⟨ad', e, _, ⟨_, _, _, _, d4⟩, _⟩ := (hA.below (h.mono hB)).at hk
        cases e; exact d4
      have KI := Lib.hid (fun W (h : Below w.heap.size w W) => ref_Is9 (N.getD i tn0).a (N.getD i tn0).co (N.getD i tn0).c B (N.getD i tn0).lv dim W (hli.below (h.mono hB)) (Nat.le_trans hB h.size))
      have HV1 := Lib.hid (fun h2 => endR_lf (f := f) (dim := dim) hi h2)
      have HV2 := Lib.hid (fun h2 h3 => endR_bad (f := f) (dim := dim) hi h2 h3)
      have HV3 := Lib.hid (fun h2 h3 => endR_in (f := f) (dim := dim) hi h2 h3)
      have HAT := Lib.hid (fun j => endR_at (N := N) (dim := dim) (f := f) (i := j) hl)
      generalize endR N dim (f + 1) i = R at *
      generalize N.getD i tn0 = n at *
      obtain ⟨na, nc, nco, nlv, nlf, nrt, nsz⟩ := n
      simp only at c0 c1 c2 c3 c4 KI HV1 HV2 HV3
      have HLF : Hid (leafN ⟨na, nc, nco, nlv, nlf, nrt, nsz⟩ ↔ nlf = 0 ∧ nrt = 0 ∧ nco.length = 0 ∧ nlv = 0 ∧ 1 ≤ nsz ∧ nsz ≤ 64) := Iff.rfl
      clear hA hli
      generalize nco.length = L at *
      generalize hM : N.length = M at *
      have HM := Lib.hid hM
      clear hM
      have HY := Lib.hid (HX.out.alloc #[.slice na L nc, .int .i64 nlv, .int .i64 nlf, .int .i64 nrt, .int .i64 nsz] 81)
      rw [alloc_size'] at HY
      obtain ⟨z0, z1, z2, z3, z4⟩ := box5 HY.out.head
      have hg : (i : Int) < (M : Int) := by omega
      by_cases h0 : nlf = 0 ∧ nrt = 0
      · obtain ⟨rfl, rfl⟩ := h0
        have hR := HV1.out ⟨rfl, rfl⟩
        by_cases g1 : L = 0 ∧ nlv = 0 ∧ 1 ≤ nsz ∧ nsz ≤ 64
        · rw [if_pos (HLF.out.2 ⟨rfl, rfl, g1⟩)] at hR
          obtain ⟨rfl, rfl, k1, k2⟩ := g1
          have HR := Lib.hid hR
          clear hR
          go_enter Try.func45, Try.ntmps45
          go_wp2
          go_ret
          rw [HR.out]
          exact ⟨rfl, HY.out.2.1⟩
        · rw [if_neg (fun h => g1 (HLF.out.1 h).2.2)] at hR
          have HR := Lib.hid hR
          clear hR
          by_cases k1 : L = 0
          · by_cases k2 : nlv = 0
            · by_cases k3 : 1 ≤ nsz
              · have k4 : ¬ nsz ≤ 64 := fun k => g1 ⟨k1, k2, k3, k⟩
                subst k1
                subst k2
                clear g1
                go_enter Try.func45, Try.ntmps45
                go_wp2
                go_ret
                rw [HR.out]
                exact ⟨rfl, HY.out.2.1⟩
              · subst k1
                subst k2
                clear g1
                go_enter Try.func45, Try.ntmps45
                go_wp2
                go_ret
                rw [HR.out]
                exact ⟨rfl, HY.out.2.1⟩
            · subst k1
              clear g1
              have k5 : (nlv != 0) = true := by simpa using k2
              go_enter Try.func45, Try.ntmps45
              go_wp2
              go_ret
              rw [HR.out]
              exact ⟨rfl, HY.out.2.1⟩
          · have k5 : (0 : Int) < (L : Int) := by omega
            clear g1
            go_enter Try.func45, Try.ntmps45
            go_wp2
            go_ret
            rw [HR.out]
            exact ⟨rfl, HY.out.2.1⟩
      · have HV2 := Lib.hid (HV2.out h0)
        have HV3 := Lib.hid (HV3.out h0)
        clear HV1 HLF
        by_cases h1 : nlf = (i : Int) + 1
        · subst h1
          have hl0 : ((i : Int) + 1 == 0) = false := by rw [beq_eq_false_iff_ne]; omega
          have hl1 : ¬ (i : Int) + 1 = 0 := by omega
          by_cases h2 : isC nco nlv dim = true
          · have hR := HV3.out ⟨rfl, h2⟩
            have HA1 := Lib.hid (HAT.out (i + 1))
            rw [h2] at KI
            clear HV2 HV3 h2 h0
            generalize endR N dim f (i + 1) = m1 at *
            by_cases k1 : m1 < 0
            · rw [if_pos (.inl k1)] at hR
              have HR := Lib.hid hR
              clear hR
              go_enter Try.func45, Try.ntmps45
              go_wp2_with fail
              refine (KI.out _ HY.out.2.1).mono ?_
              rintro e w1 ⟨rfl, b1⟩
              have HY1 := Lib.hid (HY.out.below b1)
              obtain ⟨z0, z1, z2, z3, z4⟩ := box5 HY1.out.head
              obtain ⟨y0, y1⟩ := box_cut HY1.out.tail.head
              clear b1
              go_wp2_with fail
              refine (IH1.out _ HY1.out.2.1).mono ?_
              rintro e w2 ⟨rfl, b2⟩
              have HY2 := Lib.hid (HY1.out.below b2)
              clear b2
              go_wp2
              go_ret
              rw [HR.out]
              exact ⟨rfl, HY2.out.2.1⟩
            · by_cases k2 : nrt = m1
              · subst k2
                obtain ⟨q, rfl⟩ : ∃ q : Nat, nrt = q := ⟨nrt.toNat, by omega⟩
                rw [if_neg (by omega), show ((q : Int)).toNat = q from by omega] at hR
                obtain ⟨s1, s2, s3, s4⟩ := HA1.out (by omega)
                have HA2 := Lib.hid (HAT.out q)
                have IHQ := Lib.hid (IH2.out q)
                clear IH2 HAT HA1
                generalize endR N dim f q = m2 at *
                have S1 := Lib.hid (fun W h => HS4.out W h (i + 1) s1)
                have S2 := Lib.hid (fun W h (hq : q < M) => HS4.out W h q hq)
                generalize (N.getD (i + 1) tn0).sz = za at *
                generalize (N.getD q tn0).sz = zb at *
                have t1 : (i : Int) + 1 < (M : Int) := by omega
                clear HS4
                go_enter Try.func45, Try.ntmps45
                go_wp2_with fail
                refine (KI.out _ HY.out.2.1).mono ?_
                rintro e w1 ⟨rfl, b1⟩
                have HY1 := Lib.hid (HY.out.below b1)
                obtain ⟨z0, z1, z2, z3, z4⟩ := box5 HY1.out.head
                obtain ⟨y0, y1⟩ := box_cut HY1.out.tail.head
                clear b1
                go_wp2_with fail
                refine (IH1.out _ HY1.out.2.1).mono ?_
                rintro e w2 ⟨rfl, b2⟩
                have HY2 := Lib.hid (HY1.out.below b2)
                obtain ⟨z0, z1, z2, z3, z4⟩ := box5 HY2.out.head
                obtain ⟨y0, y1⟩ := box_cut HY2.out.tail.head
                clear b2
                go_wp2_with fail
                refine (IHQ.out _ HY2.out.2.1).mono ?_
                rintro e w3 ⟨rfl, b3⟩
                have HY3 := Lib.hid (HY2.out.below b3)
                obtain ⟨z0, z1, z2, z3, z4⟩ := box5 HY3.out.head
                obtain ⟨y0, y1⟩ := box_cut HY3.out.tail.head
                clear b3
                by_cases k3 : m2 < 0
                · rw [if_pos (.inl k3)] at hR
                  have HR := Lib.hid hR
                  clear hR
                  go_wp2
                  go_quiet (fail)
                  go_wp2
                  go_ret
                  rw [HR.out]
                  exact ⟨rfl, below_drewN2 HY3.out.2.1 nq⟩
                · obtain ⟨r1, r2, r3, r4⟩ := HA2.out (by omega)
                  have x1 := S1.out w3 HY3.out.2.1
                  have x2 := S2.out w3 HY3.out.2.1 r1
                  have t2 : (q : Int) < (M : Int) := by omega
                  have k6 : decide (m2 < 0) = false := by simp; omega
                  by_cases k4 : nsz = za + zb
                  · rw [if_neg (by omega)] at hR
                    have HR := Lib.hid hR
                    have k5 : (nsz != za + zb) = false := by simpa using k4
                    clear hR
                    go_wp2
                    go_quiet (fail)
                    go_wp2
                    go_ret
                    rw [HR.out]
                    exact ⟨rfl, below_drewN2 HY3.out.2.1 nq⟩
                  · rw [if_pos (.inr k4)] at hR
                    have HR := Lib.hid hR
                    have k5 : (nsz != za + zb) = true := by simpa using k4
                    clear hR
                    go_wp2
                    go_quiet (fail)
                    go_wp2
                    go_ret
                    rw [HR.out]
                    exact ⟨rfl, below_drewN2 HY3.out.2.1 nq⟩
              · rw [if_pos (.inr k2)] at hR
                have HR := Lib.hid hR
                have k3 : (nrt != m1) = true := by simpa using k2
                clear hR
                go_enter Try.func45, Try.ntmps45
                go_wp2_with fail
                refine (KI.out _ HY.out.2.1).mono ?_
                rintro e w1 ⟨rfl, b1⟩
                have HY1 := Lib.hid (HY.out.below b1)
                obtain ⟨z0, z1, z2, z3, z4⟩ := box5 HY1.out.head
                obtain ⟨y0, y1⟩ := box_cut HY1.out.tail.head
                clear b1
                go_wp2_with fail
                refine (IH1.out _ HY1.out.2.1).mono ?_
                rintro e w2 ⟨rfl, b2⟩
                have HY2 := Lib.hid (HY1.out.below b2)
                obtain ⟨z0, z1, z2, z3, z4⟩ := box5 HY2.out.head
                clear b2
                go_wp2
                go_ret
                rw [HR.out]
                exact ⟨rfl, HY2.out.2.1⟩
          · have HR := Lib.hid (HV2.out (fun h => h2 h.2))
            rw [Bool.not_eq_true] at h2
            rw [h2] at KI
            clear HV2 HV3 h2 h0
            go_enter Try.func45, Try.ntmps45
            go_wp2_with fail
            refine (KI.out _ HY.out.2.1).mono ?_
            rintro e w1 ⟨rfl, b1⟩
            have HY1 := Lib.hid (HY.out.below b1)
            go_wp2
            go_ret
            rw [HR.out]
            exact ⟨rfl, HY1.out.2.1⟩
        · have HR := Lib.hid (HV2.out (fun h => h1 h.1))
          clear HV2 HV3
          have h1' : (nlf != (i : Int) + 1) = true := by simpa using h1
          by_cases h2 : nlf = 0
          · subst h2
            have h3 : ¬ nrt = 0 := fun h => h0 ⟨rfl, h⟩
            clear h0
            go_enter Try.func45, Try.ntmps45
            go_wp2
            go_ret
            rw [HR.out]
            exact ⟨rfl, HY.out.2.1⟩
          · clear h0
            go_enter Try.func45, Try.ntmps45
            go_wp2
            go_ret
            rw [HR.out]
            exact ⟨rfl, HY.out.2.1⟩
    · rw [endR_out hi]
      clear hA
      generalize N.length = M at *
      have hg : ¬ (i : Int) < (M : Int) := by omega
      go_enter Try.func45, Try.ntmps45
      go_wp2
      go_ret
      exact ⟨rfl, HX.out.2.1⟩
end Go.Proofs.Yteenemdiokajbaa
