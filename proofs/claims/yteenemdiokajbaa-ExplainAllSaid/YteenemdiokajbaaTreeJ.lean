import Derived.Test.YteenemdiokajbaaTreeI

/-! Layer 10: tree.Is. -/
namespace Go.Proofs.Yteenemdiokajbaa
open Go.RowKit
set_option linter.unusedVariables false
set_option linter.unusedSimpArgs false

theorem Kpc.setOff {w W : World} {g B : Nat} {l : List (Nat × Array Value × TypeId)} (hK : Kpc B W l w) (hl : ∀ x ∈ l, x.1 ≠ g) (hg : B ≤ g) (k : Nat) (u : Value) : Kpc B W l (w.setCell ⟨g, k, none⟩ u) :=
  ⟨fun x hx => (hK.1 x hx).off (show (⟨g, k, none⟩ : Addr).block ≠ x.1 from fun e => hl x hx e.symm) u, hK.2.1.setCell (p := ⟨g, k, none⟩) hg _, by simpa [World.setCell] using hK.2.2⟩
set_option maxRecDepth 100000 in
set_option maxHeartbeats 8000000 in
theorem tree_isT (N : List TN) (dim : Int) (A : Option Addr) (c B : Nat) (w : World) (hl : N.length ≤ 100000) (ho : okT N) (hA : LiesT w B A N) (hB : B ≤ w.heap.size) :
    Calls Try.prog 66 #[.agg #[.int .i64 dim, .slice A N.length c]] w fun e w' => e = .returned (.bool (isT N dim)) ∧ Below w.heap.size w w' := by
  have HX := Lib.hid ((Kpc.start w).alloc #[.int .i64 dim, .slice A N.length c] 24)
  obtain ⟨y0, y1⟩ := box_cut HX.out.head
  by_cases hb : 1 ≤ dim ∧ dim ≤ 8 ∧ 0 < N.length ∧ N.length ≤ 127
  · obtain ⟨hd1, hd2, h0, h127⟩ := hb
    obtain ⟨ad, e0, hab, -, -⟩ := hA.at (k := 0) h0
    subst e0
    have KY : Hid (∀ W (h : Below w.heap.size w W) (g : Nat) S k (hk : k < N.length), OwnS W g S → SpOk N dim S (k + 1) → innOk N dim S k → Calls Try.prog 78 #[.agg #[.int .i64 dim, .slice (some ad) N.length c], .int .i64 k, .slice (some ⟨g, 0, none⟩) N.length N.length] W fun e w' => e = .returned (.tuple #[.agg #[.int .i64 (innV N S k).1, .int .i64 (innV N S k).2], .bool true]) ∧ Below W.heap.size W w') := fun W h g S k hk h1 h2 h3 => inner_yes N S dim (some ad) c B g k W (by omega) (hA.below (h.mono hB)) (Nat.le_trans hB h.size) hk h1 ho h2 h3
    have KN : Hid (∀ W (h : Below w.heap.size w W) (g : Nat) S k (hk : k < N.length), OwnS W g S → SpOk N dim S (k + 1) → ¬ innOk N dim S k → Calls Try.prog 78 #[.agg #[.int .i64 dim, .slice (some ad) N.length c], .int .i64 k, .slice (some ⟨g, 0, none⟩) N.length N.length] W fun e w' => (∃ p q : Int, e = .returned (.tuple #[.agg #[.int .i64 p, .int .i64 q], .bool false])) ∧ Below W.heap.size W w') := fun W h g S k hk h1 h2 h3 => inner_no N S dim (some ad) c B g k W (by omega) (hA.below (h.mono hB)) (Nat.le_trans hB h.size) hk h1 ho h2 h3
    have HC : Hid (∀ W (h : Below w.heap.size w W) k (hk : k < N.length), W.cell? (ad.add (k * 5)) = some (.slice (N.getD k tn0).a (N.getD k tn0).co.length (N.getD k tn0).c) ∧ W.cell? ⟨(ad.add (k * 5)).block, (ad.add (k * 5)).off + 1, none⟩ = some (.int .i64 (N.getD k tn0).lv) ∧ W.cell? ⟨(ad.add (k * 5)).block, (ad.add (k * 5)).off + 2, none⟩ = some (.int .i64 (N.getD k tn0).lf) ∧ W.cell? ⟨(ad.add (k * 5)).block, (ad.add (k * 5)).off + 3, none⟩ = some (.int .i64 (N.getD k tn0).rt) ∧ W.cell? ⟨(ad.add (k * 5)).block, (ad.add (k * 5)).off + 4, none⟩ = some (.int .i64 (N.getD k tn0).sz)) := fun W h k hk => by
      obtain ⟨ad', e, _, hc, _⟩ := (hA.below (h.mono hB)).at hk
      cases e; exact hc
    have HBAD : Hid (∀ S k (h : SpOk N dim S (k + 1)) (hk : k < N.length), ¬ leafN (N.getD k tn0) → ¬ innOk N dim S k → isT N dim = false) := fun S k h hk h1 h2 => SpOk.bad h hk h1 h2
    have HDN : Hid (∀ S, SpOk N dim S 0 → 1 ≤ (N.getD 0 tn0).sz ∧ isT N dim = decide ((S.getD 0 (0, 0)).1 = N.length ∧ (N.getD 0 tn0).sz ≤ 64 ∧ (S.getD 0 (0, 0)).2 ≤ lgT (N.getD 0 tn0).sz)) := fun S h => h.done h0 ⟨hd1, hd2⟩
    have HST : Hid (SpOk N dim (List.replicate N.length (0, 0)) N.length) := SpOk.start N dim
    have HLEN : Hid (∀ S k, SpOk N dim S k → S.length = N.length) := fun S k h => h.1
    have HLF : Hid (∀ S k, SpOk N dim S (k + 1) → k < N.length → leafN (N.getD k tn0) → SpOk N dim (S.set k ((k : Int) + 1, 0)) k ∧ S.getD k (0, 0) = (0, 0)) := fun S k h hk hlf => ⟨h.leaf hk hlf, h.2.2 k (by omega)⟩
    have HIN : Hid (∀ S k, SpOk N dim S (k + 1) → k < N.length → innOk N dim S k → SpOk N dim (S.set k (innV N S k)) k) := fun S k h hk hy => h.inner hk hy
    generalize isT N dim = R at *
    clear hA ho
    generalize hM : N.length = M at *
    clear hM
    have g1 : (1 : Int) ≤ (M : Int) := by omega
    have g2 : (M : Int) ≤ 127 := by omega
    go_enter Try.func66, Try.ntmps66
    go_wp2_with (at_make; refine make_spans rfl (.tmp 28) (.tmp 28) rfl M rfl rfl (by omega) ?_; intro w1 ho1 hb1)
    rw [alloc_size'] at ho1
    have HO1 := Lib.hid ho1
    have J := Lib.hid (HX.out.below hb1)
    clear ho1 hb1 y0 y1
    go_wp2
    go_loopw [5] (fun iv wr => ∃ (k : Nat) (v : Int) (S : List (Int × Int)), k ≤ M ∧ iv = .int .i64 v ∧ Hid (v = k - 1) ∧ Hid (SpOk N dim S k) ∧ Hid (OwnS wr (w.heap.size + 1) S) ∧ Hid (Kpc w.heap.size w [(w.heap.size, #[.int .i64 dim, .slice (some ad) M c], 24)] wr)) (fun iv _ => (intOf iv + 1).toNat)
    case atStart => exact ⟨M, _, List.replicate M (0, 0), Nat.le_refl _, rfl, rfl, HST.out, HO1, J.out⟩
    case round =>
      obtain ⟨k, v, S, hk, rfl, HV, HS, HO, J⟩ := hrel
      obtain ⟨y0, y1⟩ := box_cut J.out.head
      by_cases hk0 : 0 < k
      · obtain ⟨m, rfl⟩ : ∃ m, k = m + 1 := ⟨k - 1, by omega⟩
        obtain rfl : v = (m : Int) := by have := HV.out; omega
        have hmM : (m : Int) < (M : Int) := by omega
        have hm0 : (0 : Int) ≤ (m : Int) := by omega
        obtain ⟨c0, c1, c2, c3, c4⟩ := HC.out _ J.out.2.1 m (by omega)
        by_cases hlf : leafN (N.getD m tn0)
        · obtain ⟨hs2, hz⟩ := HLF.out S m HS.out (by omega) hlf
          have KL := Lib.hid (fun W => tree_leaf (N.getD m tn0) W)
          rw [decide_eq_true hlf] at KL
          have HS2 := Lib.hid hs2
          have HZ := Lib.hid hz
          clear hlf hs2 hz
          generalize N.getD m tn0 = n at *
          unfold ndV ndC at KL
          have hwi := i64wT (i := m) (by omega)
          go_wp2_with fail
          refine (KL.out _).mono ?_
          rintro e w2 ⟨rfl, hw⟩
          have b2 : Below wr.heap.size wr w2 := by rw [hw]; exact (Below.refl _ _).alloc (Nat.le_refl _) _
          clear hw KL c0 c1 c2 c3 c4
          have hO2 := HO.out.below b2
          have J2 := Lib.hid (J.out.below b2)
          clear b2
          obtain ⟨s0, s1⟩ := hO2.at (k := m) (by have := HLEN.out _ _ HS.out; omega)
          have f0 := hO2.free (m * 2)
          have HO2 := Lib.hid hO2
          clear hO2
          go_wp2
          have hO3 := HO2.out.set1 (k := m) (by have := HLEN.out _ _ HS.out; omega) ((m : Int) + 1)
          rw [HZ.out] at hO3
          refine ⟨⟨m, _, S.set m ((m : Int) + 1, 0), by omega, rfl, rfl, HS2.out, hO3, Kpc.setOff J2.out (by simp) (by omega) _ _⟩, by first | (simp [intOf]; done) | (simp [intOf]; omega)⟩
        · have KL := Lib.hid (fun W => tree_leaf (N.getD m tn0) W)
          rw [decide_eq_false hlf] at KL
          by_cases hy : innOk N dim S m
          · have KI := Lib.hid (fun W h (hO : OwnS W (w.heap.size + 1) S) => KY.out W h (w.heap.size + 1) S m (by omega) hO HS.out hy)
            have HS2 := Lib.hid (HIN.out S m HS.out (by omega) hy)
            clear hlf hy
            generalize innV N S m = pq at *
            obtain ⟨p, q⟩ := pq
            simp only at KI
            generalize N.getD m tn0 = n at *
            unfold ndV ndC at KL
            go_wp2_with fail
            refine (KL.out _).mono ?_
            rintro e w2 ⟨rfl, hw⟩
            have b2 : Below wr.heap.size wr w2 := by rw [hw]; exact (Below.refl _ _).alloc (Nat.le_refl _) _
            clear hw KL c0 c1 c2 c3 c4 y0 y1
            have HO2 := Lib.hid (HO.out.below b2)
            have J2 := Lib.hid (J.out.below b2)
            clear b2
            obtain ⟨y0, y1⟩ := box_cut J2.out.head
            go_wp2_with fail
            refine (KI.out _ J2.out.2.1 HO2.out).mono ?_
            rintro e w3 ⟨rfl, b3⟩
            have J3 := Lib.hid ((J2.out.below b3).alloc #[.int .i64 p, .int .i64 q] 121)
            have HO3 := Lib.hid (show OwnS (w3.alloc (.cells #[.int .i64 p, .int .i64 q] 121)) _ _ from (HO2.out.below b3).alloc _)
            have hSl : m < S.length := by have := HLEN.out _ _ HS.out; omega
            clear b3 y0 y1
            obtain ⟨n0, n1⟩ := box_cut J3.out.head
            obtain ⟨s0, s1⟩ := HO3.out.at (k := m) hSl
            have f0 := HO3.out.free (m * 2)
            have f1 := HO3.out.free (m * 2 + 1)
            go_wp2
            exact ⟨⟨m, _, S.set m (p, q), by omega, rfl, rfl, HS2.out, HO3.out.set2 hSl p q, Kpc.setOff (Kpc.setOff J3.out.tail (by simp) (by omega) _ _) (by simp) (by omega) _ _⟩, by first | (simp [intOf]; done) | (simp [intOf]; omega)⟩
          · have KI := Lib.hid (fun W h (hO : OwnS W (w.heap.size + 1) S) => KN.out W h (w.heap.size + 1) S m (by omega) hO HS.out hy)
            have HR := Lib.hid (HBAD.out S m HS.out (by omega) hlf hy)
            clear hlf hy
            generalize N.getD m tn0 = n at *
            unfold ndV ndC at KL
            go_wp2_with fail
            refine (KL.out _).mono ?_
            rintro e w2 ⟨rfl, hw⟩
            have b2 : Below wr.heap.size wr w2 := by rw [hw]; exact (Below.refl _ _).alloc (Nat.le_refl _) _
            clear hw KL c0 c1 c2 c3 c4 y0 y1
            have HO2 := Lib.hid (HO.out.below b2)
            have J2 := Lib.hid (J.out.below b2)
            clear b2
            obtain ⟨y0, y1⟩ := box_cut J2.out.head
            go_wp2_with fail
            refine (KI.out _ J2.out.2.1 HO2.out).mono ?_
            rintro e w3 ⟨⟨p, q, rfl⟩, b3⟩
            have J3 := Lib.hid ((J2.out.below b3).alloc #[.int .i64 p, .int .i64 q] 121)
            clear b3 y0 y1
            go_wp2
            go_ret
            rw [HR.out]
            exact ⟨rfl, J3.out.2.1⟩
      · obtain rfl : k = 0 := by omega
        obtain rfl : v = -1 := by have := HV.out; omega
        obtain ⟨hs1, hR⟩ := HDN.out S HS.out
        obtain ⟨c0, c1, c2, c3, c4⟩ := HC.out _ J.out.2.1 0 (by omega)
        have SD := Lib.hid (fun W (hO : OwnS W (w.heap.size + 1) S) => hO.at (k := 0) (by have := HLEN.out _ _ HS.out; omega))
        simp only [Nat.zero_mul, Nat.zero_add] at SD
        simp only [Nat.zero_mul, add_zero'] at c4
        clear c0 c1 c2 c3 HC HBAD HDN HST HLF HIN KY KN
        generalize (N.getD 0 tn0).sz = s at *
        generalize S.getD 0 (0, 0) = z at *
        obtain ⟨za, zb⟩ := z
        simp only at SD hR
        have hM0 : (0 : Int) < (M : Int) := by omega
        obtain ⟨s0, s1⟩ := SD.out _ HO.out
        by_cases k1 : za = (M : Int)
        · subst k1
          by_cases k2 : s ≤ 64
          · have HR := Lib.hid hR
            have KL := Lib.hid (fun W => num_log s (by unfold I64; omega) W)
            have HLG := Lib.hid (fun k h => log_lgT (n := s) (k := k) h k2)
            have d2 : decide (s ≤ 64) = true := by simp; omega
            generalize lgT s = lg at *
            clear hR
            go_wp2
            have JD := Lib.hid J.out.drew
            obtain ⟨s0, s1⟩ := SD.out wr.drew HO.out
            go_region_held3 (fun W => W.cell? ⟨w.heap.size + 1, 0, none⟩ = some (.int .i64 M) ∧ W.cell? ⟨w.heap.size + 1, 1, none⟩ = some (.int .i64 zb)) (go_keep)
              (first
                | (go_at_call 79; ((refine (KL.out _).mono ?_); rintro e w3 ⟨k, hk, rfl, rfl⟩; obtain rfl := HLG.out k hk)))
            all_goals
              go_wp2
              go_ret
              rw [HR.out]
              refine ⟨?_, JD.out.2.1⟩
              refine congrArg (fun b => Ending.returned (.bool b)) (?_ : (_ : Bool) = _)
              rw [Bool.eq_iff_iff]
              simp
              try omega
          · have HR := Lib.hid (show R = false from hR.trans (decide_eq_false (fun h => k2 h.2.1)))
            have d2 : decide (s ≤ 64) = false := by simp; omega
            clear hR
            go_wp2
            go_quiet (fail)
            go_wp2
            go_ret
            rw [HR.out]
            exact ⟨rfl, below_drewN2 J.out.2.1 nq⟩
        · have HR := Lib.hid (show R = false from hR.trans (decide_eq_false (fun h => k1 h.1)))
          have d1 : (za == (M : Int)) = false := by rw [beq_eq_false_iff_ne]; exact k1
          have d2 : decide (za = (M : Int)) = false := decide_eq_false k1
          clear hR
          go_wp2
          go_quiet (fail)
          go_wp2
          go_ret
          rw [HR.out]
          exact ⟨rfl, below_drewN2 J.out.2.1 nq⟩
  · rw [isT_dim hb]
    clear hA ho
    generalize N.length = M at *
    by_cases h1 : dim < 1
    · go_enter Try.func66, Try.ntmps66
      go_wp2
      go_ret
      exact ⟨rfl, HX.out.2.1⟩
    · by_cases h2 : 8 < dim
      · go_enter Try.func66, Try.ntmps66
        go_wp2
        go_ret
        exact ⟨rfl, HX.out.2.1⟩
      · by_cases h3 : (M : Int) < 1
        · go_enter Try.func66, Try.ntmps66
          go_wp2
          go_ret
          exact ⟨rfl, HX.out.2.1⟩
        · have h4 : 127 < (M : Int) := by omega
          go_enter Try.func66, Try.ntmps66
          go_wp2
          go_ret
          exact ⟨rfl, HX.out.2.1⟩
end Go.Proofs.Yteenemdiokajbaa
