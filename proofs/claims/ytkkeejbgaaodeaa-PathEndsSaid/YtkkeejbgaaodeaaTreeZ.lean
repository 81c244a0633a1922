import Derived.Test.YtkkeejbgaaodeaaTreeY
import Derived.Test.YtkkeejbgaaodeaaNumLog

/-! Layer 10: the reference's Grow. -/
namespace Go.Proofs.Ytkkeejbgaaodeaa
open Go.RowKit
set_option linter.unusedVariables false
set_option linter.unusedSimpArgs false

theorem liesT_off {w w' : World} {A : Option Addr} {N : List TN} {g : Nat} (h : LiesT w w.heap.size A N) (hs : w.heap.size ≤ w'.heap.size) (hn : ∀ ad, A = some ad → 0 < N.length → ad.block ≠ g) (hc : ∀ n ∈ N, ∀ ad, n.a = some ad → 0 < n.co.length → ad.block ≠ g) (hk : ∀ k, k ≠ g → w'.heap[k]? = w.heap[k]?) : LiesT w' w'.heap.size A N := by
  refine ⟨fun h0 => ?_, fun n hn' h0 => ?_⟩
  · obtain ⟨ad, e, hlt, hcell⟩ := h.1 h0
    have hne := hn ad e h0
    refine ⟨ad, e, by omega, fun j hj => ?_⟩
    have key : ∀ i, w'.cell? (ad.add i) = w.cell? (ad.add i) := fun i => World.cell?_of_block (by rw [add_block]; exact hk _ hne)
    unfold Nd5
    rw [key, key, key, key, key]
    exact hcell j hj
  · obtain ⟨ad, e, hlt, hcell⟩ := h.2 n hn' h0
    have hne := hc n hn' ad e h0
    exact ⟨ad, e, by omega, fun j hj => (World.cell?_of_block (by rw [add_block]; exact hk _ hne)).trans (hcell j hj)⟩
theorem dim_row (R : List Row) : ((R.getD 0 row0).l.length : Int) = (dimR R : Int) := rfl
set_option maxRecDepth 100000 in
set_option maxHeartbeats 16000000 in
theorem ref_Grow (Ar A : Option Addr) (R : List Row) (l : List Int) (cr c : Nat) (k a t : Int) (w : World) (hr : LiesR w w.heap.size Ar R) (hA : LiesU w w.heap.size A l) (hu : ∀ x ∈ l, U64 x) (hl : (l.length : Int) ≤ 9223372036854775807)
    (hat : I64 a) (hlr : (R.length : Int) ≤ 9223372036854775807) :
    Calls Try.prog 21 #[.int .i64 k, .slice Ar R.length cr, .slice A l.length c, .int .i64 a, .int .i64 t] w (GivesG (groG k R l a t) w) := by
  have HX := Lib.hid ((Kpc.start w).alloc #[.int .i64 0, .slice none 0 0] 24)
  obtain ⟨y0, y1⟩ := box_cut HX.out.head
  have KM := Lib.hid (ref_asked a t)
  by_cases h64 : 64 < R.length
  · have HV : Hid (groG k R l a t = (0, [], 0, 3)) := by show _ = _; unfold groG; rw [if_pos h64]
    have h64' : (64 : Int) < (R.length : Int) := by omega
    generalize groG k R l a t = Z at *
    clear hr hA hu
    generalize R.length = M at *
    generalize l.length = ML at *
    go_enter Try.func21, Try.ntmps21
    go_wp2
    obtain ⟨⟨k0, k1⟩, bz⟩ := Kpc.set2 HX.out (Nat.le_refl _) (.int .i64 0) (.slice none 0 0)
    refine bodyPost_ret (v := .tuple #[.agg #[.int .i64 0, .slice none 0 0], .int .i64 0, .int .i64 3]) ?_ rfl ?_
    · simp [results, Try.results21, go_sem, k0, k1, y0, y1]
    · rw [HV.out]; exact givesG_no (by first | exact bz | exact HX.out.2.1)
  · have h64' : ¬ (64 : Int) < (R.length : Int) := by omega
    by_cases hask : AskD k a t
    · obtain ⟨hk, hask'⟩ := id hask
      rw [decide_eq_true hask'] at KM
      have hk1 : ¬ k < 1 := by omega
      have hk2 : ¬ 2 < k := by omega
      have KA := Lib.hid (fun W (h : Below w.heap.size w W) => ref_All Ar R cr w.heap.size (dimR R) W (hr.below h) hlr)
      have hbE : (allV R (dimR R) && decide (0 < R.length)) = boxE R (dimR R) := rfl
      rw [hbE] at KA
      rcases Nat.eq_zero_or_pos R.length with h0 | h0
      · have hE : ¬ boxE R (dimR R) = true := by rw [boxE_iff]; omega
        have HV : Hid (groG k R l a t = (0, [], 0, 80)) := by show _ = _; unfold groG; rw [if_neg h64, if_pos hask, if_neg hE]
        generalize groG k R l a t = Z at *
        clear hr hA hu hE hbE KA
        rw [h0]
        generalize l.length = ML at *
        go_enter Try.func21, Try.ntmps21
        go_wp2_with fail
        refine (KM.out _).mono ?_
        rintro e1 w1 ⟨rfl, rfl⟩
        go_wp2
        obtain ⟨⟨k0, k1⟩, bz⟩ := Kpc.set2 HX.out (Nat.le_refl _) (.int .i64 0) (.slice none 0 0)
        refine bodyPost_ret (v := .tuple #[.agg #[.int .i64 0, .slice none 0 0], .int .i64 0, .int .i64 80]) ?_ rfl ?_
        · simp [results, Try.results21, go_sem, k0, k1, y0, y1]
        · rw [HV.out]; exact givesG_no (by first | exact bz | exact HX.out.2.1)
      · obtain ⟨ad, rfl, hadb, hcell, hlies⟩ := hr.at (k := 0) h0
        have hcell' : w.cell? ad = some (.slice (R.getD 0 row0).a (dimR R) (R.getD 0 row0).c) := by rw [show ad.add 0 = ad from rfl] at hcell; exact hcell
        have HC : Hid (∀ W, Below w.heap.size w W → W.cell? ad = some (.slice (R.getD 0 row0).a (dimR R) (R.getD 0 row0).c)) := fun W h => (h.cell hadb).trans hcell'
        have hcx := HC.out _ HX.out.2.1
        have hg1 : (0 : Int) < (R.length : Int) := by omega
        have hz : ((R.length : Int) == 0) = false := by rw [beq_eq_false_iff_ne]; omega
        by_cases hE : boxE R (dimR R) = true
        · rw [hE] at KA
          have KL := Lib.hid (fun W => ref_log (R.length : Int) (by unfold I64; omega) W)
          have HLG := Lib.hid (fun k h => log_lgT (n := (R.length : Int)) (k := k) h (by omega))
          have hlg : lgT (R.length : Int) ≤ 6 := by
            unfold lgT
            split
            · omega
            · split
              · omega
              · split
                · omega
                · split
                  · omega
                  · split
                    · omega
                    · split <;> omega
          have KG : Hid (∀ W (h : Below w.heap.size w W), Calls Try.prog 50 #[.int .i64 k, .slice (some ad) R.length cr, .int .i64 (lgT (R.length : Int)), .slice A l.length c, .int .i64 a, .int .i64 t] W (GivesGN (grN k l t (lgT (R.length : Int)) R a) W)) := fun W h =>
            ref_grow k t A l c hu hl (lgT (R.length : Int)) (by omega) R (some ad) cr a W ((hr.below h).mono h.size) (by omega) ((hA.below h).mono h.size) hat
          obtain ⟨G, hG⟩ : ∃ G, G = grN k l t (lgT (R.length : Int)) R a := ⟨_, rfl⟩
          have HV : Hid (groG k R l a t = if G.2.2 = 0 then ((dimR R : Int), G) else (0, [], 0, G.2.2)) := by show _ = _; unfold groG; rw [if_neg h64, if_pos hask, if_pos hE, hG]
          rw [← hG] at KG
          generalize groG k R l a t = Z at *
          clear hr hA hu hE hbE hlies hcell hG hask hcell'
          generalize lgT (R.length : Int) = lg at *
          generalize R.length = M at *
          generalize l.length = ML at *
          generalize R.getD 0 row0 = r0 at *
          generalize dimR R = D at *
          obtain ⟨GN, ga, ge⟩ := G
          unfold GivesGN at KG
          simp only at KG HV
          go_enter Try.func21, Try.ntmps21
          go_wp2_with fail
          refine (KM.out _).mono ?_
          rintro e1 w1 ⟨rfl, rfl⟩
          go_wp2_with fail
          refine (KA.out _ HX.out.2.1).mono ?_
          rintro e1 w1 ⟨rfl, rfl⟩
          go_wp2_with fail
          refine (KL.out _).mono ?_
          rintro e w1 ⟨kl, hkl, rfl, rfl⟩
          obtain rfl := HLG.out kl hkl
          go_wp2_with fail
          refine (KG.out _ HX.out.2.1).mono ?_
          rintro e w2 ⟨A2, N2, c2, rfl, m2, l2, o2, ⟨n2, n3⟩, b2⟩
          have J2 := Lib.hid (HX.out.below b2)
          have HM2 := Lib.hid m2
          have HL2 := Lib.hid l2
          have HO2 := Lib.hid o2
          have HN2 := Lib.hid n2
          have HN3 := Lib.hid n3
          have hcx2 := HC.out _ J2.out.2.1
          clear m2 l2 o2 n2 n3 b2 hcx y0 y1
          obtain ⟨y0, y1, _, _⟩ := J2.out.head.two
          by_cases he : ge = 0
          · subst he
            have HV2 : Hid (Z = ((D : Int), GN, ga, 0)) := by show _ = _; rw [HV.out, if_pos rfl]
            generalize hNL : N2.length = NL at *
            have HNL := Lib.hid hNL
            clear hNL HV
            go_wp2
            obtain ⟨⟨k0, k1⟩, bz⟩ := Kpc.set2 J2.out (Nat.le_refl _) (.int .i64 (D : Int)) (.slice A2 NL c2)
            refine bodyPost_ret (v := .tuple #[.agg #[.int .i64 (D : Int), .slice A2 NL c2], .int .i64 ga, .int .i64 0]) ?_ rfl ?_
            · simp [results, Try.results21, go_sem, k0, k1]
            · rw [HV2.out]
              refine ⟨A2, N2, c2, by rw [HNL.out], HM2.out, ?_, HO2.out, bz⟩
              refine liesT_off (g := w.heap.size) HL2.out (by simp [World.setCell]) (fun ad' e _ => ?_) (fun n hn ad' e _ => ?_) (fun g hg => (Below.heap_setCell _ _ _ _ hg).trans (Below.heap_setCell _ _ _ _ hg))
              · have := HN2.out ad' e
                rw [alloc_size'] at this
                omega
              · have := HN3.out n hn ad' e
                rw [alloc_size'] at this
                omega
          · have hne : (ge != 0) = true := by simp [he]
            have HV2 : Hid (Z = (0, [], 0, ge)) := by show _ = _; rw [HV.out, if_neg he]
            clear HV
            generalize N2.length = NL at *
            go_wp2
            obtain ⟨⟨k0, k1⟩, bz⟩ := Kpc.set2 J2.out (Nat.le_refl _) (.int .i64 0) (.slice none 0 0)
            refine bodyPost_ret (v := .tuple #[.agg #[.int .i64 0, .slice none 0 0], .int .i64 0, .int .i64 ge]) ?_ rfl ?_
            · simp [results, Try.results21, go_sem, k0, k1, y0, y1]
            · rw [HV2.out]; exact givesG_no (by first | exact bz | exact J2.out.2.1)
        · have hE' : boxE R (dimR R) = false := by simpa using hE
          rw [hE'] at KA
          have HV : Hid (groG k R l a t = (0, [], 0, 80)) := by show _ = _; unfold groG; rw [if_neg h64, if_pos hask, if_neg hE]
          generalize groG k R l a t = Z at *
          clear hr hA hu hE hE' hbE hlies hcell hask hcell'
          generalize R.length = M at *
          generalize l.length = ML at *
          generalize R.getD 0 row0 = r0 at *
          generalize dimR R = D at *
          go_enter Try.func21, Try.ntmps21
          go_wp2_with fail
          refine (KM.out _).mono ?_
          rintro e1 w1 ⟨rfl, rfl⟩
          go_wp2_with fail
          refine (KA.out _ HX.out.2.1).mono ?_
          rintro e1 w1 ⟨rfl, rfl⟩
          go_wp2
          obtain ⟨⟨k0, k1⟩, bz⟩ := Kpc.set2 HX.out (Nat.le_refl _) (.int .i64 0) (.slice none 0 0)
          refine bodyPost_ret (v := .tuple #[.agg #[.int .i64 0, .slice none 0 0], .int .i64 0, .int .i64 80]) ?_ rfl ?_
          · simp [results, Try.results21, go_sem, k0, k1, y0, y1]
          · rw [HV.out]; exact givesG_no (by first | exact bz | exact HX.out.2.1)
    · have HV : Hid (groG k R l a t = (0, [], 0, 1)) := by show _ = _; unfold groG; rw [if_neg h64, if_neg hask]
      generalize groG k R l a t = Z at *
      clear hr hA hu
      generalize R.length = M at *
      generalize l.length = ML at *
      have fin : ∀ W, Below w.heap.size w W → GivesG Z w (.returned (.tuple #[.agg #[.int .i64 0, .slice none 0 0], .int .i64 0, .int .i64 1])) W := fun W h => by rw [HV.out]; exact givesG_no h
      have FIN := Lib.hid fin
      clear fin HV
      by_cases hk1 : k < 1
      · go_enter Try.func21, Try.ntmps21
        go_wp2
        obtain ⟨⟨k0, k1⟩, bz⟩ := Kpc.set2 HX.out (Nat.le_refl _) (.int .i64 0) (.slice none 0 0)
        refine bodyPost_ret (v := .tuple #[.agg #[.int .i64 0, .slice none 0 0], .int .i64 0, .int .i64 1]) ?_ rfl ?_
        · simp [results, Try.results21, go_sem, k0, k1, y0, y1]
        · exact FIN.out _ (by first | exact bz | exact HX.out.2.1)
      · by_cases hk2 : 2 < k
        · go_enter Try.func21, Try.ntmps21
          go_wp2
          obtain ⟨⟨k0, k1⟩, bz⟩ := Kpc.set2 HX.out (Nat.le_refl _) (.int .i64 0) (.slice none 0 0)
          refine bodyPost_ret (v := .tuple #[.agg #[.int .i64 0, .slice none 0 0], .int .i64 0, .int .i64 1]) ?_ rfl ?_
          · simp [results, Try.results21, go_sem, k0, k1, y0, y1]
          · exact FIN.out _ (by first | exact bz | exact HX.out.2.1)
        · have hask' : ¬ (0 ≤ a ∧ 1 ≤ t ∧ t ≤ 64) := fun h => hask ⟨by omega, h⟩
          rw [decide_eq_false hask'] at KM
          clear hask hask'
          go_enter Try.func21, Try.ntmps21
          go_wp2_with fail
          refine (KM.out _).mono ?_
          rintro e1 w1 ⟨rfl, rfl⟩
          go_wp2
          obtain ⟨⟨k0, k1⟩, bz⟩ := Kpc.set2 HX.out (Nat.le_refl _) (.int .i64 0) (.slice none 0 0)
          refine bodyPost_ret (v := .tuple #[.agg #[.int .i64 0, .slice none 0 0], .int .i64 0, .int .i64 1]) ?_ rfl ?_
          · simp [results, Try.results21, go_sem, k0, k1, y0, y1]
          · exact FIN.out _ (by first | exact bz | exact HX.out.2.1)
end Go.Proofs.Ytkkeejbgaaodeaa
