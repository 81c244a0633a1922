import Derived.Test.YtehekdahlnpldaaPickJ

/-! Layer 7: the reference's Back. -/
namespace Go.Proofs.Ytehekdahlnpldaa
open Go.RowKit
set_option linter.unusedVariables false
set_option linter.unusedSimpArgs false

theorem back_yes {n : Int} {s : List Int} (h : backOk n s) : backV n s = (bckV s, true) := by unfold backV; rw [if_pos h]
theorem back_no {n : Int} {s : List Int} (h : ¬ backOk n s) : backV n s = ([], false) := by unfold backV; rw [if_neg h]
/-- where the reference has found a number, below m so far -/
def aB (i : Nat) (gx : Int) (m : Nat) : Int := if (i : Int) ≤ gx ∧ gx < m then gx else -1
theorem aB_0 (i : Nat) (gx : Int) : aB i gx i = -1 := by unfold aB; rw [if_neg (by omega)]
theorem aB_hit {i m : Nat} {gx : Int} (h : i ≤ m) (e : (m : Int) = gx) : aB i gx (m + 1) = m := by unfold aB; rw [if_pos (by omega)]; omega
theorem aB_miss {i m : Nat} {gx : Int} (e : ¬ (m : Int) = gx) : aB i gx (m + 1) = aB i gx m := by
  unfold aB
  by_cases h : (i : Int) ≤ gx ∧ gx < m
  · rw [if_pos h, if_pos (by omega)]
  · rw [if_neg h, if_neg (by omega)]
/-- the first picks told back -/
def bckF (s : List Int) (k : Nat) : List Int := (List.range k).map (bckP s)
theorem bckF_len (s : List Int) (k : Nat) : (bckF s k).length = k := by simp [bckF]
theorem bckF_succ (s : List Int) (k : Nat) : bckF s (k + 1) = bckF s k ++ [bckP s k] := by simp [bckF, List.range_succ]
theorem bckF_all (s : List Int) : bckV s = bckF s s.length := rfl
theorem grownBy_set (W : World) (g k : Nat) (v : Value) : W.grownBy (W.setCell ⟨g, k, none⟩ v) (some g) :=
  ⟨rfl, rfl, rfl, ((Below.refl 0 W).setCell (p := ⟨g, k, none⟩) (Nat.zero_le _) v).size, fun j _ hj => Below.heap_setCell _ _ _ j (fun e => hj (by rw [e]))⟩
theorem own_off {w : World} {B : Nat} {v : Value} {n : Nat} {xs : List Value} (h : w.ownsRow B 3 1 v n xs) {g : Nat} (hg : g < B) (k : Nat) (u : Value) : (w.setCell ⟨g, k, none⟩ u).ownsRow B 3 1 v n xs := by
  refine h.kept (grownBy_set w g k u) ?_
  rcases h.2 with ⟨rfl, _⟩ | ⟨g', cap, cur, rfl, hb, _⟩
  · exact .inl rfl
  · refine .inr fun e => ?_
    simp only [Value.ownBlock, Option.some.injEq] at e
    omega
theorem new_of_own {w0 w : World} {B : Nat} {A : Option Addr} {n c k : Nat} {xs : List Value} {e : TypeId} (h : w.ownsRow B e 1 (.slice A n c) k xs) (hB : w0.heap.size ≤ B) : New w0 A := fun ad e => by
  subst e
  rcases h.2 with ⟨h1, _⟩ | ⟨g, cap, cur, h1, hb, _⟩
  · cases h1
  · cases h1; exact Nat.le_trans hB hb
theorem own_five {w : World} {g N k r : Nat} {f : Int → Int} (h : OwnI w g (upF f N)) (hk : k < N) (hr : r < N) :
    w.cell? ⟨g, r, none⟩ = some (.int .i64 (f r)) ∧ w.cell? ⟨g, k, none⟩ = some (.int .i64 (f k)) ∧ w.frozen? ⟨g, r, none⟩ = false ∧
    (∃ u, (w.setCell ⟨g, r, none⟩ (.int .i64 (f k))).cell? ⟨g, k, none⟩ = some (.int .i64 u)) ∧ (w.setCell ⟨g, r, none⟩ (.int .i64 (f k))).frozen? ⟨g, k, none⟩ = false := by
  have hc1 := h.cell (k := r) (by rw [upF_len]; exact hr)
  have hc2 := h.cell (k := k) (by rw [upF_len]; exact hk)
  rw [upF_get _ hr] at hc1
  rw [upF_get _ hk] at hc2
  have h3 := h.set (k := r) (by rw [upF_len]; exact hr) (f k)
  exact ⟨hc1, hc2, h.free r, ⟨_, h3.cell (k := k) (by rw [List.length_set, upF_len]; exact hk)⟩, h3.free k⟩
set_option maxHeartbeats 4000000 in
theorem ref_Back_go (A : Option Addr) (s : List Int) (c N : Nat) (w : World) (hA : Lies w w.heap.size A s) (hN : N ≤ 256) (hN0 : 0 < N) (hl : s.length ≤ N) :
    Calls Try.prog 23 #[.int .i64 N, .slice A s.length c] w (GivesP (backV N s) w) := by
  have KR := Lib.hid (ref_row1 N hN hN0)
  have HA := Lib.hid (fun W (h : Below w.heap.size w W) => hA.below h)
  have HNO : Hid (∀ k : Nat, k < s.length → ¬ ((k : Int) ≤ (bck s k).2 (s.getD k 0) ∧ (bck s k).2 (s.getD k 0) < N) → backV N s = ([], false)) := fun k hk hn => back_no (fun h => hn ((bckOk_iff.2 h.2.2) k hk))
  have HYES : Hid ((∀ k : Nat, k < s.length → (k : Int) ≤ (bck s k).2 (s.getD k 0) ∧ (bck s k).2 (s.getD k 0) < N) → backV N s = (bckF s s.length, true)) := fun h => back_yes ⟨by omega, by omega, bckOk_iff.1 h⟩
  have HINV := Lib.hid (fun k => bck_inv s k)
  have HST : Hid (∀ k, (bck s (k + 1)).1 = swp (bck s k).1 k ((bck s k).2 (s.getD k 0))) := fun k => rfl
  have HP : Hid (∀ k, bckP s k = (bck s k).2 (s.getD k 0) - k) := fun k => rfl
  generalize backV N s = Z at *
  clear hA
  generalize hM : s.length = M at *
  have HM := Lib.hid hM
  clear hM
  have gN0 : ¬ (N : Int) < 0 := by omega
  have gN1 : ¬ (256 : Int) < (N : Int) := by omega
  have gM : ¬ (N : Int) < (M : Int) := by omega
  go_enter Try.func23, Try.ntmps23
  go_wp2_with fail
  refine (KR.out _).mono ?_
  rintro e1 w1 ⟨g, c1, rfl, gc, gm, hg, ho1, hb1⟩
  have hgl := ho1.lt
  have HO1 := Lib.hid ho1
  have HB1 := Lib.hid hb1
  have hsz1 := hb1.size
  clear ho1 hb1 gm
  go_wp2
  go_loopw [7, 8] (fun pv i wr => ∃ (k : Nat) (acc : List Int), k ≤ M ∧ i = .int .i64 k ∧ Hid (acc = bckF s k) ∧ Hid (∀ j : Nat, j < k → (j : Int) ≤ (bck s j).2 (s.getD j 0) ∧ (bck s j).2 (s.getD j 0) < N) ∧ Hid (wr.ownsRow w1.heap.size 3 1 pv acc.length (litI acc)) ∧ Hid (OwnI wr g (upF (bck s k).1 N)) ∧ Hid (Below w.heap.size w wr) ∧ Hid (w1.heap.size ≤ wr.heap.size)) (fun _ i _ => M - (intOf i).toNat)
  case atStart => exact ⟨0, [], by omega, rfl, rfl, fun j hj => absurd hj (by omega), World.ownsRow_nil _ _ _ _, HO1.out, HB1.out, Nat.le_refl _⟩
  case round =>
    obtain ⟨k, acc, hk, rfl, HL, HQ, HR, HO, HB, HZ⟩ := hrel
    by_cases hlt : k < M
    · have hlg : (k : Int) < (M : Int) := by omega
      have HFk := Lib.hid (HNO.out k hlt)
      have HQk : Hid (((k : Int) ≤ (bck s k).2 (s.getD k 0) ∧ (bck s k).2 (s.getD k 0) < N) → ∀ j : Nat, j < k + 1 → (j : Int) ≤ (bck s j).2 (s.getD j 0) ∧ (bck s j).2 (s.getD j 0) < N) := fun h j hj => by
        rcases Nat.lt_or_ge j k with g | g
        · exact HQ.out j g
        · rw [show j = k from by omega]; exact h
      have HSk := Lib.hid (HST.out k)
      have HPk := Lib.hid (HP.out k)
      have HEQ : Hid (∀ m : Nat, (bck s k).1 m = s.getD k 0 ↔ (m : Int) = (bck s k).2 (s.getD k 0)) := fun m => ⟨fun h => by rw [← h, (HINV.out k).1], fun h => by rw [h, (HINV.out k).2]⟩
      have HXF : Hid ((bck s k).1 ((bck s k).2 (s.getD k 0)) = s.getD k 0) := (HINV.out k).2 _
      have HLX := Lib.hid (fun W (h : Below w.heap.size w W) => (HA.out W h).at (k := k) (by have := HM.out; omega))
      generalize (bck s k).2 (s.getD k 0) = gx at *
      generalize s.getD k 0 = x at *
      generalize hpl : (bck s k).1 = P at *
      clear hpl
      go_wp2
      go_loopw [9, 10] (fun av i wr2 => ∃ m : Nat, k ≤ m ∧ m ≤ N ∧ i = .int .i64 m ∧ av = .int .i64 (aB k gx m) ∧ Hid (wr2.ownsRow w1.heap.size 3 1 u7 acc.length (litI acc)) ∧ Hid (OwnI wr2 g (upF P N)) ∧ Hid (Below w.heap.size w wr2) ∧ Hid (w1.heap.size ≤ wr2.heap.size)) (fun _ i _ => N - (intOf i).toNat)
      case atStart => exact ⟨k, by omega, by omega, rfl, by rw [aB_0], HR.out, HO.out, HB.out, HZ.out⟩
      case round =>
        obtain ⟨m, hm1, hm2, rfl, rfl, HR2, HO2, HB2, HZ2⟩ := hrel
        by_cases hlt2 : m < N
        · have hmg : (m : Int) < (N : Int) := by omega
          obtain ⟨ad, rfl, hab, hcell⟩ := HLX.out wr HB2.out
          have hc1 := HO2.out.cell (k := m) (by rw [upF_len]; exact hlt2)
          rw [upF_get _ hlt2] at hc1
          have HEm := Lib.hid (HEQ.out m)
          have HA1 := Lib.hid (fun e => aB_hit (i := k) (m := m) (gx := gx) hm1 e)
          have HA2 := Lib.hid (fun e => aB_miss (i := k) (m := m) (gx := gx) e)
          generalize hb2e : aB k gx (m + 1) = b2 at *
          have HBE := Lib.hid hb2e
          clear hb2e
          generalize aB k gx m = b1 at *
          generalize P (m : Int) = y at *
          by_cases hy : y = x
          · subst hy
            have hb := HA1.out (HEm.out.1 rfl)
            have HBQ := Lib.hid hb
            clear hb
            go_wp2
            go_quiet (fail)
            go_wp2
            refine ⟨⟨m + 1, by omega, by omega, by go_num, by rw [HBE.out, HBQ.out], ownI_drewN HR2.out nq, HO2.out.drewN nq, below_drewN2 HB2.out nq, HZ2.out⟩, by first | (simp [intOf]; done) | (simp [intOf]; omega)⟩
          · have hb := HA2.out (fun e => hy (HEm.out.2 e))
            have HBQ := Lib.hid hb
            clear hb
            go_wp2
            go_quiet (fail)
            go_wp2
            refine ⟨⟨m + 1, by omega, by omega, by go_num, by rw [HBE.out, HBQ.out], ownI_drewN HR2.out nq, HO2.out.drewN nq, below_drewN2 HB2.out nq, HZ2.out⟩, by first | (simp [intOf]; done) | (simp [intOf]; omega)⟩
        · obtain rfl : m = N := by omega
          by_cases hok : (k : Int) ≤ gx ∧ gx < (m : Int)
          · obtain ⟨q, rfl⟩ : ∃ q : Nat, gx = q := ⟨gx.toNat, by omega⟩
            have ha : aB k (q : Int) m = q := by unfold aB; rw [if_pos hok]
            rw [ha]
            have hO := HO2.out
            have hqN : q < m := by omega
            have hkN : k < m := by omega
            have hqg : (q : Int) < (m : Int) := by omega
            have hkg : (k : Int) < (m : Int) := by omega
            have hkq : (k : Int) ≤ (q : Int) := by omega
            have HOK := Lib.hid (HQk.out hok)
            have HO5 := Lib.hid (fun W (h : OwnI W g (upF P m)) => own_five h hkN hqN)
            have HSW := Lib.hid (fun W (h : OwnI W g (upF P m)) => own_swap h hkN hqN)
            have HLN : Hid ((acc ++ [(q : Int) - (k : Int)]) = bckF s (k + 1)) := by show _ = _; rw [bckF_succ, HL.out, HPk.out]
            have hll : acc.length + 1 ≤ 1000000000 := by rw [HL.out, bckF_len]; omega
            have hsz := HZ2.out
            have HO4 := Lib.hid (fun W (h : Below w1.heap.size wr W) => HO2.out.below h hgl)
            clear ha hok hO
            generalize P (k : Int) = y1 at *
            generalize P (q : Int) = y2 at *
            go_wp2_with (at_builtin; refine app_int rfl (.tmp 50) (.tmp 54) rfl _ acc ((q : Int) - (k : Int)) rfl HR2.out rfl hsz hll ?_; intro v' w4 hown4 hb4 _; obtain ⟨hc1, hc2, hf1, ⟨u3, hc3⟩, hf3⟩ := HO5.out w4 (HO4.out _ hb4); have HS4 := Lib.hid (HSW.out w4 (HO4.out _ hb4)); have HB4 := Lib.hid (HB2.out.trans (hb4.mono hsz1)); have HZ4 := Lib.hid (Nat.le_trans HZ2.out hb4.size); have HW4 := Lib.hid hown4; clear hown4 hb4)
            refine ⟨⟨k + 1, acc ++ [(q : Int) - (k : Int)], by omega, by go_num, HLN.out, HOK.out, own_off (own_off HW4.out hgl _ _) hgl _ _, ?_, below_set2 HB4.out hg, Nat.le_trans HZ4.out (below_set2 (B := 0) (Below.refl 0 _) (Nat.zero_le _)).size⟩, by first | (simp [intOf]; done) | (simp [intOf]; omega)⟩
            show OwnI _ _ _
            rw [HSk.out]
            exact HS4.out
          · have ha : aB k gx m = -1 := by unfold aB; rw [if_neg hok]
            rw [ha]
            have hz := HFk.out hok
            clear ha hok
            go_wp2
            go_ret2
            first | rw [hz] | skip
            exact givesP_nil HB2.out
    · obtain rfl : k = M := by omega
      have hz := HYES.out HQ.out
      have HZZ := Lib.hid hz
      have ho := HR.out
      have hl1 := HL.out
      obtain ⟨A1, c2, rfl, g1, g2, g3⟩ := lies_ownI ho
      have HNW : Hid (New w A1) := new_of_own ho hsz1
      have HLL := Lib.hid g3
      have hll : acc.length = k := by rw [hl1, bckF_len]
      rw [← hl1] at HZZ
      rw [hll] at g1
      clear hz ho hl1 g3
      have HLE := Lib.hid hll
      rw [hll]
      clear hll
      go_wp2
      go_ret2
      rw [HZZ.out]
      exact ⟨A1, c2, by rw [show (acc, true).1.length = k from HLE.out]; rfl, by simp only; rw [HLE.out]; exact g1, g2, HLL.out, HNW.out, HB.out⟩
end Go.Proofs.Ytehekdahlnpldaa
