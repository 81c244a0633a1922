import Derived.Test.YtehekdahlnpldaaVecG

/-! Package vec: extremes of rows, Reach, Near; the reference's Near. -/
namespace Go.Proofs.Ytehekdahlnpldaa
open Go.RowKit
set_option linter.unusedVariables false
set_option linter.unusedSimpArgs false

set_option maxHeartbeats 1000000 in
theorem ext_reach (p : Value) (F : Row → Int) (A : Option Addr) (R : List Row) (c B : Nat) (lo hi : Int) (w : World) (hA : LiesR w B A R) (hl : (R.length : Int) ≤ 9223372036854775807)
    (hK : ∀ n j, j < R.length → Calls Try.prog 138 #[.slice (R.getD j row0).a (R.getD j row0).l.length (R.getD j row0).c, p] (w.drewN n) fun e w' => e = .returned (.int .i64 (F (R.getD j row0))) ∧ ∃ m, w' = (w.drewN n).drewN m) :
    Calls Try.prog 137 #[.int .i64 lo, .int .i64 hi, .slice A R.length c, .func (.func 138) #[] #[p]] w fun e w' => e = .returned (.tuple #[.int .i64 (loL lo (R.map F)), .int .i64 (hiL hi (R.map F))]) ∧ ∃ n, w' = w.drewN n := by
  have HA := Lib.hid hA
  have HK := Lib.hid hK
  have HL0 : Hid (∀ k, k < R.length → loL lo ((R.map F).take (k + 1)) = min (loL lo ((R.map F).take k)) (F (R.getD k row0))) := fun k hk => by
    rw [loL_take lo _ (by simpa using hk), List.getD_eq_getElem?_getD, List.getElem?_map, List.getD_eq_getElem?_getD, List.getElem?_eq_getElem hk]; rfl
  have HH0 : Hid (∀ k, k < R.length → hiL hi ((R.map F).take (k + 1)) = max (hiL hi ((R.map F).take k)) (F (R.getD k row0))) := fun k hk => by
    rw [hiL_take hi _ (by simpa using hk), List.getD_eq_getElem?_getD, List.getElem?_map, List.getD_eq_getElem?_getD, List.getElem?_eq_getElem hk]; rfl
  have HEnd : Hid (∀ k, k = R.length → (R.map F).take k = R.map F) := fun k hk => List.take_of_length_le (by simp; omega)
  clear hA hK
  generalize R.map F = D at *
  generalize hN : R.length = N at *
  have HN := Lib.hid hN
  clear hN
  go_enter Try.func137, Try.ntmps137
  go_wp2
  go_loopw [0, 1, 15] (fun a b i wr => ∃ (k : Nat) (x y : Int), k ≤ N ∧ i = .int .i64 k ∧ a = .int .i64 x ∧ b = .int .i64 y ∧ Hid (x = loL lo (D.take k)) ∧ Hid (y = hiL hi (D.take k)) ∧ ∃ n, wr = w.drewN n) (fun _ _ i _ => N - (intOf i).toNat)
  case atStart => exact ⟨0, _, _, by omega, rfl, rfl, rfl, rfl, rfl, 0, rfl⟩
  case round =>
    obtain ⟨k, x, y, hk, rfl, rfl, rfl, HX, HY, n, rfl⟩ := hrel
    by_cases hlt : k < N
    · have HAr : Hid (LiesR (w.drewN n) B A R) := HA.out
      obtain ⟨ad, rfl, _, hcell, _⟩ := HAr.out.at (k := k) (by have := HN.out; omega)
      have HL := Lib.hid (HL0.out k (by omega))
      have HH := Lib.hid (HH0.out k (by omega))
      have K := Lib.hid (HK.out n k (by omega))
      generalize F (R.getD k row0) = z at *
      generalize R.getD k row0 = r at *
      obtain ⟨ra, rl, rc⟩ := r
      simp only at hcell K
      generalize rl.length = M at *
      go_wp2_with fail
      refine K.out.mono ?_
      rintro e w1 ⟨rfl, m, rfl⟩
      go_wp2
      go_roundw
      case rel => exact ⟨k + 1, _, _, by omega, by go_num, rfl, rfl, (by show _ = _; rw [HL.out, ← HX.out, ← min_if]), (by show _ = _; rw [HH.out, ← HY.out, ← max_if]), _, rfl⟩
      case measure => simp [intOf]; omega
    · obtain rfl : k = N := by omega
      have h1 := HEnd.out k rfl
      have HE := Lib.hid h1
      clear h1
      go_wp2
      go_ret2
      exact ⟨ret2i (HX.out.trans (by rw [HE.out])) (HY.out.trans (by rw [HE.out])), n, rfl⟩

set_option maxHeartbeats 1000000 in
theorem ext_box (p : Value) (F : Row → Int) (A : Option Addr) (R : List Row) (c B : Nat) (lo hi : Int) (w : World) (hA : LiesR w B A R) (hl : (R.length : Int) ≤ 9223372036854775807)
    (hK : ∀ n j, j < R.length → Calls Try.prog 154 #[.slice (R.getD j row0).a (R.getD j row0).l.length (R.getD j row0).c, p] (w.drewN n) fun e w' => e = .returned (.int .i64 (F (R.getD j row0))) ∧ ∃ m, w' = (w.drewN n).drewN m) :
    Calls Try.prog 137 #[.int .i64 lo, .int .i64 hi, .slice A R.length c, .func (.func 154) #[] #[p]] w fun e w' => e = .returned (.tuple #[.int .i64 (loL lo (R.map F)), .int .i64 (hiL hi (R.map F))]) ∧ ∃ n, w' = w.drewN n := by
  have HA := Lib.hid hA
  have HK := Lib.hid hK
  have HL0 : Hid (∀ k, k < R.length → loL lo ((R.map F).take (k + 1)) = min (loL lo ((R.map F).take k)) (F (R.getD k row0))) := fun k hk => by
    rw [loL_take lo _ (by simpa using hk), List.getD_eq_getElem?_getD, List.getElem?_map, List.getD_eq_getElem?_getD, List.getElem?_eq_getElem hk]; rfl
  have HH0 : Hid (∀ k, k < R.length → hiL hi ((R.map F).take (k + 1)) = max (hiL hi ((R.map F).take k)) (F (R.getD k row0))) := fun k hk => by
    rw [hiL_take hi _ (by simpa using hk), List.getD_eq_getElem?_getD, List.getElem?_map, List.getD_eq_getElem?_getD, List.getElem?_eq_getElem hk]; rfl
  have HEnd : Hid (∀ k, k = R.length → (R.map F).take k = R.map F) := fun k hk => List.take_of_length_le (by simp; omega)
  clear hA hK
  generalize R.map F = D at *
  generalize hN : R.length = N at *
  have HN := Lib.hid hN
  clear hN
  go_enter Try.func137, Try.ntmps137
  go_wp2
  go_loopw [0, 1, 15] (fun a b i wr => ∃ (k : Nat) (x y : Int), k ≤ N ∧ i = .int .i64 k ∧ a = .int .i64 x ∧ b = .int .i64 y ∧ Hid (x = loL lo (D.take k)) ∧ Hid (y = hiL hi (D.take k)) ∧ ∃ n, wr = w.drewN n) (fun _ _ i _ => N - (intOf i).toNat)
  case atStart => exact ⟨0, _, _, by omega, rfl, rfl, rfl, rfl, rfl, 0, rfl⟩
  case round =>
    obtain ⟨k, x, y, hk, rfl, rfl, rfl, HX, HY, n, rfl⟩ := hrel
    by_cases hlt : k < N
    · have HAr : Hid (LiesR (w.drewN n) B A R) := HA.out
      obtain ⟨ad, rfl, _, hcell, _⟩ := HAr.out.at (k := k) (by have := HN.out; omega)
      have HL := Lib.hid (HL0.out k (by omega))
      have HH := Lib.hid (HH0.out k (by omega))
      have K := Lib.hid (HK.out n k (by omega))
      generalize F (R.getD k row0) = z at *
      generalize R.getD k row0 = r at *
      obtain ⟨ra, rl, rc⟩ := r
      simp only at hcell K
      generalize rl.length = M at *
      go_wp2_with fail
      refine K.out.mono ?_
      rintro e w1 ⟨rfl, m, rfl⟩
      go_wp2
      go_roundw
      case rel => exact ⟨k + 1, _, _, by omega, by go_num, rfl, rfl, (by show _ = _; rw [HL.out, ← HX.out, ← min_if]), (by show _ = _; rw [HH.out, ← HY.out, ← max_if]), _, rfl⟩
      case measure => simp [intOf]; omega
    · obtain rfl : k = N := by omega
      have h1 := HEnd.out k rfl
      have HE := Lib.hid h1
      clear h1
      go_wp2
      go_ret2
      exact ⟨ret2i (HX.out.trans (by rw [HE.out])) (HY.out.trans (by rw [HE.out])), n, rfl⟩

theorem reach1 (A A2 : Option Addr) (a b : List Int) (c c2 B g : Nat) (w : World) (hx : w.cell? ⟨g, 0, none⟩ = some (.slice A a.length c)) (hA : Lies w B A a) (hA2 : Lies w B A2 b) (h : dotE a b = true) :
    Calls Try.prog 138 #[.slice A2 b.length c2, ptr g 0] w fun e w' => e = .returned (.int .i64 (dotN a b)) ∧ w = w' := by
  have K := Lib.hid (vec_dot A A2 a b c c2 B w hA hA2 (dotE_ok h).1 (dotE_ok h).2.1 (dotE_ok h).2.2.1 (dotE_ok h).2.2.2)
  have HN : Hid (dotN a b = dotI a b a.length) := by show _ = _; unfold dotN; rw [if_pos h]
  generalize dotI a b a.length = z at *
  generalize dotN a b = q at *
  clear hA hA2 h
  generalize a.length = N at *
  generalize b.length = M at *
  go_enter Try.func138, Try.ntmps138
  go_wp2_with fail
  refine K.out.mono ?_
  rintro e w1 ⟨rfl, rfl⟩
  go_wp2
  go_ret
  exact ⟨ret1i HN.out.symm, rfl⟩
theorem below_of_alloc2 {w w' : World} {o : Obj} (h : Below w.heap.size (w.alloc o) w') : Below w.heap.size w w' := ((Below.refl _ _).alloc (Nat.le_refl _) o).trans h
theorem chkV_iff {R : List Row} {d : Int} : chkV R d = 0 ↔ 0 < R.length ∧ allV R d = true := by
  unfold chkV
  by_cases h0 : R.length = 0
  · rw [if_pos h0]; simp; omega
  · rw [if_neg h0]
    cases allV R d <;> simp <;> omega
theorem chkV_or (R : List Row) (d : Int) : chkV R d = 0 ∨ chkV R d = 80 := by
  unfold chkV
  split
  · right; rfl
  · split
    · left; rfl
    · right; rfl
set_option maxRecDepth 100000 in
set_option maxHeartbeats 4000000 in
theorem vec_Reach (A A2 : Option Addr) (a : List Int) (R : List Row) (c c2 : Nat) (w : World) (hA : Lies w w.heap.size A a) (hA2 : LiesR w w.heap.size A2 R) (hR : OkR R) (hla : (a.length : Int) ≤ 9223372036854775807) (hl : (R.length : Int) ≤ 9223372036854775807) (hca : a.length ≤ c) (hc2 : R.length ≤ c2) :
    Calls Try.prog 109 #[.slice A a.length c, .slice A2 R.length c2] w fun e w' => e = .returned (.tuple #[.int .i64 (reachLo a R), .int .i64 (reachHi a R), .int .i64 (reachC a R)]) ∧ Below w.heap.size w w' := by
  obtain ⟨W, hW⟩ : ∃ W, W = w.alloc (.cells #[.slice A a.length c] 24) := ⟨_, rfl⟩
  have hb0 : Below w.heap.size w W := by rw [hW]; exact (Below.refl _ _).alloc (Nat.le_refl _) _
  have hAW : Lies W w.heap.size A a := hA.below hb0
  have hRW : LiesR W w.heap.size A2 R := hA2.below hb0
  have hx0 : Box W w.heap.size #[.slice A a.length c] 24 := by rw [hW]; exact Box.new w _ _
  have K1 := Lib.hid (vec_parts A a c w.heap.size a.length W hAW hla hca)
  have K2 := Lib.hid (fun n => vec_check A2 R c2 w.heap.size a.length (W.drewN n) hRW hR hl)
  by_cases hE : reachE a R = true
  · obtain ⟨h0, hall⟩ := reachE_iff.1 hE
    have hp : partsV a a.length = true := (dotE_iff.1 (hall 0 h0)).1
    have hch : chkV R a.length = 0 := chkV_iff.2 ⟨h0, allV_iff.2 fun j hj => (dotE_iff.1 (hall j hj)).2⟩
    rw [hp] at K1
    rw [hch] at K2
    obtain ⟨r0, R', rfl⟩ : ∃ r0 R', R = r0 :: R' := by cases R with | nil => simp at h0 | cons r R' => exact ⟨r, R', rfl⟩
    have h00 := hall 0 (by simp)
    simp only [List.getD_cons_zero] at h00
    have hdn : ∀ j, j < R'.length → dotE a (R'.getD j row0).l = true := fun j hj => by
      have := hall (j + 1) (by simp; omega)
      simpa using this
    have hLo : Hid (reachLo a (r0 :: R') = loL (dotN a r0.l) (R'.map fun r => dotN a r.l)) := by
      show _ = _
      unfold reachLo; rw [if_pos hE]; rfl
    have hHi : Hid (reachHi a (r0 :: R') = hiL (dotN a r0.l) (R'.map fun r => dotN a r.l)) := by
      show _ = _
      unfold reachHi; rw [if_pos hE]; rfl
    have hCo : Hid (reachC a (r0 :: R') = 0) := by
      show _ = _
      unfold reachC; rw [if_pos hE]
    generalize reachLo a (r0 :: R') = qlo at *
    generalize reachHi a (r0 :: R') = qhi at *
    generalize reachC a (r0 :: R') = qc at *
    obtain ⟨ad, rfl, hadb, hcell, hlies⟩ := hRW.at (k := 0) (by simp)
    simp only [List.getD_cons_zero] at hcell hlies
    have hcell' : W.cell? ad = some (.slice r0.a r0.l.length r0.c) := by rw [add_zero'] at hcell; exact hcell
    have hcut := liesR_cut hRW 1 (by simp) hc2
    rw [List.drop_succ_cons, List.drop_zero] at hcut
    have hxc : W.cell? ⟨w.heap.size, 0, none⟩ = some (.slice A a.length c) := by have := hx0.cell 0; simpa using this
    have KD := Lib.hid (fun W2 (h : ∃ n, W2 = W.drewN n) => vec_dot A r0.a a r0.l c r0.c w.heap.size W2 (by obtain ⟨n, rfl⟩ := h; exact hAW) (by obtain ⟨n, rfl⟩ := h; exact hlies) (dotE_ok h00).1 (dotE_ok h00).2.1 (dotE_ok h00).2.2.1 (dotE_ok h00).2.2.2)
    have hd0 : dotI a r0.l a.length = dotN a r0.l := by unfold dotN; rw [if_pos h00]
    simp only [hd0] at KD
    obtain ⟨M, hM⟩ : ∃ M, M = (r0 :: R').length := ⟨_, rfl⟩
    have hr : R'.length = M - 1 := by rw [hM]; rfl
    have KE := Lib.hid (fun A3 W2 (hw : ∃ n, W2 = W.drewN n) (h : LiesR W w.heap.size A3 R') lo hi => hr ▸ ext_reach (ptr w.heap.size 0) (fun r => dotN a r.l) A3 R' (c2 - 1) w.heap.size lo hi W2 (by obtain ⟨n, rfl⟩ := hw; exact h) (by simp at hl; omega) (fun n2 j hj => (reach1 A _ a _ c _ w.heap.size w.heap.size (W2.drewN n2) (by obtain ⟨n, rfl⟩ := hw; exact hxc) (by obtain ⟨n, rfl⟩ := hw; exact hAW) (by obtain ⟨n, rfl⟩ := hw; exact hcut.2 _ (getD_mem hj)) (hdn j hj)).mono fun e w' hh => ⟨hh.1, 0, hh.2.symm⟩))
    rw [← hM] at hc2 hl K2 ⊢
    have g4 : (M : Int) ≤ (c2 : Int) := by omega
    have g5 : 0 < M := by omega
    have g6 : (1 : Int) ≤ M := by omega
    generalize (R'.map fun r => dotN a r.l) = D at *
    generalize dotN a r0.l = d0 at *
    obtain ⟨ra, rl, rc⟩ := r0
    simp only at hcell hcell' KD
    generalize rl.length = L0 at *
    by_cases h1 : c2 = 1
    · rw [if_pos h1] at hcut
      have HC := Lib.hid hcut
      clear hcut hE hall hp hch hdn hr hM hA hA2 hAW hRW hR hd0 h00 hlies h0
      subst h1
      obtain rfl : M = 1 := by omega
      generalize a.length = N at *
      go_enter Try.func109, Try.ntmps109
      go_wp2_with fail
      rw [← hW]
      have HWW := Lib.hid hW
      clear hW
      refine K1.out.mono ?_
      rintro e w1 ⟨rfl, n1, rfl⟩
      go_wp2_with fail
      refine (K2.out _).mono ?_
      rintro e w2 ⟨rfl, hw2⟩
      have hw3 : ∃ n, w2 = W.drewN n := by obtain ⟨n, rfl⟩ := hw2; exact ⟨_, by first | rfl | exact World.drewN_drewN _ _ _⟩
      have HW2 := Lib.hid hw3
      have hxc2 : w2.cell? ⟨w.heap.size, 0, none⟩ = some (.slice A N c) := by obtain ⟨n, rfl⟩ := hw3; exact hxc
      have hcell2 : w2.cell? (ad.add 0) = some (.slice ra L0 rc) := by obtain ⟨n, rfl⟩ := hw3; exact hcell
      have hcell2' : w2.cell? ad = some (.slice ra L0 rc) := by obtain ⟨n, rfl⟩ := hw3; exact hcell'
      clear hw2 hw3
      go_wp2
      go_quiet ((go_at_call 136; exact Calls.quiet_of_same (still_of (KD.out _ (by obtain ⟨n, hn⟩ := HW2.out; rw [hn]; exact dre2' _ _ _)))))
      go_wp2_with fail
      refine (KE.out _ _ (by obtain ⟨n, hn⟩ := HW2.out; rw [hn]; exact dre2' _ _ _) HC.out _ _).mono ?_
      rintro e w3 ⟨rfl, n3, rfl⟩
      go_wp2
      go_ret3
      exact ⟨ret3i hLo.out.symm hHi.out.symm hCo.out.symm, below_drewN2 (by obtain ⟨n, hn⟩ := HW2.out; rw [hn]; exact below_drewN2 hb0 _) _⟩
    · rw [if_neg h1] at hcut
      have HC := Lib.hid hcut
      clear hcut hE hall hp hch hdn hr hM hA hA2 hAW hRW hR hd0 h00 hlies h0
      generalize a.length = N at *
      go_enter Try.func109, Try.ntmps109
      go_wp2_with fail
      rw [← hW]
      have HWW := Lib.hid hW
      clear hW
      refine K1.out.mono ?_
      rintro e w1 ⟨rfl, n1, rfl⟩
      go_wp2_with fail
      refine (K2.out _).mono ?_
      rintro e w2 ⟨rfl, hw2⟩
      have hw3 : ∃ n, w2 = W.drewN n := by obtain ⟨n, rfl⟩ := hw2; exact ⟨_, by first | rfl | exact World.drewN_drewN _ _ _⟩
      have HW2 := Lib.hid hw3
      have hxc2 : w2.cell? ⟨w.heap.size, 0, none⟩ = some (.slice A N c) := by obtain ⟨n, rfl⟩ := hw3; exact hxc
      have hcell2 : w2.cell? (ad.add 0) = some (.slice ra L0 rc) := by obtain ⟨n, rfl⟩ := hw3; exact hcell
      have hcell2' : w2.cell? ad = some (.slice ra L0 rc) := by obtain ⟨n, rfl⟩ := hw3; exact hcell'
      clear hw2 hw3
      go_wp2
      go_quiet ((go_at_call 136; exact Calls.quiet_of_same (still_of (KD.out _ (by obtain ⟨n, hn⟩ := HW2.out; rw [hn]; exact dre2' _ _ _)))))
      go_wp2_with fail
      refine (KE.out _ _ (by obtain ⟨n, hn⟩ := HW2.out; rw [hn]; exact dre2' _ _ _) HC.out _ _).mono ?_
      rintro e w3 ⟨rfl, n3, rfl⟩
      go_wp2
      go_ret3
      exact ⟨ret3i hLo.out.symm hHi.out.symm hCo.out.symm, below_drewN2 (by obtain ⟨n, hn⟩ := HW2.out; rw [hn]; exact below_drewN2 hb0 _) _⟩
  · have hLo : Hid (reachLo a R = 0) := by show _ = _; unfold reachLo; rw [if_neg hE]
    have hHi : Hid (reachHi a R = 0) := by show _ = _; unfold reachHi; rw [if_neg hE]
    have hCo : Hid (reachC a R = 80) := by show _ = _; unfold reachC; rw [if_neg hE]
    have hxc : W.cell? ⟨w.heap.size, 0, none⟩ = some (.slice A a.length c) := by have := hx0.cell 0; simpa using this
    have HCH : Hid (partsV a a.length = true → chkV R a.length = 80) := fun h => by
      rcases chkV_or R a.length with g | g
      · exfalso
        obtain ⟨g1, g2⟩ := chkV_iff.1 g
        exact hE (by unfold reachE; rw [h, g2, decide_eq_true g1]; rfl)
      · exact g
    generalize reachLo a R = qlo at *
    generalize reachHi a R = qhi at *
    generalize reachC a R = qc at *
    generalize chkV R a.length = ch at *
    generalize partsV a a.length = pv at *
    clear hA hA2 hAW hRW hE hR
    generalize a.length = N at *
    generalize R.length = M at *
    cases pv
    · go_enter Try.func109, Try.ntmps109
      go_wp2_with fail
      rw [← hW]
      have HWW := Lib.hid hW
      clear hW
      refine K1.out.mono ?_
      rintro e w1 ⟨rfl, n1, rfl⟩
      go_wp2
      go_ret3
      exact ⟨ret3i hLo.out.symm hHi.out.symm hCo.out.symm, below_drewN2 hb0 _⟩
    · obtain rfl : ch = 80 := HCH.out rfl
      go_enter Try.func109, Try.ntmps109
      go_wp2_with fail
      rw [← hW]
      have HWW := Lib.hid hW
      clear hW
      refine K1.out.mono ?_
      rintro e w1 ⟨rfl, n1, rfl⟩
      go_wp2_with fail
      refine (K2.out _).mono ?_
      rintro e w1 ⟨rfl, n2, rfl⟩
      go_wp2
      go_ret3
      exact ⟨ret3i hLo.out.symm hHi.out.symm hCo.out.symm, below_drewN2 hb0 _⟩
end Go.Proofs.Ytehekdahlnpldaa
