import Derived.Test.YtehekdahlnpldaaPickW

/-! Layer 7: a place by weights: the program's and the reference's. -/
namespace Go.Proofs.Ytehekdahlnpldaa
open Go.RowKit
set_option linter.unusedVariables false
set_option linter.unusedSimpArgs false

theorem i64w7 (x : Int) : IntKind.i64.wrap x = (x + 9223372036854775808) % 18446744073709551616 - 9223372036854775808 := by
  simp [IntKind.wrap, IntKind.bits, IntKind.signed]
  split <;> omega
theorem wIn_iff (x : Int) : wIn x ↔ 0 ≤ x ∧ x ≤ 1099511627776 := Iff.rfl
theorem tot_ok {l : List Int} (h : wOk l) : totV l = (psum l l.length, decide (0 < psum l l.length)) := by unfold totV; rw [if_pos h]
theorem tot_no {l : List Int} (h : ¬ wOk l) : totV l = (0, false) := by unfold totV; rw [if_neg h]
set_option maxHeartbeats 1000000 in
theorem pick_total (A : Option Addr) (l : List Int) (c : Nat) (w : World) (hA : Lies w w.heap.size A l) (hl : (l.length : Int) ≤ 9223372036854775807) :
    Calls Try.prog 67 #[.slice A l.length c] w fun e w' => e = .returned (.tuple #[.int .i64 (totV l).1, .bool (totV l).2]) ∧ w = w' := by
  by_cases h256 : 256 < l.length
  · have hv : totV l = (0, false) := tot_no (fun h => by have := h.1; omega)
    rw [hv]
    clear hA hv
    generalize l.length = N at *
    have hg : (256 : Int) < (N : Int) := by omega
    go_enter Try.func67, Try.ntmps67
    go_wp2
    go_ret2
    exact ⟨rfl, rfl⟩
  · have HT : Hid (∀ (h : ∀ j, j < l.length → wIn (l.getD j 0)), totV l = (psum l l.length, decide (0 < psum l l.length))) := fun h => tot_ok ⟨by omega, h⟩
    have HF : Hid (∀ j, j < l.length → ¬ wIn (l.getD j 0) → totV l = (0, false)) := fun j hj hn => tot_no (fun h => hn (h.2 j hj))
    have HB := Lib.hid (fun k => @psum_bd l k)
    have HLI := Lib.hid hA
    have KW := Lib.hid (fun x => pick_within x 0 1099511627776 w)
    generalize totV l = Z at *
    clear hA
    generalize hN : l.length = N at *
    have HN := Lib.hid hN
    clear hN
    have hN256 : ¬ (256 : Int) < (N : Int) := by omega
    go_enter Try.func67, Try.ntmps67
    go_wp2
    go_loopw [4, 12] (fun s i wr => ∃ k : Nat, k ≤ N ∧ i = .int .i64 k ∧ s = .int .i64 (psum l k) ∧ wr = w ∧ Hid (∀ j, j < k → wIn (l.getD j 0))) (fun _ i _ => N - (intOf i).toNat)
    case atStart => exact ⟨0, by omega, rfl, rfl, rfl, fun j hj => absurd hj (by omega)⟩
    case round =>
      obtain ⟨k, hk, rfl, rfl, rfl, HQ⟩ := hrel
      have hbd := HB.out k HQ.out
      by_cases hlt : k < N
      · have hlg : (k : Int) < (N : Int) := by omega
        obtain ⟨ad, rfl, _, hcell⟩ := HLI.out.at (k := k) (by have := HN.out; omega)
        have HFk := Lib.hid (HF.out k hlt)
        have HS : Hid (psum l (k + 1) = psum l k + l.getD k 0) := rfl
        have HQk : Hid (wIn (l.getD k 0) → ∀ j, j < k + 1 → wIn (l.getD j 0)) := fun h j hj => by
          rcases Nat.lt_or_ge j k with g | g
          · exact HQ.out j g
          · rw [show j = k from by omega]; exact h
        generalize l.getD k 0 = x at *
        generalize hp1 : psum l (k + 1) = s2 at *
        generalize psum l k = s at *
        have K := Lib.hid (KW.out x)
        have hs2 : Hid (s2 = s + x) := HS.out
        have HP1 := Lib.hid hp1
        clear hp1
        by_cases hx : wIn x
        · have hx' := hx
          rw [wIn_iff] at hx'
          rw [show decide (0 ≤ x ∧ x ≤ 1099511627776) = true from by simp; omega] at K
          have hw : wrap64 (s + x) = s + x := by unfold wrap64; omega
          clear hx
          go_wp2_with fail
          refine K.out.mono ?_
          rintro e1 w1 ⟨rfl, rfl⟩
          go_wp2
          refine ⟨⟨k + 1, by omega, by go_num, by rw [HP1.out, hs2.out], by first | trivial | rfl, HQk.out ((wIn_iff x).2 hx')⟩, by first | (simp [intOf]; done) | (simp [intOf]; omega)⟩
        · have hx' : ¬ (0 ≤ x ∧ x ≤ 1099511627776) := hx
          rw [show decide (0 ≤ x ∧ x ≤ 1099511627776) = false from by simp; omega] at K
          have hz := HFk.out hx
          clear hx hx'
          go_wp2_with fail
          refine K.out.mono ?_
          rintro e1 w1 ⟨rfl, rfl⟩
          go_wp2
          go_ret2
          rw [hz]
          exact ⟨rfl, rfl⟩
      · obtain rfl : k = N := by omega
        have hz := HT.out HQ.out
        generalize psum l k = s at *
        have hz2 := Lib.hid hz
        clear hz
        by_cases h0 : 0 < s
        · go_wp2
          go_ret2
          rw [hz2.out]
          exact ⟨by simp [h0], rfl⟩
        · go_wp2
          go_ret2
          rw [hz2.out]
          exact ⟨by simp [h0], rfl⟩

theorem wgh_no {l : List Int} {a : Int} {ws : List Int} {t : Int} (h : (totV ws).2 = false) : wgh l a ws t = (0, 0, 1) := by
  unfold wgh
  rw [if_neg]
  rintro ⟨h1, h2, _⟩
  rw [tot_ok h1] at h
  simp at h
  omega
theorem wgh_may {l : List Int} {a : Int} {ws : List Int} {t : Int} (h : ¬ (0 ≤ a ∧ 1 ≤ t ∧ t ≤ 64)) : wgh l a ws t = (0, 0, 1) := by
  unfold wgh
  rw [if_neg]
  rintro ⟨_, _, h1⟩
  exact h h1
theorem tot_yes {ws : List Int} (h : (totV ws).2 = true) : wOk ws ∧ 0 < psum ws ws.length ∧ (totV ws).1 = psum ws ws.length := by
  by_cases g : wOk ws
  · rw [tot_ok g] at h ⊢
    exact ⟨g, by simpa using h, rfl⟩
  · rw [tot_no g] at h; cases h
theorem wgh_yes {l : List Int} {a : Int} {ws : List Int} {t : Int} (h1 : wOk ws) (h2 : 0 < psum ws ws.length) (h : 0 ≤ a ∧ 1 ≤ t ∧ t ≤ 64) :
    wgh l a ws t = if (bnd l a (psum ws ws.length) t).2.2 = 0 then (wIdx ws (bnd l a (psum ws ws.length) t).1, (bnd l a (psum ws ws.length) t).2.1, 0) else (0, 0, (bnd l a (psum ws ws.length) t).2.2) := by
  unfold wgh; rw [if_pos ⟨h1, h2, h⟩]
/-- a place, the place behind the draw, an error -/
def GivesW (r : Int × Int × Int) (w : World) (e : Ending) (w' : World) : Prop := e = .returned (.tuple #[.int .i64 r.1, .int .i64 r.2.1, .int .i64 r.2.2]) ∧ Below w.heap.size w w'
set_option maxHeartbeats 2000000 in
theorem pick_Weigh (A Aw : Option Addr) (l ws : List Int) (c cw : Nat) (a t : Int) (w : World) (hA : LiesU w w.heap.size A l) (hu : ∀ x ∈ l, U64 x) (hl : (l.length : Int) ≤ 9223372036854775807) (hw : Lies w w.heap.size Aw ws) (hlw : (ws.length : Int) ≤ 9223372036854775807) (hat : I64 a) :
    Calls Try.prog 28 #[.slice A l.length c, .int .i64 a, .slice Aw ws.length cw, .int .i64 t] w (GivesW (wgh l a ws t) w) := by
  have KT := Lib.hid (pick_total Aw ws cw w hw hlw)
  have KM := Lib.hid (pick_may a t w)
  by_cases hk : (totV ws).2 = true
  · obtain ⟨h1, h2, h3⟩ := tot_yes hk
    rw [hk, h3] at KT
    by_cases hm : 0 ≤ a ∧ 1 ≤ t ∧ t ≤ 64
    · rw [show decide (0 ≤ a ∧ 1 ≤ t ∧ t ≤ 64) = true from by simp; omega] at KM
      have hb := psum_bd (l := ws) ws.length h1.2
      have h256 := h1.1
      have KB := Lib.hid (draw_bound A l c a (psum ws ws.length) t w hA hu hl (by unfold U64; omega) hat)
      have hlt := bnd_lt (l := l) (a := a) (n := psum ws ws.length) (t := t) h2
      have HV := Lib.hid (wgh_yes (l := l) (a := a) (ws := ws) (t := t) h1 h2 hm)
      have HI := Lib.hid (fun i hi hx (h : ∀ j, j < i → psum ws (j + 1) ≤ (bnd l a (psum ws ws.length) t).1) => @wIdx_eq ws (bnd l a (psum ws ws.length) t).1 i hi hx (fun j hj => by have := h j hj; omega))
      have HM := Lib.hid (fun i (hi : i ≤ ws.length) j (hj : j ≤ i) => psum_mono (l := ws) (m := i) (fun q hq => h1.2 q (by omega)) hj)
      have HBD := Lib.hid (fun i (hi : i ≤ ws.length) => psum_bd (l := ws) i (fun q hq => h1.2 q (by omega)))
      have HE := Lib.hid (fun i (hi : i < ws.length) => h1.2 i hi)
      have HW := Lib.hid (fun W (h : Below w.heap.size w W) => hw.below h)
      generalize wgh l a ws t = Z at *
      generalize bnd l a (psum ws ws.length) t = F at *
      obtain ⟨x, p, e⟩ := F
      simp only at hlt HV HI
      clear hA hu hw h1 hk h3
      have HTOP : Hid (∀ k, k ≤ ws.length → psum ws k ≤ x → k < ws.length) := fun k hk hx => by
        rcases Nat.lt_or_ge k ws.length with g | g
        · exact g
        · rw [show k = ws.length from by omega] at hx; omega
      generalize hS : psum ws ws.length = S at *
      clear hS
      have hwu : IntKind.u64.wrap S = S := by simp only [u64w]; omega
      have hwx : IntKind.i64.wrap x = x := by simp only [i64w7]; omega
      generalize hN : ws.length = N at *
      have HN := Lib.hid hN
      clear hN
      generalize l.length = M at *
      go_enter Try.func28, Try.ntmps28
      go_wp2_with fail
      refine KT.out.mono ?_
      rintro e1 w1 ⟨rfl, rfl⟩
      go_wp2_with fail
      refine KM.out.mono ?_
      rintro e1 w1 ⟨rfl, rfl⟩
      go_wp2_with fail
      refine KB.out.mono ?_
      rintro e1 w1 ⟨rfl, b1⟩
      have HBE := Lib.hid b1
      have HL := Lib.hid (HW.out _ b1)
      clear b1
      by_cases he : e = 0
      · subst he
        go_wp2
        go_loopw [16, 17] (fun r i wr => ∃ k : Nat, k ≤ N ∧ i = .int .i64 k ∧ r = .int .i64 (x - psum ws k) ∧ wr = w1 ∧ Hid (psum ws k ≤ x)) (fun _ i _ => N - (intOf i).toNat)
        case atStart => exact ⟨0, by omega, rfl, by simp [psum], rfl, by show psum ws 0 ≤ x; simp only [psum]; omega⟩
        case round =>
          obtain ⟨k, hk, rfl, rfl, rfl, HX⟩ := hrel
          have hlt2 := HTOP.out k hk HX.out
          have hlg : (k : Int) < (N : Int) := by omega
          obtain ⟨ad, rfl, _, hcell⟩ := HL.out.at (k := k) (by have := HN.out; omega)
          have hbk := HBD.out k hk
          have hyk := (wIn_iff _).1 (HE.out k hlt2)
          have hxk := HX.out
          have HS : Hid (psum ws (k + 1) = psum ws k + ws.getD k 0) := rfl
          have HIk := Lib.hid (HI.out k hlt2)
          have HMk := Lib.hid (fun j hj => HM.out k hk j hj)
          generalize hp1 : psum ws (k + 1) = s2 at *
          have HP1 := Lib.hid hp1
          clear hp1
          have HMS : Hid (∀ j, j < k → psum ws (j + 1) ≤ x) := fun j hj => by have := HMk.out (j + 1) hj; have := HX.out; omega
          generalize ws.getD k 0 = y at *
          generalize psum ws k = s at *
          have hs2 := HS.out
          by_cases hy : y ≤ x - s
          · have hg : x - s ≥ y := hy
            have hw2 : wrap64 (x - s - y) = x - s2 := by unfold wrap64; omega
            go_wp2
            refine ⟨⟨k + 1, by omega, by go_num, by rw [HP1.out]; first | rfl | (congr 1; omega), by first | trivial | rfl, ?_⟩, by first | (simp [intOf]; done) | (simp [intOf]; omega)⟩
            show _ ≤ _
            rw [HP1.out]; omega
          · have hg : ¬ x - s ≥ y := hy
            have hi := HIk.out (by omega) HMS.out
            rw [hi] at HV
            go_wp2
            go_ret3
            rw [show Z = ((k : Int), p, 0) from HV.out.trans (if_pos trivial)]
            exact ⟨rfl, HBE.out⟩
      · have hne : (e != 0) = true := by simpa using he
        go_wp2
        go_ret3
        rw [show Z = (0, 0, e) from HV.out.trans (if_neg he)]
        exact ⟨rfl, HBE.out⟩
    · rw [show decide (0 ≤ a ∧ 1 ≤ t ∧ t ≤ 64) = false from by simp; omega] at KM
      rw [wgh_may hm]
      clear hA hu hw h1 h2 hk h3 hm
      generalize psum ws ws.length = S at *
      generalize ws.length = N at *
      generalize l.length = M at *
      go_enter Try.func28, Try.ntmps28
      go_wp2_with fail
      refine KT.out.mono ?_
      rintro e1 w1 ⟨rfl, rfl⟩
      go_wp2_with fail
      refine KM.out.mono ?_
      rintro e1 w1 ⟨rfl, rfl⟩
      go_wp2
      go_ret3
      exact ⟨rfl, Below.refl _ _⟩
  · rw [Bool.not_eq_true] at hk
    rw [wgh_no hk]
    rw [hk] at KT
    clear hA hu hw hk
    generalize (totV ws).1 = S at *
    generalize ws.length = N at *
    generalize l.length = M at *
    go_enter Try.func28, Try.ntmps28
    go_wp2_with fail
    refine KT.out.mono ?_
    rintro e1 w1 ⟨rfl, rfl⟩
    go_wp2
    go_ret3
    exact ⟨rfl, Below.refl _ _⟩
end Go.Proofs.Ytehekdahlnpldaa
