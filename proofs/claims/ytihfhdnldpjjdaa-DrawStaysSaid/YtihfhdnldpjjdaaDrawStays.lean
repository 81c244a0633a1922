/- Statement DrawStays: whatever the input is, the Go function returns true and each argument reads as it did. No condition. -/
import Derived.Test.YtihfhdnldpjjdaaRows
import Derived.Test.YtihfhdnldpjjdaaDrawF
import Derived.Test.YtihfhdnldpjjdaaBase
import Derived.ProofKit
import Derived.OpenShut
namespace Go.Proofs.Ytihfhdnldpjjdaa.drawStays
open Go.ChangeShapes Go.WideShapes Go.ChangeAt Go.RowKit
set_option linter.unusedVariables false

theorem own : ownKnob Try.prog.godebug = none := by kernel_rfl
theorem laid : laidOutB Try.prog = true := by kernel_rfl

theorem fnd_ok (l : List Int) (top : Int) : ∀ (t k : Nat), (fnd l top t k).2.2 = 0 → ∃ p : Nat, (fnd l top t k).2.1 = p ∧ k < p ∧ p ≤ l.length ∧ p ≤ k + t ∧ (fnd l top t k).1 = l.getD (p - 1) 0 ∧ l.getD (p - 1) 0 ≤ top ∧
    (∀ i, k ≤ i → i < p - 1 → ¬ l.getD i 0 ≤ top) ∧ ∀ m : List Int, p ≤ m.length → (∀ i, i < p → m.getD i 0 = l.getD i 0) → fnd m top t k = fnd l top t k
  | 0, k, h => by simp [fnd] at h
  | t + 1, k, h => by
    by_cases h1 : k < l.length
    · by_cases h2 : l.getD k 0 ≤ top
      · rw [fnd_hit h1 h2] at h ⊢
        refine ⟨k + 1, rfl, by omega, by omega, by omega, rfl, h2, fun i hi hj => absurd hj (by omega), fun m hm hh => ?_⟩
        have h3 := hh k (by omega)
        rw [fnd_hit (by omega) (by rw [h3]; exact h2), h3]
      · rw [fnd_more h1 h2] at h ⊢
        obtain ⟨p, hp, a1, a2, a3, a4, a5, a6, a7⟩ := fnd_ok l top t (k + 1) h
        refine ⟨p, hp, by omega, a2, by omega, a4, a5, fun i hi hj => ?_, fun m hm hh => ?_⟩
        · rcases Nat.lt_or_ge k i with h4 | h4
          · exact a6 i (by omega) hj
          · obtain rfl : i = k := by omega
            exact h2
        · have h3 := hh k (by omega)
          rw [fnd_more (by omega) (by rw [h3]; exact h2)]
          exact a7 m hm hh
    · rw [fnd_out h1] at h; simp at h
/-- what a bound that was found tells -/
theorem bnd_ok {l : List Int} {f n t : Int} (hn : U64 n) (h : (bnd l f n t).2.2 = 0) : ∃ k p T : Nat, f = k ∧ t = T ∧ 0 < n ∧ T ≤ 64 ∧ k < p ∧ p ≤ l.length ∧ p ≤ k + T ∧ bnd l f n t = (l.getD (p - 1) 0 % n, (p : Int), 0) ∧ l.getD (p - 1) 0 ≤ topN n ∧
    (∀ i, k ≤ i → i < p - 1 → ¬ l.getD i 0 ≤ topN n) ∧ ∀ m : List Int, p ≤ m.length → (∀ i, i < p → m.getD i 0 = l.getD i 0) → bnd m f n t = bnd l f n t := by
  by_cases ha : Asks f n t
  · have hb := ha
    obtain ⟨a1, a2, a3, a4⟩ := hb
    have hp : ∀ m : List Int, bnd m f n t = hit n (fnd m (topN n) t.toNat f.toNat) := fun m => by unfold bnd; rw [if_pos ha]
    rw [hp l] at h ⊢
    have hz : (fnd l (topN n) t.toNat f.toNat).2.2 = 0 := by
      unfold hit at h
      split at h
      · assumption
      · exact h
    obtain ⟨p, b0, b1, b2, b3, b4, b5, b6, b7⟩ := fnd_ok l (topN n) _ _ hz
    refine ⟨f.toNat, p, t.toNat, by omega, by omega, by unfold U64 at hn; omega, by omega, b1, b2, b3, ?_, b5, b6, fun m hm hh => ?_⟩
    · unfold hit; rw [if_pos hz, b0, b4]
    · rw [hp m, b7 m hm hh]
  · unfold bnd at h; rw [if_neg ha] at h; simp at h
set_option maxHeartbeats 4000000 in
theorem walk (A : Option Addr) (l : List Int) (c : Nat) {w : World} (hA : LiesU w w.heap.size A l) (hu : ∀ x ∈ l, U64 x) (hc : l.length ≤ c) (hm : c ≤ 9223372036854775807) (A2 : Option Addr) (l2 : List Int) (c2 : Nat) (hA2 : LiesU w w.heap.size A2 l2) (hu2 : ∀ x ∈ l2, U64 x) (hc2 : l2.length ≤ c2) (hm2 : c2 ≤ 9223372036854775807)
    (f : Int) (hf : I64 f) (n : Int) (hn : U64 n) (t : Int) (ht : I64 t) (_ : World) :
    Calls Try.prog 10 #[.slice A l.length c, .slice A2 l2.length c2, .int .i64 f, .int .u64 n, .int .i64 t] w fun e w' => e = .returned (.bool true) ∧ Below w.heap.size w w' := by
  by_cases h1 : 200 < l.length
  · generalize l.length = N at *
    generalize l2.length = M at *
    go_enter Try.func10, Try.ntmps10
    go_wp2_with fail
    refine (lives6 _).mono ?_
    rintro e w1 ⟨rfl, b1⟩
    go_wp2
    go_ret
    exact ⟨rfl, b1⟩
  by_cases h2 : 200 < l2.length
  · generalize l.length = N at *
    generalize l2.length = M at *
    go_enter Try.func10, Try.ntmps10
    go_wp2_with fail
    refine (lives6 _).mono ?_
    rintro e w1 ⟨rfl, b1⟩
    go_wp2
    go_ret
    exact ⟨rfl, b1⟩
  have K1 := Lib.hid (draw_bound A l c f n t w hA hu (by omega) hn hf)
  by_cases he : (bnd l f n t).2.2 = 0
  · obtain ⟨k, p, T, rfl, rfl, n0, hT, g1, g2, g3, g4, g5, g6, g7⟩ := bnd_ok hn he
    have HU := Lib.hid (getD_u64 hu)
    have HB := Lib.hid g7
    have H6 := Lib.hid g6
    rw [g4] at K1 HB
    have KT := Lib.hid (ref_top6 n hn)
    have HA := Lib.hid hA
    have HA2 := Lib.hid hA2
    have HU2 := Lib.hid hu2
    have HU1 := Lib.hid hu
    obtain ⟨q, rfl⟩ : ∃ q, p = q + 1 := ⟨p - 1, by omega⟩
    rw [show q + 1 - 1 = q from rfl] at *
    obtain ⟨ad, rfl, hadb, hcell⟩ := hA.at (k := q) (by omega)
    have HX := Lib.hid (HU.out q)
    have hge := Lib.hid g5
    generalize l.getD q 0 = x at *
    clear g7 g6 g4 he hA hA2 hu hu2 g5
    generalize hN : l.length = N at *
    have HN := Lib.hid hN
    clear hN
    generalize hM : l2.length = M at *
    have HM := Lib.hid hM
    clear hM
    go_enter Try.func10, Try.ntmps10
    go_wp2_with fail
    refine K1.out.mono ?_
    rintro e w1 ⟨rfl, b1⟩
    replace hcell := (b1.cell (by rw [add_block]; exact hadb)).trans hcell
    go_wp2_with fail
    have e1 : ¬ ((q : Int) + 1 ≤ k) := by omega
    have e2 : ¬ ((N : Int) < (q : Int) + 1) := by omega
    have e3 : ¬ ((T : Int) < (q : Int) + 1 - k) := by omega
    have e4 : (q : Int) < (N : Int) := by omega
    have e5 : ¬ topN n < x := by have := hge.out; omega
    have e6 : Int.tmod x n = x % n := by have h := HX.out; unfold U64 at h; exact Int.tmod_eq_emod_of_nonneg h.1
    go_quiet ((go_at_call 44; exact Calls.quiet_of_same (still_of (KT.out _))))
    have hAw : Hid (LiesU (w1.drewN nq) w.heap.size (some ad) l) := HA.out.below (below_drewN' b1 nq)
    have HA2w : Hid (LiesU (w1.drewN nq) w.heap.size A2 l2) := HA2.out.below (below_drewN' b1 nq)
    have c1 := below_drewN' b1 nq
    clear hcell
    generalize w1.drewN nq = w2 at *
    go_wp2
    go_loopw [14] (fun i wr => ∃ j : Nat, k ≤ j ∧ j ≤ q ∧ i = .int .i64 j ∧ Hid (∃ m, wr = w2.drewN m)) (fun i _ => q - (intOf i).toNat)
    case atStart => exact ⟨k, Nat.le_refl _, by omega, rfl, ⟨0, rfl⟩⟩
    case round =>
      obtain ⟨j, hj1, hj2, rfl, HW⟩ := hrel
      by_cases hlt : j < q
      · have HAr : Hid (LiesU wr w.heap.size (some ad) l) := by obtain ⟨m, hm⟩ := HW.out; show LiesU _ _ _ _; rw [hm]; exact hAw.out
        obtain ⟨ad', e0, _, hcell⟩ := HAr.out.at (k := j) (by have := HN.out; omega)
        cases e0
        have hge2 := Lib.hid (H6.out j hj1 hlt)
        have HX2 := Lib.hid (HU.out j)
        generalize l.getD j 0 = y at *
        have e7 : (j : Int) < (N : Int) := by omega
        have e8 : ¬ y ≤ topN n := by have := hge2.out; omega
        go_wp2_with fail
        go_quiet ((go_at_call 44; exact Calls.quiet_of_same (still_of (KT.out _))))
        go_wp2
        refine ⟨⟨j + 1, by omega, by omega, by go_num, ?_⟩, by first | (simp [intOf]; done) | (simp [intOf]; omega)⟩
        obtain ⟨m, hm⟩ := HW.out
        show ∃ _, _
        rw [hm]; exact dre2 _ _ _
      · obtain rfl : j = q := by omega
        have HAr : Hid (LiesU wr w.heap.size (some ad) l) := by obtain ⟨m, hm⟩ := HW.out; show LiesU _ _ _ _; rw [hm]; exact hAw.out
        have HAr2 : Hid (LiesU wr w.heap.size A2 l2) := by obtain ⟨m, hm⟩ := HW.out; show LiesU _ _ _ _; rw [hm]; exact HA2w.out
        have c3 : Hid (Below w.heap.size w wr) := by obtain ⟨m, hm⟩ := HW.out; show Below _ _ _; rw [hm]; exact below_drewN' c1 m
        clear HW
        have hbs := c3.out.size
        have ht1 : (l.take (j + 1)).length = j + 1 := by have := HN.out; rw [List.length_take]; omega
        have L1 : Hid (LiesU wr w.heap.size (some ad) (l.take (j + 1))) := by
          show LiesU _ _ _ _
          intro h0
          obtain ⟨ad', e0, hb0, hcc⟩ := HAr.out (by have := HN.out; omega)
          refine ⟨ad', e0, hb0, fun i hi => ?_⟩
          rw [ht1] at hi
          rw [hcc i (by have := HN.out; omega), List.getD_eq_getElem?_getD, List.getD_eq_getElem?_getD, List.getElem?_take, if_pos hi]
        have hag : ∀ i, i < j + 1 → (l.take (j + 1) ++ l2).getD i 0 = l.getD i 0 := fun i hi => by
          rw [List.getD_eq_getElem?_getD, List.getD_eq_getElem?_getD, List.getElem?_append_left (by omega), List.getElem?_take, if_pos hi]
        have hlm : (l.take (j + 1) ++ l2).length = j + 1 + M := by rw [List.length_append, ht1, HM.out]
        have HBm := Lib.hid (HB.out (l.take (j + 1) ++ l2) (by omega) hag)
        have HUm : Hid (∀ z ∈ l.take (j + 1) ++ l2, U64 z) := by
          show ∀ z ∈ _, _
          intro z hz
          rcases List.mem_append.1 hz with h | h
          · exact HU1.out z (List.mem_of_mem_take h)
          · exact HU2.out z h
        obtain ⟨m, hmm⟩ : ∃ m, m = l.take (j + 1) ++ l2 := ⟨_, rfl⟩
        have HMM := Lib.hid hmm
        rw [← hmm] at hlm HBm HUm
        clear hmm hag
        have HT1 := Lib.hid ht1
        have HLM := Lib.hid hlm
        clear ht1 hlm
        generalize l.take (j + 1) = l1 at *
        have hM2 : M ≤ 200 := by omega
        have KM := Lib.hid (fun W A5 c5 (h : LiesU W W.heap.size A5 m) => draw_bound A5 m c5 k n T W h HUm.out (by have := HLM.out; omega) hn hf)
        rw [HBm.out] at KM
        have hown0 : (wr.alloc (.cells #[] 35)).ownsRow wr.heap.size 35 1 (.slice (some ⟨wr.heap.size, 0, none⟩) 0 0) ([] : List Int).length (litu []) :=
          World.ownsRow_made (size := 1) wr #[] 0 (Nat.le_refl _) (by unfold maxLen; omega) rfl
        go_wp2_with (first
          | (at_builtin; refine app_rowU rfl (.tmp 99) (.tmp 102) rfl (.slice (some ⟨wr.heap.size, 0, none⟩) 0 0) [] l1 (some ad) c w.heap.size rfl hown0 (by rw [HT1.out]; rfl) (L1.out.below ((Below.refl _ _).alloc hbs _)) (by rw [alloc_size']; omega) (by have := HT1.out; simp; omega) ?_; intro v1 w4 hown1 hb4)
          | (at_builtin; refine app_rowU rfl (.tmp 103) (.tmp 104) rfl v1 l1 l2 A2 c2 w.heap.size rfl hown1 (by rw [HM.out]; rfl) ((HAr2.out.below ((Below.refl _ _).alloc hbs _)).below (hb4.mono hbs)) (by have := hb4.size; rw [alloc_size'] at this; omega) (by have := HT1.out; have := HM.out; omega) ?_; intro v2 w5 hown2 hb5; rw [← HMM.out] at hown2; obtain ⟨A5, c5, rfl, hc5, hm5, hL5⟩ := liesU_own hown2))
        have c4 := ((Below.refl wr.heap.size wr).alloc (Nat.le_refl _) (.cells #[] 35)).trans (hb4.trans hb5)
        have c5' := c3.out.trans (c4.mono hbs)
        refine (KM.out _ A5 c5 hL5).mono ?_
        rintro e w6 ⟨rfl, b6⟩
        have c6 := c5'.trans (b6.mono c5'.size)
        go_wp2_with fail
        refine (lives6 _).mono ?_
        rintro e w7 ⟨rfl, b7⟩
        go_wp2
        go_ret
        exact ⟨rfl, c6.trans (b7.mono c6.size)⟩
  · have HE := bnd_err he
    have hne : ((bnd l f n t).2.2 != 0) = true := by simpa using he
    generalize (bnd l f n t).2.2 = E at *
    rw [HE] at K1
    clear hA hA2 hu hu2 HE
    generalize l.length = N at *
    generalize l2.length = M at *
    go_enter Try.func10, Try.ntmps10
    go_wp2_with fail
    refine K1.out.mono ?_
    rintro e w1 ⟨rfl, b1⟩
    go_wp2_with fail
    refine (lives6 _).mono ?_
    rintro e w2 ⟨rfl, b2⟩
    go_wp2
    go_ret
    exact ⟨rfl, b1.trans (b2.mono b1.size)⟩

set_option maxRecDepth 100000 in
theorem lifted (os : Os) (started : os.Started) (H : Type) (enc : TypeId × Value → H) :
    ReturnsInHanded {} Try.checked os 10 .any (Rows.drawStaysSpec.pre6 enc Try.prog Try.f10 Rows.drawStaysRow.domain false) (Rows.drawStaysSpec.post enc Try.prog Try.f10 false true false false) := by
  refine returnsInHanded_of_change (C := Try.checked) own started (by kernel_rfl) Try.func10
    (ChangeSpec.witness6 (enc := enc) (C := Try.checked) false ⟨#[], #[.slice none 0 0, .slice none 0 0, .int .i64 0, .int .u64 0, .int .i64 0], []⟩ 8 (by kernel_rfl) (by kernel_rfl) (by kernel_rfl) (by kernel_rfl)) ?_
  intro W base args ds gs before hval0 hW hcnd _
  have hval : ∀ (j : Nat) t v, Try.f10.params[j]? = some t → args[j]? = some v → Value.okWide Try.prog W .any base t v := hval0
  have hW' := hW
  obtain ⟨p, q, hA0, hV, rfl, hfz, hnd⟩ := hW
  obtain ⟨rfl, rfl⟩ := trodVars_none hV
  have hA : DataW.TrodAll enc Try.prog W 0 (fun _ => true) true Try.f10.params.toList args.toList ds p := hA0
  rw [Try.params10] at hA hval
  obtain ⟨v0, vs0, d0, ds0, p0, q0, hargs, rfl, rfl, h0, r0⟩ := trodAll_cons hA
  obtain ⟨v1, vs1, d1, ds1, p1, q1, rfl, rfl, rfl, h1, r1⟩ := trodAll_cons r0
  obtain ⟨v2, vs2, d2, ds2, p2, q2, rfl, rfl, rfl, h2, r2⟩ := trodAll_cons r1
  obtain ⟨v3, vs3, d3, ds3, p3, q3, rfl, rfl, rfl, h3, r3⟩ := trodAll_cons r2
  obtain ⟨v4, vs4, d4, ds4, p4, q4, rfl, rfl, rfl, h4, r4⟩ := trodAll_cons r3
  obtain ⟨rfl, rfl, rfl⟩ := trodAll_nil r4
  obtain rfl : args = #[v0, v1, v2, v3, v4] := by cases args; simp_all
  obtain ⟨A0, l0, c0, rfl, L0, I0, C0, M0⟩ := open_words Try.underlying44 Try.underlying35 cells_u64 (hval 0 44 v0 rfl rfl) h0
  obtain ⟨A1, l1, c1, rfl, L1, I1, C1, M1⟩ := open_words Try.underlying44 Try.underlying35 cells_u64 (hval 1 44 v1 rfl rfl) h1
  obtain ⟨a2, rfl, _, _, w2⟩ := open_int Try.underlying3 (hval 2 3 v2 rfl rfl) h2
  obtain ⟨a3, rfl, _, _, w3⟩ := open_int Try.underlying35 (hval 3 35 v3 rfl rfl) h3
  obtain ⟨a4, rfl, _, _, w4⟩ := open_int Try.underlying3 (hval 4 3 v4 rfl rfl) h4
  refine (walk A0 l0 c0 L0 I0 C0 M0 A1 l1 c1 L1 I1 C1 M1 a2 (i64_of_wf w2) a3 (u64_of_wf w3) a4 (i64_of_wf w4) W).mono fun e W' ⟨he, hg⟩ => ?_
  subst he
  exact ⟨_, rfl, law_post laid (by rw [Try.params10]; exact (by decide +kernel)) rfl (by kernel_rfl) Try.underlying4 rfl hW' hg⟩

theorem over : Rows.drawStaysRow.holds Try.pinned (OpenSpec.ofChange Rows.drawStaysSpec) :=
  OpenClaim.holds_of_wide 10 Try.f10 rfl rfl rfl rfl rfl rfl rfl ⟨rfl, rfl, rfl, rfl, rfl⟩ rfl rfl rfl rfl rfl (by kernel_rfl) Try.func10 (by kernel_rfl)
    (of_decide_eq_true (by kernel_rfl)) (by unfold Func.isWrapper; first | (rw [if_pos (by decide +kernel)]; kernel_rfl) | (rw [if_neg (by decide +kernel)]; exact ⟨rfl, rfl⟩))
    (fun os started H enc _ => lifted os started H enc)
theorem proved : Rows.DrawStaysSaid := over
end Go.Proofs.Ytihfhdnldpjjdaa.drawStays
