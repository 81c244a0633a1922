/- Statement PathSums: whatever the input is, the Go function returns true and each argument reads as it did. No condition. -/
import Derived.Test.YtkkeejbgaaodeaaRows
import Derived.Test.YtkkeejbgaaodeaaPatM
import Derived.Test.YtkkeejbgaaodeaaPatS
import Derived.Test.YtkkeejbgaaodeaaPatU
import Derived.Test.YtkkeejbgaaodeaaTrE
import Derived.Test.YtkkeejbgaaodeaaVecT
import Derived.Test.YtkkeejbgaaodeaaBase
import Derived.ProofKit
import Derived.OpenShut
namespace Go.Proofs.Ytkkeejbgaaodeaa.pathSums
open Go.ChangeShapes Go.WideShapes Go.ChangeAt Go.RowKit
set_option linter.unusedVariables false

theorem own : ownKnob Try.prog.godebug = none := by kernel_rfl
theorem laid : laidOutB Try.prog = true := by kernel_rfl

theorem alkV_iff {T : List TT} : alkV T = 0 ↔ 0 < T.length ∧ ∀ t ∈ T, isT t.n t.dim = true ∧ t.dim = (T.getD 0 tt0).dim := by
  constructor
  · intro h
    obtain ⟨h0, h1⟩ := alkV_zero h
    refine ⟨h0, fun t ht => ?_⟩
    obtain ⟨j, hj, rfl⟩ := List.mem_iff_getElem.1 ht
    have := alkK_at hj h1
    rw [List.getD_eq_getElem?_getD, List.getElem?_eq_getElem hj, Option.getD_some] at this
    exact this
  · rintro ⟨h0, h1⟩
    refine Classical.byContradiction fun h => ?_
    have key : ∀ k, k ≤ T.length → alkK T k = true := fun k => by
      induction k with
      | zero => intro _; rfl
      | succ k ih =>
        intro hk
        have h2 := h1 _ (mem_tt (show k < T.length by omega))
        rw [alkK, ih (by omega), h2.1, h2.2]
        simp
    exact h (alkV_good h0 (key _ (Nat.le_refl _)))
theorem sumK_take (T : List TT) (x : List Int) : ∀ k, k ≤ T.length → sumK T x k = ((T.take k).map (fun t => (lenT t.n t.dim x).1)).sum
  | 0, _ => by simp [sumK]
  | k + 1, h => by
    have e : T.take (k + 1) = T.take k ++ [T.getD k tt0] := by
      rw [List.take_succ_eq_append_getElem (by omega : k < T.length)]
      simp [List.getD, show k < T.length by omega]
    rw [sumK, sumK_take T x k (by omega), e]
    simp
theorem sum_rev (l : List Int) : l.reverse.sum = l.sum := by
  induction l with
  | nil => rfl
  | cons a l ih => rw [List.reverse_cons, List.sum_append, ih, List.sum_cons]; simp; omega
theorem head_mem {T : List TT} (h : 0 < T.length) : T.getD 0 tt0 ∈ T := mem_tt h
theorem sumV_rev (T : List TT) (x : List Int) : sumV T.reverse x = sumV T x := by
  have hh : ∀ (P Q : List TT), (∀ t, t ∈ P ↔ t ∈ Q) → 0 < Q.length → (∀ t ∈ P, isT t.n t.dim = true ∧ t.dim = (P.getD 0 tt0).dim) → 0 < P.length → (∀ t ∈ Q, isT t.n t.dim = true ∧ t.dim = (Q.getD 0 tt0).dim) ∧ (P.getD 0 tt0).dim = (Q.getD 0 tt0).dim := fun P Q hm h0 h1 hp => by
    have e := (h1 _ ((hm _).2 (head_mem h0))).2
    exact ⟨fun t ht => ⟨(h1 t ((hm t).2 ht)).1, by rw [(h1 t ((hm t).2 ht)).2, e]⟩, e.symm⟩
  have ha : alkV T.reverse = 0 ↔ alkV T = 0 := by
    rw [alkV_iff, alkV_iff]
    constructor
    · rintro ⟨h0, h1⟩
      exact ⟨by simpa using h0, (hh T.reverse T (fun t => List.mem_reverse) (by simpa using h0) h1 h0).1⟩
    · rintro ⟨h0, h1⟩
      exact ⟨by simpa using h0, (hh T T.reverse (fun t => List.mem_reverse.symm) (by simpa using h0) h1 h0).1⟩
  unfold sumV
  rw [List.length_reverse]
  by_cases h16 : 16 < T.length
  · rw [if_pos h16, if_pos h16]
  · rw [if_neg h16, if_neg h16]
    by_cases h0 : alkV T = 0
    · obtain ⟨g0, g1⟩ := alkV_iff.1 h0
      have e := (hh T T.reverse (fun t => List.mem_reverse.symm) (by simpa using g0) g1 g0).2
      rw [if_pos h0, if_pos (ha.2 h0), e]
      have es : sumK T.reverse x T.length = sumK T x T.length := by
        rw [sumK_take T.reverse x T.length (by simp), sumK_take T x T.length (Nat.le_refl _), List.take_of_length_le (by simp), List.take_of_length_le (Nat.le_refl _), List.map_reverse, sum_rev]
      rw [es]
    · rw [if_neg h0, if_neg (fun h => h0 (ha.1 h))]
theorem muchTs_len {T : List TT} (h : muchTs T = false) : T.length ≤ 30 ∧ ∀ t ∈ T, t.n.length ≤ 200 := by
  unfold muchTs at h
  rw [decide_eq_false_iff_not] at h
  refine ⟨Nat.not_lt.1 fun g => h (.inl g), fun t ht => ?_⟩
  have h2 : muchT t.n = false := by
    cases h3 : muchT t.n with
    | false => rfl
    | true => exact absurd (.inr ⟨t, ht, h3⟩) h
  have := (muchT_len h2).1
  omega
theorem rev_step {T : List TT} {k : Nat} (hk : k < T.length) : (T.drop (k + 1)).reverse ++ [T.getD k tt0] = (T.drop k).reverse := by
  rw [List.drop_eq_getElem_cons hk, List.reverse_cons]
  simp [List.getD, hk]
set_option maxRecDepth 100000 in
set_option maxHeartbeats 8000000 in
theorem walk {w : World} (A : Option Addr) (T : List TT) (c : Nat) (hA : LiesTs w w.heap.size A T) (oT : ∀ t ∈ T, okT t.n ∧ t.n.length ≤ 9223372036854775807) (hc : T.length ≤ c) (hm : c ≤ 9223372036854775807)
    (B : Option Addr) (x : List Int) (cb : Nat) (hB : Lies w w.heap.size B x) (hx : ∀ y ∈ x, I64 y) (hcb : x.length ≤ cb) (hmb : cb ≤ 9223372036854775807) (_ : World) :
    Calls Try.prog 11 #[.slice A T.length c, .slice B x.length cb] w fun e w' => e = .returned (.bool true) ∧ Below w.heap.size w w' := by
  have K1 := Lib.hid (ref_Much12 T A c w.heap.size w (by omega) (fun t ht => (oT t ht).2) hA (Nat.le_refl _))
  by_cases h1 : muchTs T = true ∨ 20 < x.length
  · clear hA hB hx oT
    cases h2 : muchTs T with
    | true =>
      rw [h2] at K1
      clear h1 h2
      generalize T.length = n at *
      generalize x.length = m at *
      go_enter Try.func11, Try.ntmps11
      go_wp2_with fail
      refine K1.out.mono ?_
      rintro e w1 ⟨rfl, b1⟩
      have HB1 := Lib.hid b1
      go_wp2_with fail
      refine (lives12 _).mono ?_
      rintro e wl ⟨rfl, hl⟩
      have hfin : Below w.heap.size w wl := HB1.out.trans (hl.mono HB1.out.size)
      go_wp2
      go_ret
      exact ⟨rfl, hfin⟩
    | false =>
      rw [h2] at K1 h1
      have g1 : (20 : Int) < (x.length : Int) := by
        rcases h1 with h | h
        · cases h
        · omega
      clear h1 h2
      generalize T.length = n at *
      generalize x.length = m at *
      go_enter Try.func11, Try.ntmps11
      go_wp2_with fail
      refine K1.out.mono ?_
      rintro e w1 ⟨rfl, b1⟩
      have HB1 := Lib.hid b1
      go_wp2_with fail
      refine (lives12 _).mono ?_
      rintro e wl ⟨rfl, hl⟩
      have hfin : Below w.heap.size w wl := HB1.out.trans (hl.mono HB1.out.size)
      go_wp2
      go_ret
      exact ⟨rfl, hfin⟩
  · have h2 : muchTs T = false := by
      cases h : muchTs T with
      | false => rfl
      | true => exact absurd (.inl h) h1
    have g1 : ¬ (20 : Int) < (x.length : Int) := by omega
    rw [h2] at K1
    obtain ⟨n1, n2⟩ := muchTs_len h2
    have ok : okTs T := fun t ht => ⟨(oT t ht).1, by have := n2 t ht; omega⟩
    have okr : okTs T.reverse := fun t ht => ok t (List.mem_reverse.1 ht)
    have KS := Lib.hid (fun W (h : Below w.heap.size w W) => path_Sum T A B x c cb w.heap.size W (by omega) ok (hA.below h) (hB.below h) (by omega) hcb h.size)
    have KS2 := Lib.hid (fun W (h : Below w.heap.size w W) => ref_Sum12 T A B x c cb w.heap.size W (by omega) ok (hA.below h) (hB.below h) h.size)
    have KS3 := Lib.hid (fun W A' c' (h : Below w.heap.size w W) (hl : LiesTs W W.heap.size A' T.reverse) => path_Sum T.reverse A' B x c' cb W.heap.size W (by simp; omega) okr hl ((hB.below h).mono h.size) (by omega) hcb (Nat.le_refl _))
    rw [sumV_rev] at KS3
    have HA := Lib.hid (fun W (h : Below w.heap.size w W) => hA.below h)
    have HAL : Hid (∀ W, Below w.heap.size w W → ∀ t ∈ T.reverse, LiesT W W.heap.size t.a t.n) := fun W h t ht => ((hA.2 t (List.mem_reverse.1 ht)).below h).mono h.size
    have HR := Lib.hid (fun k hk => rev_step (T := T) (k := k) hk)
    have HR0 : Hid ((T.drop T.length).reverse = []) := by show _ = _; simp
    have HRL : Hid (∀ k, ((T.drop k).reverse).length ≤ 30) := fun k => by rw [List.length_reverse, List.length_drop]; omega
    have HRZ : Hid ((T.drop 0).reverse = T.reverse) := rfl
    generalize sumV T x = Z at *
    obtain ⟨p, r⟩ := Z
    simp only at KS KS2 KS3
    have e1 : (p == p) = true := by simp
    have e2 : (r == r) = true := by simp
    clear hA hB hx h1 h2 n2 ok okr oT
    obtain ⟨M, hM⟩ : ∃ M, M = T.length := ⟨_, rfl⟩
    have HM := Lib.hid hM
    rw [← hM] at hc n1 K1 KS KS2 HR0 ⊢
    have hr : T.reverse.length = M := by rw [List.length_reverse, hM]
    rw [hr] at KS3
    clear hM
    generalize x.length = m at *
    go_enter Try.func11, Try.ntmps11
    go_wp2_with fail
    refine K1.out.mono ?_
    rintro e w1 ⟨rfl, b1⟩
    have HB1 := Lib.hid b1
    clear b1
    have hn1 : (M : Int) ≤ 30 := by omega
    go_wp2
    go_loopw [5, 6] (fun v iv wr => ∃ k : Nat, k ≤ M ∧ iv = .int .i64 ((k : Int) - 1) ∧ Hid (OwnTt wr w1.heap.size v (T.drop k).reverse) ∧ Hid (Below w1.heap.size w1 wr)) (fun _ iv _ => (intOf iv + 1).toNat)
    case atStart =>
      refine ⟨M, by omega, rfl, ?_, Below.refl _ _⟩
      show OwnTt _ _ _ _
      rw [HR0.out]
      exact World.ownsRow_nil _ _ _ _
    case round =>
      obtain ⟨k, hk, rfl, HO, HB⟩ := hrel
      have HBw : Hid (Below w.heap.size w wr) := HB1.out.trans (HB.out.mono HB1.out.size)
      have hsz := HB.out.size
      cases k with
      | zero =>
        have ho := HO.out
        rw [HRZ.out] at ho
        obtain ⟨A', c', rfl, hl⟩ := ho.lies (HAL.out _ HBw.out)
        have HL := Lib.hid hl
        rw [hr]
        clear ho hl HO
        go_wp2_with fail
        refine (KS.out _ HBw.out).mono ?_
        rintro e w2 ⟨rfl, b2⟩
        have HB2 : Hid (Below w.heap.size w w2) := HBw.out.trans (b2.mono HBw.out.size)
        have HL2 := Lib.hid ((HL.out.below b2).mono b2.size)
        clear b2
        go_wp2_with fail
        refine (KS2.out _ HB2.out).mono ?_
        rintro e w3 ⟨rfl, b3⟩
        have HB3 : Hid (Below w.heap.size w w3) := HB2.out.trans (b3.mono HB2.out.size)
        have HL3 := Lib.hid ((HL2.out.below b3).mono b3.size)
        clear b3
        go_wp2_with fail
        refine (KS3.out _ _ _ HB3.out HL3.out).mono ?_
        rintro e w4 ⟨rfl, b4⟩
        have HB4 : Hid (Below w.heap.size w w4) := HB3.out.trans (b4.mono HB3.out.size)
        clear b4
        go_wp2_with fail
        refine (lives12 _).mono ?_
        rintro e wl ⟨rfl, hl⟩
        have hfin : Below w.heap.size w wl := HB4.out.trans (hl.mono HB4.out.size)
        go_wp2
        go_ret
        exact ⟨rfl, hfin⟩
      | succ k =>
        have hkT : k < T.length := by have := HM.out; omega
        have hkg : (k : Int) < (M : Int) := by omega
        have ek : ((k + 1 : Nat) : Int) - 1 = (k : Int) := by omega
        rw [ek]
        obtain ⟨ad, eA, _, ⟨c0, c1⟩, _⟩ := (HA.out _ HBw.out).at hkT
        subst eA
        have HR1 := Lib.hid (HR.out k hkT)
        have hll : (T.drop (k + 1)).reverse.length ≤ 1000000 := by have := HRL.out (k + 1); omega
        have hbx := Lib.hid (Box.new wr (ttC (T.getD k tt0)) 24)
        have HO1 := Lib.hid (HO.out.below ((Below.refl _ _).alloc (Nat.le_refl _) (.cells (ttC (T.getD k tt0)) 24)))
        have hbl := Lib.hid ((Below.refl w1.heap.size wr).alloc hsz (.cells (ttC (T.getD k tt0)) 24))
        have hsz1 := hbl.out.size
        generalize hT : T.getD k tt0 = t at *
        obtain ⟨td, ta, tc, tn⟩ := t
        simp only at c0 c1
        have hsz2 := Nat.le_trans hsz hsz1
        go_wp2_with (at_builtin; refine app_tt rfl (.tmp 28) (.tmp 33) rfl _ (T.drop (k + 1)).reverse ⟨td, ta, tc, tn⟩ wr.heap.size rfl rfl HO1.out hbx.out hsz2 hll ?_; intro v' w4 hown4 hb4)
        exact ⟨⟨k, by omega, by go_num, by show OwnTt _ _ _ _; rw [← HR1.out]; exact hown4, (HB.out.trans hbl.out).trans hb4⟩, by first | (simp [intOf]; done) | (simp [intOf]; omega)⟩

set_option maxRecDepth 100000 in
theorem lifted (os : Os) (started : os.Started) (H : Type) (enc : TypeId × Value → H) :
    ReturnsInHanded {} Try.checked os 11 .any (Rows.pathSumsSpec.pre6 enc Try.prog Try.f11 Rows.pathSumsRow.domain false) (Rows.pathSumsSpec.post enc Try.prog Try.f11 false true false false) := by
  refine returnsInHanded_of_change (C := Try.checked) own started (by kernel_rfl) Try.func11
    (ChangeSpec.witness6 (enc := enc) (C := Try.checked) false ⟨#[], #[.slice none 0 0, .slice none 0 0], []⟩ 8 (by kernel_rfl) (by kernel_rfl) (by kernel_rfl) (by kernel_rfl)) ?_
  intro W base args ds gs before hval0 hW hcnd _
  have hval : ∀ (j : Nat) t v, Try.f11.params[j]? = some t → args[j]? = some v → Value.okWide Try.prog W .any base t v := hval0
  have hW' := hW
  obtain ⟨p, q, hA0, hV, rfl, hfz, hnd⟩ := hW
  obtain ⟨rfl, rfl⟩ := trodVars_none hV
  have hA : DataW.TrodAll enc Try.prog W 0 (fun _ => true) true Try.f11.params.toList args.toList ds p := hA0
  rw [Try.params11] at hA hval
  obtain ⟨v0, vs0, d0, ds0, p0, q0, hargs, rfl, rfl, h0, r0⟩ := trodAll_cons hA
  obtain ⟨v1, vs1, d1, ds1, p1, q1, rfl, rfl, rfl, h1, r1⟩ := trodAll_cons r0
  obtain ⟨rfl, rfl, rfl⟩ := trodAll_nil r1
  obtain rfl : args = #[v0, v1] := by cases args; simp_all
  obtain ⟨A0, T0, c0, rfl, L0, O0, C0, M0⟩ := open_trees (hval 0 53 v0 rfl rfl) h0
  obtain ⟨A1, l1, c1, rfl, L1, I1, C1, M1⟩ := open_ints8 Try.underlying35 Try.underlying3 cells_i8 (hval 1 35 v1 rfl rfl) h1
  refine (walk A0 T0 c0 L0 O0 C0 M0 A1 l1 c1 L1 I1 C1 M1 W).mono fun e W' ⟨he, hg⟩ => ?_
  subst he
  exact ⟨_, rfl, law_post laid (by rw [Try.params11]; exact (by decide +kernel)) rfl (by kernel_rfl) Try.underlying4 rfl hW' hg⟩

theorem over : Rows.pathSumsRow.holds Try.pinned (OpenSpec.ofChange Rows.pathSumsSpec) :=
  OpenClaim.holds_of_wide 11 Try.f11 rfl rfl rfl rfl rfl rfl rfl ⟨rfl, rfl, rfl, rfl, rfl⟩ rfl rfl rfl rfl rfl (by kernel_rfl) Try.func11 (by kernel_rfl)
    (of_decide_eq_true (by kernel_rfl)) (by unfold Func.isWrapper; first | (rw [if_pos (by decide +kernel)]; kernel_rfl) | (rw [if_neg (by decide +kernel)]; exact ⟨rfl, rfl⟩))
    (fun os started H enc _ => lifted os started H enc)
theorem proved : Rows.PathSumsSaid := over
end Go.Proofs.Ytkkeejbgaaodeaa.pathSums
