/- Statement PathEnds: whatever the input is, the Go function returns true and each argument reads as it did. No condition. -/
import Derived.Test.YtkkeejbgaaodeaaRows
import Derived.Test.YtkkeejbgaaodeaaPatV
import Derived.Test.YtkkeejbgaaodeaaPatU
import Derived.Test.YtkkeejbgaaodeaaTrE
import Derived.Test.YtkkeejbgaaodeaaVecT
import Derived.Test.YtkkeejbgaaodeaaBase
import Derived.ProofKit
import Derived.OpenShut
namespace Go.Proofs.Ytkkeejbgaaodeaa.pathEnds
open Go.ChangeShapes Go.WideShapes Go.ChangeAt Go.RowKit
set_option linter.unusedVariables false

theorem own : ownKnob Try.prog.godebug = none := by kernel_rfl
theorem laid : laidOutB Try.prog = true := by kernel_rfl

theorem fold_bd : ∀ (l : List Int) (p : Int × Int), (∀ v ∈ l, 0 ≤ v ∧ v ≤ 274877906944) → (0 ≤ p.1 ∧ p.1 ≤ 274877906944) ∧ 0 ≤ p.2 ∧ p.2 ≤ 274877906944 → (0 ≤ (l.foldl mmE p).1 ∧ (l.foldl mmE p).1 ≤ 274877906944) ∧ 0 ≤ (l.foldl mmE p).2 ∧ (l.foldl mmE p).2 ≤ 274877906944
  | [], p, _, h => h
  | a :: l, p, hv, h => by
    rw [List.foldl_cons]
    refine fold_bd l _ (fun v hm => hv v (List.mem_cons_of_mem _ hm)) ?_
    have ha := hv a (List.mem_cons_self ..)
    unfold mmE
    simp only
    omega
theorem enS_bd {N : List TN} {dm : Int} (hT : isT N dm = true) : (0 ≤ (enS N (allT N dm)).1 ∧ (enS N (allT N dm)).1 ≤ 274877906944) ∧ 0 ≤ (enS N (allT N dm)).2 ∧ (enS N (allT N dm)).2 ≤ 274877906944 := by
  have e : enS N (allT N dm) = (lnL N dm).foldl mmE (274877906944, 0) := by
    unfold enS lnL levL
    rw [ends_fold]
  rw [e]
  exact fold_bd _ _ (fun v hv => lnL_bd hT hv) (by simp)
theorem root_sz {N : List TN} {dm : Int} (hT : isT N dm = true) : 1 ≤ (N.getD 0 tn0).sz ∧ (N.getD 0 tn0).sz ≤ 64 := by
  obtain ⟨_, _, h3, d, h4, _⟩ := isT_iff.1 hT
  exact ⟨h4.count.1, h3⟩
theorem prod_b2 {a b : Int} (ha : 0 ≤ a ∧ a ≤ 274877906944) (hb : 1 ≤ b ∧ b ≤ 64) : ∃ p, p = a * b ∧ wrap64 (a * b) = p ∧ 0 ≤ p ∧ p ≤ 274877906944 * 64 := by
  have h := prod_bd ha hb
  exact ⟨_, rfl, by unfold wrap64; omega, h⟩
set_option maxRecDepth 100000 in
set_option maxHeartbeats 8000000 in
theorem walk {w : World} (da : Int) (A : Option Addr) (N : List TN) (ca : Nat) (hA : LiesT w w.heap.size A N) (oA : okT N) (hca : N.length ≤ ca) (hma : ca ≤ 9223372036854775807) (wa : I64 da)
    (B : Option Addr) (x : List Int) (cb : Nat) (hB : Lies w w.heap.size B x) (hx : ∀ y ∈ x, I64 y) (hcb : x.length ≤ cb) (hmb : cb ≤ 9223372036854775807) (_ : World) :
    Calls Try.prog 10 #[.agg #[.int .i64 da, .slice A N.length ca], .slice B x.length cb] w fun e w' => e = .returned (.bool true) ∧ Below w.heap.size w w' := by
  have HX := Lib.hid ((Kpc.start w).alloc #[.int .i64 da, .slice A N.length ca] 24)
  obtain ⟨y0, y1, _, _⟩ := HX.out.head.two
  have K1 := Lib.hid (fun W (h : Below w.heap.size w W) => ref_MuchT N da A ca w.heap.size W (by omega) (hA.below h) h.size)
  by_cases h1 : muchT N = true ∨ 20 < x.length
  · clear hA hB oA hx
    cases h2 : muchT N with
    | true =>
      rw [h2] at K1
      clear h1 h2
      generalize N.length = n at *
      generalize x.length = m at *
      go_enter Try.func10, Try.ntmps10
      go_wp2_with fail
      refine (K1.out _ HX.out.2.1).mono ?_
      rintro e w1 ⟨rfl, b1⟩
      have J2 := Lib.hid (HX.out.below b1)
      go_wp2_with fail
      refine (lives12 _).mono ?_
      rintro e wl ⟨rfl, hl⟩
      have JL := Lib.hid (J2.out.below hl)
      go_wp2
      go_ret
      exact ⟨rfl, JL.out.2.1⟩
    | false =>
      rw [h2] at K1 h1
      have g1 : (20 : Int) < (x.length : Int) := by
        rcases h1 with h | h
        · cases h
        · omega
      clear h1 h2
      generalize N.length = n at *
      generalize x.length = m at *
      go_enter Try.func10, Try.ntmps10
      go_wp2_with fail
      refine (K1.out _ HX.out.2.1).mono ?_
      rintro e w1 ⟨rfl, b1⟩
      have J2 := Lib.hid (HX.out.below b1)
      go_wp2_with fail
      refine (lives12 _).mono ?_
      rintro e wl ⟨rfl, hl⟩
      have JL := Lib.hid (J2.out.below hl)
      go_wp2
      go_ret
      exact ⟨rfl, JL.out.2.1⟩
  · have h2 : muchT N = false := by
      cases h : muchT N with
      | false => rfl
      | true => exact absurd (.inl h) h1
    have g1 : ¬ (20 : Int) < (x.length : Int) := by omega
    rw [h2] at K1
    obtain ⟨n1, n2⟩ := muchT_len h2
    have KE := Lib.hid (fun W (h : Below w.heap.size w W) => path_Ends N da A ca w.heap.size W (by omega) oA (hA.below h) h.size)
    have KE2 := Lib.hid (fun W (h : Below w.heap.size w W) => ref_Ends12 N da A ca w.heap.size W (by omega) (hA.below h) h.size)
    have KW := Lib.hid (fun W (h : Below w.heap.size w W) => path_Weight N da A ca w.heap.size W (by omega) oA (hA.below h) h.size)
    have KW2 := Lib.hid (fun W (h : Below w.heap.size w W) => ref_Weight12 N da A ca w.heap.size W (by omega) (hA.below h) h.size)
    have KL := Lib.hid (fun W (h : Below w.heap.size w W) => path_Length N da A B x ca cb w.heap.size W (by omega) oA (hA.below h) (hB.below h) (by omega) hcb h.size)
    cases hT : isT N da with
    | false =>
      have hv : wtS N (allT N da) = 0 := by rw [allT_no hT]; rfl
      have hln : lenT N da x = (0, 100) := by unfold lenT leafT; rw [hT]; rfl
      rw [hT] at KE KE2 KW KW2
      rw [hv] at KW KW2
      rw [hln] at KL
      simp only [Bool.false_eq_true, if_false] at KE KE2 KW KW2 KL
      clear hA hB oA hx h1 h2 n2 hv hln hT
      generalize N.length = n at *
      generalize x.length = m at *
      go_enter Try.func10, Try.ntmps10
      go_wp2_with fail
      refine (K1.out _ HX.out.2.1).mono ?_
      rintro e w1 ⟨rfl, b1⟩
      have J1 := Lib.hid (HX.out.below b1)
      clear b1 y0 y1
      obtain ⟨y0, y1, _, _⟩ := J1.out.head.two
      go_wp2_with fail
      refine (KE.out _ J1.out.2.1).mono ?_
      rintro e w2 ⟨rfl, b2⟩
      have J2 := Lib.hid (J1.out.below b2)
      clear b2 y0 y1
      obtain ⟨y0, y1, _, _⟩ := J2.out.head.two
      go_wp2_with fail
      refine (KE2.out _ J2.out.2.1).mono ?_
      rintro e w3 ⟨rfl, b3⟩
      have J3 := Lib.hid (J2.out.below b3)
      clear b3 y0 y1
      obtain ⟨y0, y1, _, _⟩ := J3.out.head.two
      go_wp2_with fail
      refine (KW.out _ J3.out.2.1).mono ?_
      rintro e w4 ⟨rfl, b4⟩
      have J4 := Lib.hid (J3.out.below b4)
      clear b4 y0 y1
      obtain ⟨y0, y1, _, _⟩ := J4.out.head.two
      go_wp2_with fail
      refine (KW2.out _ J4.out.2.1).mono ?_
      rintro e w5 ⟨rfl, b5⟩
      have J5 := Lib.hid (J4.out.below b5)
      clear b5 y0 y1
      obtain ⟨y0, y1, _, _⟩ := J5.out.head.two
      go_wp2_with fail
      refine (KL.out _ J5.out.2.1).mono ?_
      rintro e w6 ⟨rfl, b6⟩
      have J6 := Lib.hid (J5.out.below b6)
      clear b6 y0 y1
      go_wp2_with fail
      refine (lives12 _).mono ?_
      rintro e wl ⟨rfl, hl⟩
      have JL := Lib.hid (J6.out.below hl)
      go_wp2
      go_ret
      exact ⟨rfl, JL.out.2.1⟩
    | true =>
      have hb := enS_bd hT
      have hz := root_sz hT
      have hwt := ends_wt hT
      have hlen := isT_len hT
      have HLE : Hid ((lenT N da x).2 = 0 → (enS N (allT N da)).1 ≤ (lenT N da x).1 ∧ (lenT N da x).1 ≤ (enS N (allT N da)).2) := fun h => by
        by_cases hxv : isV x da = true
        · exact ends_at hT hxv
        · rw [lenT_no hT hxv] at h
          exact absurd h (by simp)
      have HA0 : Hid (∀ W, Below w.heap.size w W → ∃ ad : Addr, A = some ad ∧ W.cell? ⟨ad.block, ad.off + 4, none⟩ = some (.int .i64 (N.getD 0 tn0).sz)) := fun W h => by
        obtain ⟨ad, e, _, ⟨_, _, _, _, c4⟩, _⟩ := (hA.below h).at (k := 0) (by omega)
        have e2 : ad.add (0 * 5) = ad := by cases ad; simp [Addr.add]
        rw [e2] at c4
        exact ⟨ad, e, c4⟩
      rw [hT] at KE KE2 KW KW2
      simp only [if_true] at KE KE2 KW KW2 KL
      generalize wtS N (allT N da) = k at *
      generalize enS N (allT N da) = Z at *
      obtain ⟨lo, hi⟩ := Z
      generalize lenT N da x = Y at *
      obtain ⟨ln, r⟩ := Y
      simp only at *
      generalize (N.getD 0 tn0).sz = sz at *
      obtain ⟨p1, hp1, hw1, b11, b12⟩ := prod_b2 hb.1 hz
      obtain ⟨p2, hp2, hw2, b21, b22⟩ := prod_b2 hb.2 hz
      rw [← hp1, ← hp2] at hwt
      obtain ⟨hk1, hk2⟩ := hwt
      have q1 : ¬ k < p1 := by omega
      have q2 : ¬ p2 < k := by omega
      have hn0 : (0 : Int) < (N.length : Int) := by omega
      have e1 : (lo != lo) = false := by simp
      have e2 : (hi != hi) = false := by simp
      have e3 : (k != k) = false := by simp
      clear hA hB oA hx h1 h2 n2 hT hp1 hp2 hlen
      generalize N.length = n at *
      generalize x.length = m at *
      by_cases hr : r = 0
      · obtain ⟨hl1, hl2⟩ := HLE.out hr
        subst hr
        have q3 : ¬ ln < lo := by omega
        have q4 : ¬ hi < ln := by omega
        go_enter Try.func10, Try.ntmps10
        go_wp2_with fail
        refine (K1.out _ HX.out.2.1).mono ?_
        rintro e w1 ⟨rfl, b1⟩
        have J1 := Lib.hid (HX.out.below b1)
        clear b1 y0 y1
        obtain ⟨y0, y1, _, _⟩ := J1.out.head.two
        go_wp2_with fail
        refine (KE.out _ J1.out.2.1).mono ?_
        rintro e w2 ⟨rfl, b2⟩
        have J2 := Lib.hid (J1.out.below b2)
        clear b2 y0 y1
        obtain ⟨y0, y1, _, _⟩ := J2.out.head.two
        go_wp2_with fail
        refine (KE2.out _ J2.out.2.1).mono ?_
        rintro e w3 ⟨rfl, b3⟩
        have J3 := Lib.hid (J2.out.below b3)
        clear b3 y0 y1
        obtain ⟨y0, y1, _, _⟩ := J3.out.head.two
        go_wp2_with fail
        refine (KW.out _ J3.out.2.1).mono ?_
        rintro e w4 ⟨rfl, b4⟩
        have J4 := Lib.hid (J3.out.below b4)
        clear b4 y0 y1
        obtain ⟨y0, y1, _, _⟩ := J4.out.head.two
        go_wp2_with fail
        refine (KW2.out _ J4.out.2.1).mono ?_
        rintro e w5 ⟨rfl, b5⟩
        have J5 := Lib.hid (J4.out.below b5)
        clear b5 y0 y1
        obtain ⟨y0, y1, _, _⟩ := J5.out.head.two
        go_wp2_with fail
        refine (KL.out _ J5.out.2.1).mono ?_
        rintro e w6 ⟨rfl, b6⟩
        have J6 := Lib.hid (J5.out.below b6)
        clear b6 y0 y1
        obtain ⟨y0, y1, _, _⟩ := J6.out.head.two
        obtain ⟨ad, eA, c4⟩ := HA0.out _ J6.out.2.1
        subst eA
        go_wp2_with fail
        refine (lives12 _).mono ?_
        rintro e wl ⟨rfl, hl⟩
        have JL := Lib.hid (J6.out.below hl)
        go_wp2
        go_ret
        exact ⟨rfl, JL.out.2.1⟩
      · have hr0 : (r == 0) = false := by simpa using hr
        go_enter Try.func10, Try.ntmps10
        go_wp2_with fail
        refine (K1.out _ HX.out.2.1).mono ?_
        rintro e w1 ⟨rfl, b1⟩
        have J1 := Lib.hid (HX.out.below b1)
        clear b1 y0 y1
        obtain ⟨y0, y1, _, _⟩ := J1.out.head.two
        go_wp2_with fail
        refine (KE.out _ J1.out.2.1).mono ?_
        rintro e w2 ⟨rfl, b2⟩
        have J2 := Lib.hid (J1.out.below b2)
        clear b2 y0 y1
        obtain ⟨y0, y1, _, _⟩ := J2.out.head.two
        go_wp2_with fail
        refine (KE2.out _ J2.out.2.1).mono ?_
        rintro e w3 ⟨rfl, b3⟩
        have J3 := Lib.hid (J2.out.below b3)
        clear b3 y0 y1
        obtain ⟨y0, y1, _, _⟩ := J3.out.head.two
        go_wp2_with fail
        refine (KW.out _ J3.out.2.1).mono ?_
        rintro e w4 ⟨rfl, b4⟩
        have J4 := Lib.hid (J3.out.below b4)
        clear b4 y0 y1
        obtain ⟨y0, y1, _, _⟩ := J4.out.head.two
        go_wp2_with fail
        refine (KW2.out _ J4.out.2.1).mono ?_
        rintro e w5 ⟨rfl, b5⟩
        have J5 := Lib.hid (J4.out.below b5)
        clear b5 y0 y1
        obtain ⟨y0, y1, _, _⟩ := J5.out.head.two
        go_wp2_with fail
        refine (KL.out _ J5.out.2.1).mono ?_
        rintro e w6 ⟨rfl, b6⟩
        have J6 := Lib.hid (J5.out.below b6)
        clear b6 y0 y1
        obtain ⟨y0, y1, _, _⟩ := J6.out.head.two
        obtain ⟨ad, eA, c4⟩ := HA0.out _ J6.out.2.1
        subst eA
        go_wp2_with fail
        refine (lives12 _).mono ?_
        rintro e wl ⟨rfl, hl⟩
        have JL := Lib.hid (J6.out.below hl)
        go_wp2
        go_ret
        exact ⟨rfl, JL.out.2.1⟩

set_option maxRecDepth 100000 in
theorem lifted (os : Os) (started : os.Started) (H : Type) (enc : TypeId × Value → H) :
    ReturnsInHanded {} Try.checked os 10 .any (Rows.pathEndsSpec.pre6 enc Try.prog Try.f10 Rows.pathEndsRow.domain false) (Rows.pathEndsSpec.post enc Try.prog Try.f10 false true false false) := by
  refine returnsInHanded_of_change (C := Try.checked) own started (by kernel_rfl) Try.func10
    (ChangeSpec.witness6 (enc := enc) (C := Try.checked) false ⟨#[], #[.agg #[.int .i64 0, .slice none 0 0], .slice none 0 0], []⟩ 8 (by kernel_rfl) (by kernel_rfl) (by kernel_rfl) (by kernel_rfl)) ?_
  intro W base args ds gs before hval0 hW hcnd _
  have hval : ∀ (j : Nat) t v, Try.f10.params[j]? = some t → args[j]? = some v → Value.okWide Try.prog W .any base t v := hval0
  have hW' := hW
  obtain ⟨p, q, hA0, hV, rfl, hfz, hnd⟩ := hW
  obtain ⟨rfl, rfl⟩ := trodVars_none hV
  have hA : DataW.TrodAll enc Try.prog W 0 (fun _ => true) true Try.f10.params.toList args.toList ds p := hA0
  rw [Try.params10] at hA hval
  obtain ⟨v0, vs0, d0, ds0, p0, q0, hargs, rfl, rfl, h0, r0⟩ := trodAll_cons hA
  obtain ⟨v1, vs1, d1, ds1, p1, q1, rfl, rfl, rfl, h1, r1⟩ := trodAll_cons r0
  obtain ⟨rfl, rfl, rfl⟩ := trodAll_nil r1
  obtain rfl : args = #[v0, v1] := by cases args; simp_all
  obtain ⟨a0, A0, N0, c0, rfl, L0, O0, C0, M0, w0⟩ := open_tree (hval 0 24 v0 rfl rfl) h0
  obtain ⟨A1, l1, c1, rfl, L1, I1, C1, M1⟩ := open_ints8 Try.underlying35 Try.underlying3 cells_i8 (hval 1 35 v1 rfl rfl) h1
  refine (walk a0 A0 N0 c0 L0 O0 C0 M0 w0 A1 l1 c1 L1 I1 C1 M1 W).mono fun e W' ⟨he, hg⟩ => ?_
  subst he
  exact ⟨_, rfl, law_post laid (by rw [Try.params10]; exact (by decide +kernel)) rfl (by kernel_rfl) Try.underlying4 rfl hW' hg⟩

theorem over : Rows.pathEndsRow.holds Try.pinned (OpenSpec.ofChange Rows.pathEndsSpec) :=
  OpenClaim.holds_of_wide 10 Try.f10 rfl rfl rfl rfl rfl rfl rfl ⟨rfl, rfl, rfl, rfl, rfl⟩ rfl rfl rfl rfl rfl (by kernel_rfl) Try.func10 (by kernel_rfl)
    (of_decide_eq_true (by kernel_rfl)) (by unfold Func.isWrapper; first | (rw [if_pos (by decide +kernel)]; kernel_rfl) | (rw [if_neg (by decide +kernel)]; exact ⟨rfl, rfl⟩))
    (fun os started H enc _ => lifted os started H enc)
theorem proved : Rows.PathEndsSaid := over
end Go.Proofs.Ytkkeejbgaaodeaa.pathEnds
