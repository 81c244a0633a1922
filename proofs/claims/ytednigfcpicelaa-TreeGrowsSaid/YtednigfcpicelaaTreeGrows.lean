/- Statement TreeGrows: whatever the input is, the Go function returns true and each argument reads as it did. No condition. -/
import Derived.Test.YtednigfcpicelaaRows
import Derived.Test.YtednigfcpicelaaTrB
import Derived.Test.YtednigfcpicelaaVecT
import Derived.Test.YtednigfcpicelaaBase
import Derived.ProofKit
import Derived.OpenShut
namespace Go.Proofs.Ytednigfcpicelaa.treeGrows
open Go.ChangeShapes Go.WideShapes Go.ChangeAt Go.RowKit
set_option linter.unusedVariables false

theorem own : ownKnob Try.prog.godebug = none := by kernel_rfl
theorem laid : laidOutB Try.prog = true := by kernel_rfl

theorem not_much {R : List Row} {l : List Int} (h : ¬ (muchV R 70 = true ∨ 300 < l.length)) : muchV R 70 = false ∧ ¬ (300 : Int) < (l.length : Int) ∧ l.length ≤ 300 := by
  refine ⟨?_, by omega, by omega⟩
  cases h2 : muchV R 70 with
  | false => rfl
  | true => exact absurd (.inl h2) h
set_option maxRecDepth 100000 in
set_option maxHeartbeats 8000000 in
theorem walk {w : World} (k : Int) (hk : I64 k) (D : Option Addr) (R : List Row) (cd : Nat) (hD : LiesR w w.heap.size D R) (hR : OkR R) (hcd : R.length ≤ cd) (hmd : cd ≤ 9223372036854775807)
    (A : Option Addr) (l : List Int) (ca : Nat) (hA : LiesU w w.heap.size A l) (hu : ∀ x ∈ l, U64 x) (hca : l.length ≤ ca) (hma : ca ≤ 9223372036854775807) (a : Int) (ha : I64 a) (t : Int) (ht : I64 t) (_ : World) :
    Calls Try.prog 4 #[.int .i64 k, .slice D R.length cd, .slice A l.length ca, .int .i64 a, .int .i64 t] w fun e w' => e = .returned (.bool true) ∧ Below w.heap.size w w' := by
  have K0 := Lib.hid (ref_Much D R cd w.heap.size 70 w hD (by omega))
  by_cases h1 : muchV R 70 = true ∨ 300 < l.length
  · clear hA hD hu hR
    generalize hmu : muchV R 70 = mu at *
    generalize l.length = N at *
    generalize R.length = Q at *
    cases mu
    · have g1 : (300 : Int) < (N : Int) := by
        rcases h1 with h | h
        · cases h
        · omega
      clear h1 hmu
      go_enter Try.func4, Try.ntmps4
      go_wp2_with fail
      refine K0.out.mono ?_
      rintro e w0 ⟨rfl, rfl⟩
      go_wp2_with fail
      refine (lives10 _).mono ?_
      rintro e wl ⟨rfl, hl⟩
      go_wp2
      go_ret
      exact ⟨rfl, hl⟩
    · clear h1 hmu
      go_enter Try.func4, Try.ntmps4
      go_wp2_with fail
      refine K0.out.mono ?_
      rintro e w0 ⟨rfl, rfl⟩
      go_wp2_with fail
      refine (lives10 _).mono ?_
      rintro e wl ⟨rfl, hl⟩
      go_wp2
      go_ret
      exact ⟨rfl, hl⟩
  · obtain ⟨l4, j1, _⟩ := not_much h1
    rw [l4] at K0
    have KD1 := Lib.hid (tree_Grow D A R l cd ca k a t w hD hR hA hu (by omega) ha (by omega) hcd)
    have KD2 := Lib.hid (fun W (h : Below w.heap.size w W) => ref_Grow D A R l cd ca k a t W ((hD.below h).mono h.size) ((hA.below h).mono h.size) hu (by omega) ha (by omega))
    have HLEN := Lib.hid (groG_len (k := k) (R := R) (l := l) (a := a) (t := t))
    unfold GivesG at KD1 KD2
    generalize groG k R l a t = Z at *
    obtain ⟨zd, zn, za, ze⟩ := Z
    simp only at KD1 KD2 HLEN
    clear hA hD hu hR h1 l4
    generalize l.length = N at *
    generalize R.length = Q at *
    go_enter Try.func4, Try.ntmps4
    go_wp2_with fail
    refine K0.out.mono ?_
    rintro e w0 ⟨rfl, rfl⟩
    go_wp2_with fail
    refine KD1.out.mono ?_
    rintro e w1 ⟨A1, N1, c1, rfl, m1, l1, o1, b1⟩
    have HM1 := Lib.hid m1
    have HO1 := Lib.hid o1
    have J1 := Lib.hid (((Kpc.start w).below b1).alloc #[.int .i64 zd, .slice A1 N1.length c1] 24)
    have H1 := Lib.hid (liesT_up l1 ((Below.refl _ _).alloc (Nat.le_refl _) (.cells #[.int .i64 zd, .slice A1 N1.length c1] 24)))
    clear l1 b1 m1 o1
    go_wp2_with fail
    refine (KD2.out _ J1.out.2.1).mono ?_
    rintro e w2 ⟨A2, N2, c2, rfl, m2, l2, o2, b2⟩
    have HM2 := Lib.hid m2
    have HO2 := Lib.hid o2
    have J2 := Lib.hid ((J1.out.below b2).alloc #[.int .i64 zd, .slice A2 N2.length c2] 24)
    have bx := b2.trans ((Below.refl w2.heap.size w2).alloc (Nat.le_refl _) (.cells #[.int .i64 zd, .slice A2 N2.length c2] 24) |>.mono b2.size)
    have H1b := Lib.hid (liesT_up H1.out bx)
    have H2 := Lib.hid (liesT_up l2 ((Below.refl _ _).alloc (Nat.le_refl _) (.cells #[.int .i64 zd, .slice A2 N2.length c2] 24)))
    clear l2 b2 bx m2 o2
    obtain ⟨x0, x1, _, _⟩ := J2.out.head.two
    obtain ⟨y0, y1, _, _⟩ := J2.out.tail.head.two
    have hn1 : N1.length = zn.length := by have := congrArg List.length HM1.out; simpa using this
    have hn2 : N2.length = zn.length := by have := congrArg List.length HM2.out; simpa using this
    have KS := Lib.hid (ref_SameT zd zd N1 N2 A1 A2 c1 c2 _ _ H1b.out H2.out (Nat.le_refl _) (by have := HLEN.out; omega) (by have := HLEN.out; omega) (fun n hn => by have := HO1.out n hn; omega) (fun n hn => by have := HO2.out n hn; omega))
    rw [samT_of (HM1.out.trans HM2.out.symm) zd] at KS
    generalize N1.length = n1 at *
    generalize N2.length = n2 at *
    clear hn1 hn2
    go_wp2_with fail
    refine KS.out.mono ?_
    rintro e w3 ⟨rfl, b3⟩
    have J3 := Lib.hid (J2.out.below b3)
    clear b3
    have e1 : (za == za) = true := by simp
    have e3 : (ze == ze) = true := by simp
    go_wp2_with fail
    refine (lives10 _).mono ?_
    rintro e wl ⟨rfl, hl⟩
    have J4 := Lib.hid (J3.out.below hl)
    go_wp2
    go_ret
    exact ⟨rfl, J4.out.2.1⟩

set_option maxRecDepth 100000 in
theorem lifted (os : Os) (started : os.Started) (H : Type) (enc : TypeId × Value → H) :
    ReturnsInHanded {} Try.checked os 4 .any (Rows.treeGrowsSpec.pre6 enc Try.prog Try.f4 Rows.treeGrowsRow.domain false) (Rows.treeGrowsSpec.post enc Try.prog Try.f4 false true false false) := by
  refine returnsInHanded_of_change (C := Try.checked) own started (by kernel_rfl) Try.func4
    (ChangeSpec.witness6 (enc := enc) (C := Try.checked) false ⟨#[], #[.int .i64 0, .slice none 0 0, .slice none 0 0, .int .i64 0, .int .i64 0], []⟩ 8 (by kernel_rfl) (by kernel_rfl) (by kernel_rfl) (by kernel_rfl)) ?_
  intro W base args ds gs before hval0 hW hcnd _
  have hval : ∀ (j : Nat) t v, Try.f4.params[j]? = some t → args[j]? = some v → Value.okWide Try.prog W .any base t v := hval0
  have hW' := hW
  obtain ⟨p, q, hA0, hV, rfl, hfz, hnd⟩ := hW
  obtain ⟨rfl, rfl⟩ := trodVars_none hV
  have hA : DataW.TrodAll enc Try.prog W 0 (fun _ => true) true Try.f4.params.toList args.toList ds p := hA0
  rw [Try.params4] at hA hval
  obtain ⟨v0, vs0, d0, ds0, p0, q0, hargs, rfl, rfl, h0, r0⟩ := trodAll_cons hA
  obtain ⟨v1, vs1, d1, ds1, p1, q1, rfl, rfl, rfl, h1, r1⟩ := trodAll_cons r0
  obtain ⟨v2, vs2, d2, ds2, p2, q2, rfl, rfl, rfl, h2, r2⟩ := trodAll_cons r1
  obtain ⟨v3, vs3, d3, ds3, p3, q3, rfl, rfl, rfl, h3, r3⟩ := trodAll_cons r2
  obtain ⟨v4, vs4, d4, ds4, p4, q4, rfl, rfl, rfl, h4, r4⟩ := trodAll_cons r3
  obtain ⟨rfl, rfl, rfl⟩ := trodAll_nil r4
  obtain rfl : args = #[v0, v1, v2, v3, v4] := by cases args; simp_all
  obtain ⟨a0, rfl, _, _, w0⟩ := open_int Try.underlying3 (hval 0 3 v0 rfl rfl) h0
  obtain ⟨A1, R1, c1, rfl, L1, I1, C1, M1⟩ := open_rows8 Try.underlying28 Try.underlying35 Try.underlying3 cells_l8 cells_i8 (hval 1 28 v1 rfl rfl) h1
  obtain ⟨A2, l2, c2, rfl, L2, I2, C2, M2⟩ := open_words Try.underlying29 Try.underlying57 cells_u64 (hval 2 29 v2 rfl rfl) h2
  obtain ⟨a3, rfl, _, _, w3⟩ := open_int Try.underlying3 (hval 3 3 v3 rfl rfl) h3
  obtain ⟨a4, rfl, _, _, w4⟩ := open_int Try.underlying3 (hval 4 3 v4 rfl rfl) h4
  refine (walk a0 (i64_of_wf w0) A1 R1 c1 L1 I1 C1 M1 A2 l2 c2 L2 I2 C2 M2 a3 (i64_of_wf w3) a4 (i64_of_wf w4) W).mono fun e W' ⟨he, hg⟩ => ?_
  subst he
  exact ⟨_, rfl, law_post laid (by rw [Try.params4]; exact (by decide +kernel)) rfl (by kernel_rfl) Try.underlying4 rfl hW' hg⟩

theorem over : Rows.treeGrowsRow.holds Try.pinned (OpenSpec.ofChange Rows.treeGrowsSpec) :=
  OpenClaim.holds_of_wide 4 Try.f4 rfl rfl rfl rfl rfl rfl rfl ⟨rfl, rfl, rfl, rfl, rfl⟩ rfl rfl rfl rfl rfl (by kernel_rfl) Try.func4 (by kernel_rfl)
    (of_decide_eq_true (by kernel_rfl)) (by unfold Func.isWrapper; first | (rw [if_pos (by decide +kernel)]; kernel_rfl) | (rw [if_neg (by decide +kernel)]; exact ⟨rfl, rfl⟩))
    (fun os started H enc _ => lifted os started H enc)
theorem proved : Rows.TreeGrowsSaid := over
end Go.Proofs.Ytednigfcpicelaa.treeGrows
