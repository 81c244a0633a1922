/- Statement TreeIs: whatever the input is, the Go function returns true and each argument reads as it did. No condition. -/
import Derived.Test.YtednigfcpicelaaRows
import Derived.Test.YtednigfcpicelaaTrE
import Derived.Test.YtednigfcpicelaaVecT
import Derived.Test.YtednigfcpicelaaTreeJ
import Derived.Test.YtednigfcpicelaaTreeC
import Derived.Test.YtednigfcpicelaaTreeS
import Derived.Test.YtednigfcpicelaaTreeT
import Derived.Test.YtednigfcpicelaaBase
import Derived.ProofKit
import Derived.OpenShut
namespace Go.Proofs.Ytednigfcpicelaa.treeIs
open Go.ChangeShapes Go.WideShapes Go.ChangeAt Go.RowKit
set_option linter.unusedVariables false

theorem own : ownKnob Try.prog.godebug = none := by kernel_rfl
theorem laid : laidOutB Try.prog = true := by kernel_rfl

set_option maxRecDepth 100000 in
set_option maxHeartbeats 8000000 in
theorem walk {w : World} (da : Int) (A : Option Addr) (N : List TN) (ca : Nat) (hA : LiesT w w.heap.size A N) (oA : okT N) (hca : N.length ≤ ca) (hma : ca ≤ 9223372036854775807) (wa : I64 da)
    (db : Int) (B : Option Addr) (M : List TN) (cb : Nat) (hB : LiesT w w.heap.size B M) (oB : okT M) (hcb : M.length ≤ cb) (hmb : cb ≤ 9223372036854775807) (wb : I64 db) (_ : World) :
    Calls Try.prog 3 #[.agg #[.int .i64 da, .slice A N.length ca], .agg #[.int .i64 db, .slice B M.length cb]] w fun e w' => e = .returned (.bool true) ∧ Below w.heap.size w w' := by
  have HX := Lib.hid (((Kpc.start w).alloc #[.int .i64 da, .slice A N.length ca] 24).alloc #[.int .i64 db, .slice B M.length cb] 24)
  simp only [alloc_size'] at HX
  obtain ⟨y0, y1, _, _⟩ := HX.out.head.two
  obtain ⟨z0, z1, _, _⟩ := HX.out.tail.head.two
  have K1 := Lib.hid (fun W (h : Below w.heap.size w W) => ref_MuchT N da A ca w.heap.size W (by omega) (hA.below h) h.size)
  have K2 := Lib.hid (fun W (h : Below w.heap.size w W) => ref_MuchT M db B cb w.heap.size W (by omega) (hB.below h) h.size)
  cases h1 : muchT N with
  | true =>
    rw [h1] at K1
    clear hA hB oA oB K2 h1
    generalize N.length = n at *
    generalize M.length = m at *
    go_enter Try.func3, Try.ntmps3
    go_wp2_with fail
    refine (K1.out _ HX.out.2.1).mono ?_
    rintro e w1 ⟨rfl, b1⟩
    have J2 := Lib.hid (HX.out.below b1)
    go_wp2_with fail
    refine (lives10 _).mono ?_
    rintro e wl ⟨rfl, hl⟩
    have JL := Lib.hid (J2.out.below hl)
    go_wp2
    go_ret
    exact ⟨rfl, JL.out.2.1⟩
  | false =>
    rw [h1] at K1
    cases h2 : muchT M with
    | true =>
      rw [h2] at K2
      clear hA hB oA oB h1 h2
      generalize N.length = n at *
      generalize M.length = m at *
      go_enter Try.func3, Try.ntmps3
      go_wp2_with fail
      refine (K1.out _ HX.out.2.1).mono ?_
      rintro e w1 ⟨rfl, b1⟩
      have J1 := Lib.hid (HX.out.below b1)
      clear y0 y1 z0 z1 b1
      obtain ⟨y0, y1, _, _⟩ := J1.out.head.two
      go_wp2_with fail
      refine (K2.out _ J1.out.2.1).mono ?_
      rintro e w2 ⟨rfl, b2⟩
      have J2 := Lib.hid (J1.out.below b2)
      go_wp2_with fail
      refine (lives10 _).mono ?_
      rintro e wl ⟨rfl, hl⟩
      have JL := Lib.hid (J2.out.below hl)
      go_wp2
      go_ret
      exact ⟨rfl, JL.out.2.1⟩
    | false =>
      rw [h2] at K2
      obtain ⟨n1, n2⟩ := muchT_len h1
      obtain ⟨m1, m2⟩ := muchT_len h2
      have KI := Lib.hid (fun W (h : Below w.heap.size w W) => tree_isT N da A ca w.heap.size W (by omega) oA (hA.below h) h.size)
      have KI2 := Lib.hid (fun W (h : Below w.heap.size w W) => ref_isT N da A ca w.heap.size W (by omega) (hA.below h) h.size)
      have KS := Lib.hid (fun W (h : Below w.heap.size w W) => tree_Same da db N M A B ca cb w.heap.size W (hA.below h) (hB.below h) h.size (by omega) (by omega) (fun n hn => by have := n2 n hn; omega) (fun n hn => by have := m2 n hn; omega))
      have KS2 := Lib.hid (fun W (h : Below w.heap.size w W) => ref_SameT da db N M A B ca cb w.heap.size W (hA.below h) (hB.below h) h.size (by omega) (by omega) (fun n hn => by have := n2 n hn; omega) (fun n hn => by have := m2 n hn; omega))
      have KS3 := Lib.hid (fun W (h : Below w.heap.size w W) => tree_Same db db M M B B cb cb w.heap.size W (hB.below h) (hB.below h) h.size (by omega) (by omega) (fun n hn => by have := m2 n hn; omega) (fun n hn => by have := m2 n hn; omega))
      rw [samT_of rfl db] at KS3
      generalize isT N da = I at *
      generalize samT da N db M = S at *
      have e1 : (I == I) = true := by cases I <;> rfl
      have e2 : (S == S) = true := by cases S <;> rfl
      clear hA hB oA oB h1 h2 n2 m2
      generalize N.length = n at *
      generalize M.length = m at *
      go_enter Try.func3, Try.ntmps3
      go_wp2_with fail
      refine (K1.out _ HX.out.2.1).mono ?_
      rintro e w1 ⟨rfl, b1⟩
      have J1 := Lib.hid (HX.out.below b1)
      clear y0 y1 z0 z1 b1
      obtain ⟨y0, y1, _, _⟩ := J1.out.head.two
      go_wp2_with fail
      refine (K2.out _ J1.out.2.1).mono ?_
      rintro e w2 ⟨rfl, b2⟩
      have J2 := Lib.hid (J1.out.below b2)
      clear b2 y0 y1 J1
      go_wp2
      have J2 := Lib.hid J2.out.drew
      obtain ⟨y0, y1, _, _⟩ := J2.out.head.two
      obtain ⟨z0, z1, _, _⟩ := J2.out.tail.head.two
      have tok : True := trivial
      go_region_held3 (fun W => W.cell? ⟨w.heap.size + 1, 0, none⟩ = some (.int .i64 db) ∧ W.cell? ⟨w.heap.size + 1, 1, none⟩ = some (.slice B m cb) ∧ W.cell? ⟨w.heap.size, 0, none⟩ = some (.int .i64 da) ∧ W.cell? ⟨w.heap.size, 1, none⟩ = some (.slice A n ca)) (go_keep)
        (first
          | (go_at_call 15; ((refine (KI.out _ J2.out.2.1).mono ?_); rintro e w3 ⟨rfl, b3⟩; have J2 := Lib.hid (J2.out.below b3); obtain ⟨y0, y1, _, _⟩ := J2.out.head.two; obtain ⟨z0, z1, _, _⟩ := J2.out.tail.head.two; clear b3))
          | (go_at_call 16; ((refine (KI2.out _ J2.out.2.1).mono ?_); rintro e w3 ⟨rfl, b3⟩; have J2 := Lib.hid (J2.out.below b3); obtain ⟨y0, y1, _, _⟩ := J2.out.head.two; obtain ⟨z0, z1, _, _⟩ := J2.out.tail.head.two; clear b3))
          | (have _t := tok; go_at_call 17; ((refine (KS.out _ J2.out.2.1).mono ?_); rintro e w3 ⟨rfl, b3⟩; have J2 := Lib.hid (J2.out.below b3); obtain ⟨y0, y1, _, _⟩ := J2.out.head.two; obtain ⟨z0, z1, _, _⟩ := J2.out.tail.head.two; clear b3 tok))
          | (go_at_call 17; ((refine (KS3.out _ J2.out.2.1).mono ?_); rintro e w3 ⟨rfl, b3⟩; have J2 := Lib.hid (J2.out.below b3); obtain ⟨y0, y1, _, _⟩ := J2.out.head.two; obtain ⟨z0, z1, _, _⟩ := J2.out.tail.head.two; clear b3))
          | (go_at_call 18; ((refine (KS2.out _ J2.out.2.1).mono ?_); rintro e w3 ⟨rfl, b3⟩; have J2 := Lib.hid (J2.out.below b3); obtain ⟨y0, y1, _, _⟩ := J2.out.head.two; obtain ⟨z0, z1, _, _⟩ := J2.out.tail.head.two; clear b3))
          | (go_at_call 14; ((refine (lives10 _).mono ?_); rintro e w3 ⟨rfl, b3⟩; have J2 := Lib.hid (J2.out.below b3); obtain ⟨y0, y1, _, _⟩ := J2.out.head.two; obtain ⟨z0, z1, _, _⟩ := J2.out.tail.head.two; clear b3)))
      all_goals
        go_wp2
        go_ret
        exact ⟨rfl, J2.out.2.1⟩

set_option maxRecDepth 100000 in
theorem lifted (os : Os) (started : os.Started) (H : Type) (enc : TypeId × Value → H) :
    ReturnsInHanded {} Try.checked os 3 .any (Rows.treeIsSpec.pre6 enc Try.prog Try.f3 Rows.treeIsRow.domain false) (Rows.treeIsSpec.post enc Try.prog Try.f3 false true false false) := by
  refine returnsInHanded_of_change (C := Try.checked) own started (by kernel_rfl) Try.func3
    (ChangeSpec.witness6 (enc := enc) (C := Try.checked) false ⟨#[], #[.agg #[.int .i64 0, .slice none 0 0], .agg #[.int .i64 0, .slice none 0 0]], []⟩ 8 (by kernel_rfl) (by kernel_rfl) (by kernel_rfl) (by kernel_rfl)) ?_
  intro W base args ds gs before hval0 hW hcnd _
  have hval : ∀ (j : Nat) t v, Try.f3.params[j]? = some t → args[j]? = some v → Value.okWide Try.prog W .any base t v := hval0
  have hW' := hW
  obtain ⟨p, q, hA0, hV, rfl, hfz, hnd⟩ := hW
  obtain ⟨rfl, rfl⟩ := trodVars_none hV
  have hA : DataW.TrodAll enc Try.prog W 0 (fun _ => true) true Try.f3.params.toList args.toList ds p := hA0
  rw [Try.params3] at hA hval
  obtain ⟨v0, vs0, d0, ds0, p0, q0, hargs, rfl, rfl, h0, r0⟩ := trodAll_cons hA
  obtain ⟨v1, vs1, d1, ds1, p1, q1, rfl, rfl, rfl, h1, r1⟩ := trodAll_cons r0
  obtain ⟨rfl, rfl, rfl⟩ := trodAll_nil r1
  obtain rfl : args = #[v0, v1] := by cases args; simp_all
  obtain ⟨a0, A0, N0, c0, rfl, L0, O0, C0, M0, w0⟩ := open_tree (hval 0 24 v0 rfl rfl) h0
  obtain ⟨a1, A1, N1, c1, rfl, L1, O1, C1, M1, w1⟩ := open_tree (hval 1 24 v1 rfl rfl) h1
  refine (walk a0 A0 N0 c0 L0 O0 C0 M0 w0 a1 A1 N1 c1 L1 O1 C1 M1 w1 W).mono fun e W' ⟨he, hg⟩ => ?_
  subst he
  exact ⟨_, rfl, law_post laid (by rw [Try.params3]; exact (by decide +kernel)) rfl (by kernel_rfl) Try.underlying4 rfl hW' hg⟩

theorem over : Rows.treeIsRow.holds Try.pinned (OpenSpec.ofChange Rows.treeIsSpec) :=
  OpenClaim.holds_of_wide 3 Try.f3 rfl rfl rfl rfl rfl rfl rfl ⟨rfl, rfl, rfl, rfl, rfl⟩ rfl rfl rfl rfl rfl (by kernel_rfl) Try.func3 (by kernel_rfl)
    (of_decide_eq_true (by kernel_rfl)) (by unfold Func.isWrapper; first | (rw [if_pos (by decide +kernel)]; kernel_rfl) | (rw [if_neg (by decide +kernel)]; exact ⟨rfl, rfl⟩))
    (fun os started H enc _ => lifted os started H enc)
theorem proved : Rows.TreeIsSaid := over
end Go.Proofs.Ytednigfcpicelaa.treeIs
