/- Statement CutSames: whatever the input is, the Go function returns true and each argument reads as it did. No condition. -/
import Derived.Test.YtpjgnghmhbkmkaaRows
import Derived.Test.YtpjgnghmhbkmkaaCutH
import Derived.Test.YtpjgnghmhbkmkaaVecQ
import Derived.Test.YtpjgnghmhbkmkaaBase
import Derived.ProofKit
import Derived.OpenShut
namespace Go.Proofs.Ytpjgnghmhbkmkaa.cutSames
open Go.ChangeShapes Go.WideShapes Go.ChangeAt Go.RowKit
set_option linter.unusedVariables false

theorem own : ownKnob Try.prog.godebug = none := by kernel_rfl
theorem laid : laidOutB Try.prog = true := by kernel_rfl

set_option maxRecDepth 100000 in
set_option maxHeartbeats 8000000 in
theorem walk {w : World} (A : Option Addr) (a : List Int) (ca : Nat) (p : Int) (hA : Lies w w.heap.size A a) (ha : ∀ x ∈ a, I64 x) (hca : a.length ≤ ca) (hma : ca ≤ 9223372036854775807) (hp : I64 p)
    (B : Option Addr) (b : List Int) (cb : Nat) (q : Int) (hB : Lies w w.heap.size B b) (hb : ∀ x ∈ b, I64 x) (hcb : b.length ≤ cb) (hmb : cb ≤ 9223372036854775807) (hq : I64 q) (_ : World) :
    Calls Try.prog 8 #[.agg #[.slice A a.length ca, .int .i64 p], .agg #[.slice B b.length cb, .int .i64 q]] w fun e w' => e = .returned (.bool true) ∧ Below w.heap.size w w' := by
  have HX := Lib.hid (((Kpc.start w).alloc #[.slice A a.length ca, .int .i64 p] 40).alloc #[.slice B b.length cb, .int .i64 q] 40)
  simp only [alloc_size'] at HX
  obtain ⟨y0, y1, _, _⟩ := HX.out.head.two
  obtain ⟨z0, z1, _, _⟩ := HX.out.tail.head.two
  by_cases h1 : 20 < a.length ∨ 20 < b.length
  · clear hA hB ha hb
    generalize a.length = N at *
    generalize b.length = M at *
    by_cases g1 : 20 < N
    · have g1' : (20 : Int) < (N : Int) := by omega
      clear h1
      go_enter Try.func8, Try.ntmps8
      go_wp2_with fail
      refine (lives9 _).mono ?_
      rintro e wl ⟨rfl, hl⟩
      have JL := Lib.hid (HX.out.below hl)
      go_wp2
      go_ret
      exact ⟨rfl, JL.out.2.1⟩
    · have g1' : ¬ (20 : Int) < (N : Int) := by omega
      have g2' : (20 : Int) < (M : Int) := by omega
      clear h1
      go_enter Try.func8, Try.ntmps8
      go_wp2_with fail
      refine (lives9 _).mono ?_
      rintro e wl ⟨rfl, hl⟩
      have JL := Lib.hid (HX.out.below hl)
      go_wp2
      go_ret
      exact ⟨rfl, JL.out.2.1⟩
  · have g1' : ¬ (20 : Int) < (a.length : Int) := by omega
    have g2' : ¬ (20 : Int) < (b.length : Int) := by omega
    have LA := fun W (h : Below w.heap.size w W) => hA.below h
    have LB := fun W (h : Below w.heap.size w W) => hB.below h
    have K1 := Lib.hid (fun W (h : Below w.heap.size w W) => cut_Same A B a b ca cb w.heap.size p q W (LA W h) (LB W h) h.size (by omega) (by omega))
    have K2 := Lib.hid (fun W (h : Below w.heap.size w W) => ref_Same9 A B a b ca cb w.heap.size p q W (LA W h) (LB W h) h.size (by omega) (by omega))
    have K3 := Lib.hid (fun W (h : Below w.heap.size w W) => cut_Same A A a a ca ca w.heap.size p p W (LA W h) (LA W h) h.size (by omega) (by omega))
    rw [show samC a p a p = true from by simp [samC]] at K3
    generalize samC a p b q = sm at *
    clear hA hB ha hb LA LB h1
    generalize a.length = N at *
    generalize b.length = M at *
    have e1 : (sm == sm) = true := by simp
    have tok : True := trivial
    go_enter Try.func8, Try.ntmps8
    go_wp2
    have HX := Lib.hid HX.out.drew
    obtain ⟨y0, y1, _, _⟩ := HX.out.head.two
    obtain ⟨z0, z1, _, _⟩ := HX.out.tail.head.two
    go_region_held3 (fun W => W.cell? ⟨w.heap.size, 0, none⟩ = some (.slice A N ca) ∧ W.cell? ⟨w.heap.size, 1, none⟩ = some (.int .i64 p) ∧ W.cell? ⟨w.heap.size + 1, 0, none⟩ = some (.slice B M cb) ∧ W.cell? ⟨w.heap.size + 1, 1, none⟩ = some (.int .i64 q)) (go_keep)
      (first
        | (go_at_call 38; have _t := tok; (refine (K1.out _ HX.out.2.1).mono ?_); rintro e w3 ⟨rfl, b3⟩; clear tok; have HX := Lib.hid (HX.out.below b3); obtain ⟨y0, y1, _, _⟩ := HX.out.head.two; obtain ⟨z0, z1, _, _⟩ := HX.out.tail.head.two; clear b3)
        | (go_at_call 38; (refine (K3.out _ HX.out.2.1).mono ?_); rintro e w3 ⟨rfl, b3⟩; have HX := Lib.hid (HX.out.below b3); obtain ⟨y0, y1, _, _⟩ := HX.out.head.two; obtain ⟨z0, z1, _, _⟩ := HX.out.tail.head.two; clear b3)
        | (go_at_call 39; (refine (K2.out _ HX.out.2.1).mono ?_); rintro e w3 ⟨rfl, b3⟩; have HX := Lib.hid (HX.out.below b3); obtain ⟨y0, y1, _, _⟩ := HX.out.head.two; obtain ⟨z0, z1, _, _⟩ := HX.out.tail.head.two; clear b3)
        | (go_at_call 31; (refine (lives9 _).mono ?_); rintro e w3 ⟨rfl, b3⟩; have HX := Lib.hid (HX.out.below b3); obtain ⟨y0, y1, _, _⟩ := HX.out.head.two; obtain ⟨z0, z1, _, _⟩ := HX.out.tail.head.two; clear b3))
    go_wp2
    go_ret
    exact ⟨rfl, HX.out.2.1⟩

set_option maxRecDepth 100000 in
theorem lifted (os : Os) (started : os.Started) (H : Type) (enc : TypeId × Value → H) :
    ReturnsInHanded {} Try.checked os 8 .any (Rows.cutSamesSpec.pre6 enc Try.prog Try.f8 Rows.cutSamesRow.domain false) (Rows.cutSamesSpec.post enc Try.prog Try.f8 false true false false) := by
  refine returnsInHanded_of_change (C := Try.checked) own started (by kernel_rfl) Try.func8
    (ChangeSpec.witness6 (enc := enc) (C := Try.checked) false ⟨#[], #[.agg #[.slice none 0 0, .int .i64 0], .agg #[.slice none 0 0, .int .i64 0]], []⟩ 8 (by kernel_rfl) (by kernel_rfl) (by kernel_rfl) (by kernel_rfl)) ?_
  intro W base args ds gs before hval0 hW hcnd _
  have hval : ∀ (j : Nat) t v, Try.f8.params[j]? = some t → args[j]? = some v → Value.okWide Try.prog W .any base t v := hval0
  have hW' := hW
  obtain ⟨p, q, hA0, hV, rfl, hfz, hnd⟩ := hW
  obtain ⟨rfl, rfl⟩ := trodVars_none hV
  have hA : DataW.TrodAll enc Try.prog W 0 (fun _ => true) true Try.f8.params.toList args.toList ds p := hA0
  rw [Try.params8] at hA hval
  obtain ⟨v0, vs0, d0, ds0, p0, q0, hargs, rfl, rfl, h0, r0⟩ := trodAll_cons hA
  obtain ⟨v1, vs1, d1, ds1, p1, q1, rfl, rfl, rfl, h1, r1⟩ := trodAll_cons r0
  obtain ⟨rfl, rfl, rfl⟩ := trodAll_nil r1
  obtain rfl : args = #[v0, v1] := by cases args; simp_all
  obtain ⟨A0, l0, c0, a0, rfl, L0, I0, C0, M0, w0⟩ := open_cut Try.underlying40 Try.underlying24 Try.underlying3 cells_i8 Try.underlying3 (by kernel_rfl) (by kernel_rfl) (hval 0 40 v0 rfl rfl) h0
  obtain ⟨A1, l1, c1, a1, rfl, L1, I1, C1, M1, w1⟩ := open_cut Try.underlying40 Try.underlying24 Try.underlying3 cells_i8 Try.underlying3 (by kernel_rfl) (by kernel_rfl) (hval 1 40 v1 rfl rfl) h1
  refine (walk A0 l0 c0 a0 L0 I0 C0 M0 w0 A1 l1 c1 a1 L1 I1 C1 M1 w1 W).mono fun e W' ⟨he, hg⟩ => ?_
  subst he
  exact ⟨_, rfl, law_post laid (by rw [Try.params8]; exact (by decide +kernel)) rfl (by kernel_rfl) Try.underlying4 rfl hW' hg⟩

theorem over : Rows.cutSamesRow.holds Try.pinned (OpenSpec.ofChange Rows.cutSamesSpec) :=
  OpenClaim.holds_of_wide 8 Try.f8 rfl rfl rfl rfl rfl rfl rfl ⟨rfl, rfl, rfl, rfl, rfl⟩ rfl rfl rfl rfl rfl (by kernel_rfl) Try.func8 (by kernel_rfl)
    (of_decide_eq_true (by kernel_rfl)) (by unfold Func.isWrapper; first | (rw [if_pos (by decide +kernel)]; kernel_rfl) | (rw [if_neg (by decide +kernel)]; exact ⟨rfl, rfl⟩))
    (fun os started H enc _ => lifted os started H enc)
theorem proved : Rows.CutSamesSaid := over
end Go.Proofs.Ytpjgnghmhbkmkaa.cutSames
