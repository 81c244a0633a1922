/- Statement WideTwo: whatever the input is, the Go function returns true and each argument reads as it did. No condition. -/
import Derived.Test.YtbnpbflndnjmcaaRows
import Derived.Test.YtbnpbflndnjmcaaWideL
import Derived.Test.YtbnpbflndnjmcaaBigC
import Derived.Test.YtbnpbflndnjmcaaWideO
import Derived.Test.YtbnpbflndnjmcaaWideM
import Derived.Test.YtbnpbflndnjmcaaOpen
import Derived.ProofKit
import Derived.OpenShut
namespace Go.Proofs.Ytbnpbflndnjmcaa.wideTwo
open Go.ChangeShapes Go.WideShapes Go.ChangeAt Go.RowKit
set_option linter.unusedVariables false

theorem own : ownKnob Try.prog.godebug = none := by kernel_rfl
theorem laid : laidOutB Try.prog = true := by kernel_rfl

def TwoJ (B : Nat) (W : World) (g k : Nat) (a b x y : Array Value) (w : World) : Prop :=
  Box w B a 24 ∧ Box w (B + 1) b 24 ∧ Box w g x 24 ∧ Box w k y 24 ∧ (B + 1 < g ∧ g < k) ∧ Below B W w
theorem TwoJ.below {B : Nat} {W : World} {g k : Nat} {a b x y : Array Value} {w w' : World} (h : TwoJ B W g k a b x y w) (hb : Below w.heap.size w w') : TwoJ B W g k a b x y w' :=
  ⟨h.1.below hb h.1.lt, h.2.1.below hb h.2.1.lt, h.2.2.1.below hb h.2.2.1.lt, h.2.2.2.1.below hb h.2.2.2.1.lt, h.2.2.2.2.1, h.2.2.2.2.2.trans (hb.mono (Nat.le_of_lt h.1.lt))⟩
theorem TwoJ.setg {B : Nat} {W : World} {g k : Nat} {a b y : Array Value} {p q : Value} {w : World} (h : TwoJ B W g k a b #[p, q] y w) (u v : Value) : TwoJ B W g k a b #[u, v] y ((w.setCell ⟨g, 0, none⟩ u).setCell ⟨g, 1, none⟩ v) := by
  obtain ⟨h1, h2, h3, h4, h5, h6⟩ := h
  exact ⟨h1.off2 (by omega) u v, h2.off2 (by omega) u v, h3.set2 u v, h4.off2 (by omega) u v, h5, (h6.setCell (p := ⟨g, 0, none⟩) (by simp; omega) _).setCell (p := ⟨g, 1, none⟩) (by simp; omega) _⟩
theorem TwoJ.setk {B : Nat} {W : World} {g k : Nat} {a b x : Array Value} {p q : Value} {w : World} (h : TwoJ B W g k a b x #[p, q] w) (u v : Value) : TwoJ B W g k a b x #[u, v] ((w.setCell ⟨k, 0, none⟩ u).setCell ⟨k, 1, none⟩ v) := by
  obtain ⟨h1, h2, h3, h4, h5, h6⟩ := h
  exact ⟨h1.off2 (by omega) u v, h2.off2 (by omega) u v, h3.off2 (by omega) u v, h4.set2 u v, h5, (h6.setCell (p := ⟨k, 0, none⟩) (by simp; omega) _).setCell (p := ⟨k, 1, none⟩) (by simp; omega) _⟩
theorem fitsW_wf {n : Int} (h0 : 0 ≤ n) {w w' : World} {e : Ending} (h : FitsW n w e w') : e = .returned (wfV n) ∧ Below w.heap.size w w' := by
  by_cases h1 : n < 340282366920938463463374607431768211456
  · obtain ⟨he, hb⟩ := wfits_of h1 h
    exact ⟨he.trans (wfV_in ⟨h0, h1⟩ rfl rfl), hb⟩
  · obtain ⟨he, hb⟩ := wfits_over (by omega) h
    exact ⟨he.trans (wfV_out (by omega)), hb⟩

set_option maxHeartbeats 4000000 in
theorem walk (ah al : Int) (h1 : U64 ah) (h2 : U64 al) (bh bl : Int) (h3 : U64 bh) (h4 : U64 bl) (m : Int) (hm : U64 m) (n : Int) (hn : U64 n) (w : World) :
    Calls Try.prog 3 #[.agg #[.int .u64 ah, .int .u64 al], .agg #[.int .u64 bh, .int .u64 bl], .int .u64 m, .int .u64 n] w fun e w' => e = .returned (.bool true) ∧ Below w.heap.size w w' := by
  have ha := (digs_wv ah al h1 h2).2
  have hb := (digs_wv bh bl h3 h4).2
  obtain ⟨p, q, c, A1, A2⟩ : ∃ p q c, Hid (∀ W, Calls Try.prog 8 #[.agg #[.int .u64 ah, .int .u64 al], .agg #[.int .u64 bh, .int .u64 bl]] W fun e w' => e = .returned (.tuple #[.agg #[.int .u64 p, .int .u64 q], .int .i64 c]) ∧ Below W.heap.size W w') ∧ Hid (∀ W, Calls Try.prog 9 #[.agg #[.int .u64 ah, .int .u64 al], .agg #[.int .u64 bh, .int .u64 bl]] W fun e w' => e = .returned (.tuple #[.agg #[.int .u64 p, .int .u64 q], .int .i64 c]) ∧ Below W.heap.size W w') :=
    ⟨_, _, _, fun W => wide_add ah al bh bl h1 h2 h3 h4 W, fun W => (ref_wadd ah al bh bl h1 h2 h3 h4 W).mono fun _ _ h => fitsW_wf (by omega) h⟩
  obtain ⟨p2, q2, c2, S1, S2⟩ : ∃ p q c, Hid (∀ W, Calls Try.prog 12 #[.agg #[.int .u64 ah, .int .u64 al], .agg #[.int .u64 bh, .int .u64 bl]] W fun e w' => e = .returned (.tuple #[.agg #[.int .u64 p, .int .u64 q], .int .i64 c]) ∧ Below W.heap.size W w') ∧ Hid (∀ W, Calls Try.prog 13 #[.agg #[.int .u64 ah, .int .u64 al], .agg #[.int .u64 bh, .int .u64 bl]] W fun e w' => e = .returned (.tuple #[.agg #[.int .u64 p, .int .u64 q], .int .i64 c]) ∧ Below W.heap.size W w') := by
    refine ⟨_, _, _, fun W => wide_sub ah al bh bl h1 h2 h3 h4 W, fun W => ?_⟩
    by_cases hle : wv bh bl ≤ wv ah al
    · exact (ref_wsub ah al bh bl h1 h2 h3 h4 hle W).mono fun _ _ h => fitsW_wf (by omega) h
    · exact (ref_wsub_lt ah al bh bl h1 h2 h3 h4 (by omega) W).mono fun _ _ h => ⟨h.1.trans (wfV_out (by omega)), h.2⟩
  have C1 := Lib.hid (fun W => wide_cmp ah al bh bl h2 h4 W)
  have C2 := Lib.hid (fun W => ref_wcmp ah al bh bl h1 h2 h3 h4 W)
  have M1 := Lib.hid (fun W => wide_mul m n hm hn W)
  have M2 := Lib.hid (fun W => ref_wmul m n hm hn W)
  have O1 := Lib.hid (fun W => wide_of m W)
  generalize cmpI (wv ah al) (wv bh bl) = cm at *
  generalize m * n / 18446744073709551616 = mh at *
  generalize m * n % 18446744073709551616 = ml at *
  have z1 : (p != p) = false := by simp
  have z2 : (q != q) = false := by simp
  have z3 : (c != c) = false := by simp
  have z4 : (m != m) = false := by simp
  have t1 : (p2 == p2) = true := by simp
  have t2 : (q2 == q2) = true := by simp
  have t3 : (c2 == c2) = true := by simp
  have t4 : (cm == cm) = true := by simp
  have t5 : (mh == mh) = true := by simp
  have t6 : (ml == ml) = true := by simp
  have hX := (Box.new w #[.int .u64 ah, .int .u64 al] 24).alloc (.cells #[.int .u64 bh, .int .u64 bl] 24)
  have hY := Box.new (w.alloc (.cells #[.int .u64 ah, .int .u64 al] 24)) #[.int .u64 bh, .int .u64 bl] 24
  rw [alloc_size'] at hY
  have HX := Lib.hid hX
  have HY := Lib.hid hY
  have HW : Hid (Below w.heap.size w ((w.alloc (.cells #[.int .u64 ah, .int .u64 al] 24)).alloc (.cells #[.int .u64 bh, .int .u64 bl] 24))) := ((Below.refl _ _).alloc (Nat.le_refl _) _).alloc (by simp) _
  clear hX hY ha hb
  go_enter Try.func3, Try.ntmps3
  go_wp2_with fail
  refine (A1.out _).mono ?_
  rintro e w1 ⟨rfl, b1⟩
  have X1 := Lib.hid (HX.out.below b1 HX.out.lt)
  have Y1 := Lib.hid (HY.out.below b1 HY.out.lt)
  have G1 := Lib.hid (Box.new w1 #[.int .u64 p, .int .u64 q] 24)
  have W1 := Lib.hid (HW.out.trans (b1.mono (by have := HX.out.lt; omega)))
  have s1 : w.heap.size + 1 < w1.heap.size := Y1.out.lt
  have b1' := (Below.refl w1.heap.size w1).alloc (Nat.le_refl _) (.cells #[.int .u64 p, .int .u64 q] 24)
  obtain ⟨x0, x1, _, _⟩ := (X1.out.below b1' X1.out.lt).two
  obtain ⟨y0, y1, _, _⟩ := (Y1.out.below b1' Y1.out.lt).two
  clear b1 b1'
  go_wp2_with fail
  refine (A2.out _).mono ?_
  rintro e w2 ⟨rfl, b2⟩
  have J : Hid (TwoJ w.heap.size w w1.heap.size w2.heap.size #[.int .u64 ah, .int .u64 al] #[.int .u64 bh, .int .u64 bl] #[.int .u64 p, .int .u64 q] #[.int .u64 p, .int .u64 q] (w2.alloc (.cells #[.int .u64 p, .int .u64 q] 24))) := by
    have G2 := G1.out.below b2 G1.out.lt
    refine ⟨(((X1.out.alloc _).below b2 (by simp; omega)).alloc _), (((Y1.out.alloc _).below b2 (by simp; omega)).alloc _), G2.alloc _, Box.new _ _ _, ⟨s1, G2.lt⟩, ?_⟩
    exact ((W1.out.alloc (by omega) _).trans (b2.mono (by simp; omega))).alloc (by have := G2.lt; omega) _
  clear X1 Y1 G1 W1 b2 x0 x1 y0 y1 HX HY HW
  obtain ⟨g0, g1, g2, g3⟩ := J.out.2.2.1.two
  obtain ⟨k0, k1, k2, k3⟩ := J.out.2.2.2.1.two
  go_wp2_with fail
  refine (lives2 _).mono ?_
  rintro e w3 ⟨rfl, b3⟩
  have J := Lib.hid (J.out.below b3)
  obtain ⟨g0, g1, g2, g3⟩ := J.out.2.2.1.two
  obtain ⟨k0, k1, k2, k3⟩ := J.out.2.2.2.1.two
  clear b3
  go_wp2_with fail
  refine (O1.out _).mono ?_
  rintro e w4 ⟨rfl, b4⟩
  have J := Lib.hid (J.out.below b4)
  obtain ⟨x0, x1, _, _⟩ := J.out.1.two
  obtain ⟨y0, y1, _, _⟩ := J.out.2.1.two
  clear b4
  go_wp2_with fail
  refine (S1.out _).mono ?_
  rintro e w5 ⟨rfl, b5⟩
  have J := Lib.hid ((J.out.below b5))
  obtain ⟨g0, g1, g2, g3⟩ := J.out.2.2.1.two
  have J := Lib.hid (J.out.setg (.int .u64 p2) (.int .u64 q2))
  obtain ⟨x0, x1, _, _⟩ := J.out.1.two
  obtain ⟨y0, y1, _, _⟩ := J.out.2.1.two
  clear b5
  go_wp2_with fail
  refine (S2.out _).mono ?_
  rintro e w6 ⟨rfl, b6⟩
  have J := Lib.hid ((J.out.below b6))
  obtain ⟨k0, k1, k2, k3⟩ := J.out.2.2.2.1.two
  have J := Lib.hid (J.out.setk (.int .u64 p2) (.int .u64 q2))
  clear b6
  go_wp2
  have J : Hid (TwoJ w.heap.size w w1.heap.size w2.heap.size #[.int .u64 ah, .int .u64 al] #[.int .u64 bh, .int .u64 bl] #[.int .u64 p2, .int .u64 q2] #[.int .u64 p2, .int .u64 q2] ((w6.setCell ⟨w2.heap.size, 0, none⟩ (.int .u64 p2)).setCell ⟨w2.heap.size, 1, none⟩ (.int .u64 q2)).drew) := ⟨J.out.1.drew, J.out.2.1.drew, J.out.2.2.1.drew, J.out.2.2.2.1.drew, J.out.2.2.2.2.1, J.out.2.2.2.2.2.drew⟩
  obtain ⟨x0, x1, _, _⟩ := J.out.1.two
  obtain ⟨y0, y1, _, _⟩ := J.out.2.1.two
  obtain ⟨g0, g1, _, _⟩ := J.out.2.2.1.two
  obtain ⟨k0, k1, _, _⟩ := J.out.2.2.2.1.two
  go_region_held3 (fun wr => (wr.cell? ⟨w.heap.size, 0, none⟩ = some (.int .u64 ah) ∧ wr.cell? ⟨w.heap.size, 1, none⟩ = some (.int .u64 al)) ∧ (wr.cell? ⟨w.heap.size + 1, 0, none⟩ = some (.int .u64 bh) ∧ wr.cell? ⟨w.heap.size + 1, 1, none⟩ = some (.int .u64 bl)) ∧ (wr.cell? ⟨w1.heap.size, 0, none⟩ = some (.int .u64 p2) ∧ wr.cell? ⟨w1.heap.size, 1, none⟩ = some (.int .u64 q2)) ∧ wr.cell? ⟨w2.heap.size, 0, none⟩ = some (.int .u64 p2) ∧ wr.cell? ⟨w2.heap.size, 1, none⟩ = some (.int .u64 q2)) (go_keep)
    (first
      | (go_at_call 14; ((with_reducible refine (C1.out _).mono ?_); rintro e w7 ⟨rfl, b7⟩; have J := Lib.hid (J.out.below b7); obtain ⟨x0, x1, _, _⟩ := J.out.1.two; obtain ⟨y0, y1, _, _⟩ := J.out.2.1.two; obtain ⟨g0, g1, _, _⟩ := J.out.2.2.1.two; obtain ⟨k0, k1, _, _⟩ := J.out.2.2.2.1.two; clear b7))
      | (go_at_call 15; ((with_reducible refine (C2.out _).mono ?_); rintro e w7 ⟨rfl, b7⟩; have J := Lib.hid (J.out.below b7); obtain ⟨x0, x1, _, _⟩ := J.out.1.two; obtain ⟨y0, y1, _, _⟩ := J.out.2.1.two; obtain ⟨g0, g1, _, _⟩ := J.out.2.2.1.two; obtain ⟨k0, k1, _, _⟩ := J.out.2.2.2.1.two; clear b7))
      | (go_at_call 16; ((with_reducible refine (M1.out _).mono ?_); rintro e w7 ⟨rfl, b7⟩; have J := Lib.hid (J.out.below b7); obtain ⟨x0, x1, _, _⟩ := J.out.1.two; obtain ⟨y0, y1, _, _⟩ := J.out.2.1.two; obtain ⟨g0, g1, _, _⟩ := J.out.2.2.1.two; obtain ⟨k0, k1, _, _⟩ := J.out.2.2.2.1.two; clear b7))
      | (go_at_call 17; ((with_reducible refine (M2.out _).mono ?_); rintro e w7 ⟨rfl, b7⟩; have J := Lib.hid (J.out.below b7); obtain ⟨x0, x1, _, _⟩ := J.out.1.two; obtain ⟨y0, y1, _, _⟩ := J.out.2.1.two; obtain ⟨g0, g1, _, _⟩ := J.out.2.2.1.two; obtain ⟨k0, k1, _, _⟩ := J.out.2.2.2.1.two; clear b7)))
  all_goals
    go_wp2
    go_ret
    exact ⟨rfl, J.out.2.2.2.2.2⟩

set_option maxRecDepth 100000 in
theorem lifted (os : Os) (started : os.Started) (H : Type) (enc : TypeId × Value → H) :
    ReturnsInHanded {} Try.checked os 3 .any (Rows.wideTwoSpec.pre6 enc Try.prog Try.f3 Rows.wideTwoRow.domain false) (Rows.wideTwoSpec.post enc Try.prog Try.f3 false true false false) := by
  refine returnsInHanded_of_change (C := Try.checked) own started (by kernel_rfl) Try.func3
    (ChangeSpec.witness6 (enc := enc) (C := Try.checked) false ⟨#[], #[.agg #[.int .u64 0, .int .u64 0], .agg #[.int .u64 0, .int .u64 0], .int .u64 0, .int .u64 0], []⟩ 8 (by kernel_rfl) (by kernel_rfl) (by kernel_rfl) (by kernel_rfl)) ?_
  intro W base args ds gs before hval0 hW hcnd _
  have hval : ∀ (j : Nat) t v, Try.f3.params[j]? = some t → args[j]? = some v → Value.okWide Try.prog W .any base t v := hval0
  have hW' := hW
  obtain ⟨p, q, hA0, hV, rfl, hfz, hnd⟩ := hW
  obtain ⟨rfl, rfl⟩ := trodVars_none hV
  have hA : DataW.TrodAll enc Try.prog W 0 (fun _ => true) true Try.f3.params.toList args.toList ds p := hA0
  rw [Try.params3] at hA hval
  obtain ⟨v0, vs0, d0, ds0, p0, q0, hargs, rfl, rfl, h0, r0⟩ := trodAll_cons hA
  obtain ⟨v1, vs1, d1, ds1, p1, q1, rfl, rfl, rfl, h1, r1⟩ := trodAll_cons r0
  obtain ⟨v2, vs2, d2, ds2, p2, q2, rfl, rfl, rfl, h2, r2⟩ := trodAll_cons r1
  obtain ⟨v3, vs3, d3, ds3, p3, q3, rfl, rfl, rfl, h3, r3⟩ := trodAll_cons r2
  obtain ⟨rfl, rfl, rfl⟩ := trodAll_nil r3
  obtain rfl : args = #[v0, v1, v2, v3] := by cases args; simp_all
  obtain ⟨a0, b0, rfl, w0, z0⟩ := open_two Try.underlying24 Try.underlying22 Try.underlying22 (by kernel_rfl) (by kernel_rfl) (hval 0 24 v0 rfl rfl) h0
  obtain ⟨a1, b1, rfl, w1, z1⟩ := open_two Try.underlying24 Try.underlying22 Try.underlying22 (by kernel_rfl) (by kernel_rfl) (hval 1 24 v1 rfl rfl) h1
  obtain ⟨a2, rfl, _, _, w2⟩ := open_int Try.underlying22 (hval 2 22 v2 rfl rfl) h2
  obtain ⟨a3, rfl, _, _, w3⟩ := open_int Try.underlying22 (hval 3 22 v3 rfl rfl) h3
  refine (walk a0 b0 (u64_of_wf w0) (u64_of_wf z0) a1 b1 (u64_of_wf w1) (u64_of_wf z1) a2 (u64_of_wf w2) a3 (u64_of_wf w3) W).mono fun e W' ⟨he, hg⟩ => ?_
  subst he
  exact ⟨_, rfl, law_post laid (by rw [Try.params3]; exact (by decide +kernel)) rfl (by kernel_rfl) Try.underlying4 rfl hW' hg⟩

theorem over : Rows.wideTwoRow.holds Try.pinned (OpenSpec.ofChange Rows.wideTwoSpec) :=
  OpenClaim.holds_of_wide 3 Try.f3 rfl rfl rfl rfl rfl rfl rfl ⟨rfl, rfl, rfl, rfl, rfl⟩ rfl rfl rfl rfl rfl (by kernel_rfl) Try.func3 (by kernel_rfl)
    (of_decide_eq_true (by kernel_rfl)) (by unfold Func.isWrapper; first | (rw [if_pos (by decide +kernel)]; kernel_rfl) | (rw [if_neg (by decide +kernel)]; exact ⟨rfl, rfl⟩))
    (fun os started H enc _ => lifted os started H enc)
theorem proved : Rows.WideTwoSaid := over
end Go.Proofs.Ytbnpbflndnjmcaa.wideTwo
