/- Statement RatioDoes: whatever the input is, the Go function returns true and each argument reads as it did. No condition. -/
import Derived.Test.YtbnpbflndnjmcaaDoorRows
import Derived.Test.YtbnpbflndnjmcaaDoorRatL
import Derived.Test.YtbnpbflndnjmcaaDoorRatF
import Derived.Test.YtbnpbflndnjmcaaDoorRatK
import Derived.Test.YtbnpbflndnjmcaaDoorBase
import Derived.Test.YtbnpbflndnjmcaaDoorTie
import Derived.Test.YtbnpbflndnjmcaaDoorCards
import Derived.SevenTiedAt
import Derived.ProofKit
import Derived.OpenShut
namespace Go.Proofs.YtbnpbflndnjmcaaDoor.ratioDoes
open Go.ChangeShapes Go.WideShapes Go.ChangeAt Go.RowKit
set_option linter.unusedVariables false

theorem own : ownKnob Tryd.prog.godebug = none := by kernel_rfl
theorem laid : laidOutB Tryd.prog = true := by kernel_rfl

def DoJ (B : Nat) (W : World) (g k : Nat) (a b x y : Array Value) (w : World) : Prop :=
  Box w B a 23 ∧ Box w (B + 1) b 23 ∧ Box w g x 23 ∧ Box w k y 23 ∧ (B + 1 < g ∧ g < k) ∧ Below B W w
theorem DoJ.below {B : Nat} {W : World} {g k : Nat} {a b x y : Array Value} {w w' : World} (h : DoJ B W g k a b x y w) (hb : Below w.heap.size w w') : DoJ B W g k a b x y w' :=
  ⟨h.1.below hb h.1.lt, h.2.1.below hb h.2.1.lt, h.2.2.1.below hb h.2.2.1.lt, h.2.2.2.1.below hb h.2.2.2.1.lt, h.2.2.2.2.1, h.2.2.2.2.2.trans (hb.mono (Nat.le_of_lt h.1.lt))⟩
theorem DoJ.setg {B : Nat} {W : World} {g k : Nat} {a b y : Array Value} {p q : Value} {w : World} (h : DoJ B W g k a b #[p, q] y w) (u v : Value) : DoJ B W g k a b #[u, v] y ((w.setCell ⟨g, 0, none⟩ u).setCell ⟨g, 1, none⟩ v) := by
  obtain ⟨h1, h2, h3, h4, h5, h6⟩ := h
  exact ⟨h1.off2 (by omega) u v, h2.off2 (by omega) u v, h3.set2 u v, h4.off2 (by omega) u v, h5, (h6.setCell (p := ⟨g, 0, none⟩) (by simp; omega) _).setCell (p := ⟨g, 1, none⟩) (by simp; omega) _⟩
theorem DoJ.setk {B : Nat} {W : World} {g k : Nat} {a b x : Array Value} {p q : Value} {w : World} (h : DoJ B W g k a b x #[p, q] w) (u v : Value) : DoJ B W g k a b x #[u, v] ((w.setCell ⟨k, 0, none⟩ u).setCell ⟨k, 1, none⟩ v) := by
  obtain ⟨h1, h2, h3, h4, h5, h6⟩ := h
  exact ⟨h1.off2 (by omega) u v, h2.off2 (by omega) u v, h3.off2 (by omega) u v, h4.set2 u v, h5, (h6.setCell (p := ⟨k, 0, none⟩) (by simp; omega) _).setCell (p := ⟨k, 1, none⟩) (by simp; omega) _⟩

set_option maxHeartbeats 4000000 in
theorem walk (a b : Int) (ha : I64 a) (hb : I64 b) (c d : Int) (hc : I64 c) (hd : I64 d) (w : World) (hT : Tab w) :
    Calls Tryd.prog 4 #[.agg #[.int .i64 a, .int .i64 b], .agg #[.int .i64 c, .int .i64 d]] w fun e w' => e = .returned (.bool true) ∧ Below w.heap.size w w' := by
  have A1 := Lib.hid (fun W => rat_add a b c d ha hb hc hd W)
  have B1 := Lib.hid (fun W => ref3_add a b c d ha hb hc hd W)
  have A2 := Lib.hid (fun W => rat_sub a b c d ha hb hc hd W)
  have B2 := Lib.hid (fun W => ref3_sub a b c d ha hb hc hd W)
  have A3 := Lib.hid (fun W => rat_mul a b c d ha hb hc hd W)
  have B3 := Lib.hid (fun W => ref3_mul a b c d ha hb hc hd W)
  have A4 := Lib.hid (fun W => rat_div a b c d ha hb hc hd W)
  have B4 := Lib.hid (fun W => ref3_div a b c d ha hb hc hd W)
  have A5 := Lib.hid (fun W => rat_cmp a b c d ha hb hc hd W)
  have B5 := Lib.hid (fun W => ref3_cmp a b c d ha hb hc hd W)
  unfold doV at A1 B1 A2 B2 A3 B3 A4 B4
  unfold cmV at A5 B5
  generalize doP a b c d (a * d + c * b) (b * d) = p1 at *
  generalize doQ a b c d (a * d + c * b) (b * d) = q1 at *
  generalize doE a b c d (a * d + c * b) (b * d) = e1 at *
  generalize doP a b c d (a * d - c * b) (b * d) = p2 at *
  generalize doQ a b c d (a * d - c * b) (b * d) = q2 at *
  generalize doE a b c d (a * d - c * b) (b * d) = e2 at *
  generalize doP a b c d (a * c) (b * d) = p3 at *
  generalize doQ a b c d (a * c) (b * d) = q3 at *
  generalize doE a b c d (a * c) (b * d) = e3 at *
  generalize doP a b c d (a * d) (b * c) = p4 at *
  generalize doQ a b c d (a * d) (b * c) = q4 at *
  generalize doE a b c d (a * d) (b * c) = e4 at *
  generalize cmN a b c d = m5 at *
  generalize cmE a b c d = e5 at *
  have zp1 : (p1 != p1) = false := by simp
  have zq1 : (q1 != q1) = false := by simp
  have ze1 : (e1 != e1) = false := by simp
  have zp2 : (p2 != p2) = false := by simp
  have zq2 : (q2 != q2) = false := by simp
  have ze2 : (e2 != e2) = false := by simp
  have zp3 : (p3 != p3) = false := by simp
  have zq3 : (q3 != q3) = false := by simp
  have ze3 : (e3 != e3) = false := by simp
  have zp4 : (p4 != p4) = false := by simp
  have zq4 : (q4 != q4) = false := by simp
  have ze4 : (e4 != e4) = false := by simp
  have zm5 : (m5 == m5) = true := by simp
  have ze5 : (e5 == e5) = true := by simp
  have J0 := Lib.hid (((Keeps.start w).alloc #[.int .i64 a, .int .i64 b] 23).alloc #[.int .i64 c, .int .i64 d] 23)
  simp only [alloc_size'] at J0
  have T := Lib.hid ((hT.alloc (.cells #[.int .i64 a, .int .i64 b] 23)).alloc (.cells #[.int .i64 c, .int .i64 d] 23))
  clear hT
  go_enter Tryd.func4, Tryd.ntmps4
  go_wp2_with fail
  refine (A1.out _).mono ?_
  rintro e w1 ⟨rfl, bb⟩
  have s1 : w.heap.size + 1 < w1.heap.size := Nat.lt_of_lt_of_le (by simp) bb.size
  have J1 := Lib.hid ((J0.out.below bb).alloc #[.int .i64 p1, .int .i64 q1] 23)
  have T := Lib.hid ((T.out.below bb).alloc (.cells #[.int .i64 p1, .int .i64 q1] 23))
  obtain ⟨y0, y1, _, _⟩ := J1.out.tail.head.two
  obtain ⟨x0, x1, _, _⟩ := J1.out.tail.tail.head.two
  clear bb J0
  go_wp2_with fail
  refine (B1.out _).mono ?_
  rintro e w2 ⟨rfl, bb⟩
  have s2 : w1.heap.size < w2.heap.size := Nat.lt_of_lt_of_le (by simp) bb.size
  have J2 := Lib.hid ((J1.out.below bb).alloc #[.int .i64 p1, .int .i64 q1] 23)
  have T := Lib.hid ((T.out.below bb).alloc (.cells #[.int .i64 p1, .int .i64 q1] 23))
  have J : Hid (DoJ w.heap.size w w1.heap.size w2.heap.size #[.int .i64 a, .int .i64 b] #[.int .i64 c, .int .i64 d] #[.int .i64 p1, .int .i64 q1] #[.int .i64 p1, .int .i64 q1] (w2.alloc (.cells #[.int .i64 p1, .int .i64 q1] 23))) :=
    ⟨J2.out.tail.tail.tail.head, J2.out.tail.tail.head, J2.out.tail.head, J2.out.head, ⟨s1, s2⟩, J2.out.2.1⟩
  clear bb J1 J2 y0 y1 x0 x1
  obtain ⟨x0, x1, _, _⟩ := J.out.1.two
  obtain ⟨y0, y1, _, _⟩ := J.out.2.1.two
  obtain ⟨g0, g1, g2, g3⟩ := J.out.2.2.1.two
  obtain ⟨k0, k1, k2, k3⟩ := J.out.2.2.2.1.two
  go_wp2_with fail
  refine (lives3 _ T.out).mono ?_
  rintro e w3 ⟨rfl, bb⟩
  have J := Lib.hid (J.out.below bb)
  clear bb T
  obtain ⟨x0, x1, _, _⟩ := J.out.1.two
  obtain ⟨y0, y1, _, _⟩ := J.out.2.1.two
  obtain ⟨g0, g1, g2, g3⟩ := J.out.2.2.1.two
  obtain ⟨k0, k1, k2, k3⟩ := J.out.2.2.2.1.two
  go_wp2_with fail
  refine (A2.out _).mono ?_
  rintro e w4 ⟨rfl, bb⟩
  have J := Lib.hid (J.out.below bb)
  obtain ⟨g0, g1, g2, g3⟩ := J.out.2.2.1.two
  have J := Lib.hid (J.out.setg (.int .i64 p2) (.int .i64 q2))
  obtain ⟨x0, x1, _, _⟩ := J.out.1.two
  obtain ⟨y0, y1, _, _⟩ := J.out.2.1.two
  clear bb
  go_wp2_with fail
  refine (B2.out _).mono ?_
  rintro e w5 ⟨rfl, bb⟩
  have J := Lib.hid (J.out.below bb)
  obtain ⟨k0, k1, k2, k3⟩ := J.out.2.2.2.1.two
  have J := Lib.hid (J.out.setk (.int .i64 p2) (.int .i64 q2))
  clear bb
  obtain ⟨x0, x1, _, _⟩ := J.out.1.two
  obtain ⟨y0, y1, _, _⟩ := J.out.2.1.two
  obtain ⟨g0, g1, g2, g3⟩ := J.out.2.2.1.two
  obtain ⟨k0, k1, k2, k3⟩ := J.out.2.2.2.1.two
  go_wp2_with fail
  refine (A3.out _).mono ?_
  rintro e w4 ⟨rfl, bb⟩
  have J := Lib.hid (J.out.below bb)
  obtain ⟨g0, g1, g2, g3⟩ := J.out.2.2.1.two
  have J := Lib.hid (J.out.setg (.int .i64 p3) (.int .i64 q3))
  obtain ⟨x0, x1, _, _⟩ := J.out.1.two
  obtain ⟨y0, y1, _, _⟩ := J.out.2.1.two
  clear bb
  go_wp2_with fail
  refine (B3.out _).mono ?_
  rintro e w5 ⟨rfl, bb⟩
  have J := Lib.hid (J.out.below bb)
  obtain ⟨k0, k1, k2, k3⟩ := J.out.2.2.2.1.two
  have J := Lib.hid (J.out.setk (.int .i64 p3) (.int .i64 q3))
  clear bb
  obtain ⟨x0, x1, _, _⟩ := J.out.1.two
  obtain ⟨y0, y1, _, _⟩ := J.out.2.1.two
  obtain ⟨g0, g1, g2, g3⟩ := J.out.2.2.1.two
  obtain ⟨k0, k1, k2, k3⟩ := J.out.2.2.2.1.two
  go_wp2_with fail
  refine (A4.out _).mono ?_
  rintro e w4 ⟨rfl, bb⟩
  have J := Lib.hid (J.out.below bb)
  obtain ⟨g0, g1, g2, g3⟩ := J.out.2.2.1.two
  have J := Lib.hid (J.out.setg (.int .i64 p4) (.int .i64 q4))
  obtain ⟨x0, x1, _, _⟩ := J.out.1.two
  obtain ⟨y0, y1, _, _⟩ := J.out.2.1.two
  clear bb
  go_wp2_with fail
  refine (B4.out _).mono ?_
  rintro e w5 ⟨rfl, bb⟩
  have J := Lib.hid (J.out.below bb)
  obtain ⟨k0, k1, k2, k3⟩ := J.out.2.2.2.1.two
  have J := Lib.hid (J.out.setk (.int .i64 p4) (.int .i64 q4))
  clear bb
  obtain ⟨x0, x1, _, _⟩ := J.out.1.two
  obtain ⟨y0, y1, _, _⟩ := J.out.2.1.two
  obtain ⟨g0, g1, g2, g3⟩ := J.out.2.2.1.two
  obtain ⟨k0, k1, k2, k3⟩ := J.out.2.2.2.1.two
  go_wp2_with fail
  refine (A5.out _).mono ?_
  rintro e w6 ⟨rfl, bb⟩
  have J := Lib.hid (J.out.below bb)
  clear bb
  obtain ⟨x0, x1, _, _⟩ := J.out.1.two
  obtain ⟨y0, y1, _, _⟩ := J.out.2.1.two
  obtain ⟨g0, g1, g2, g3⟩ := J.out.2.2.1.two
  obtain ⟨k0, k1, k2, k3⟩ := J.out.2.2.2.1.two
  go_wp2_with fail
  refine (B5.out _).mono ?_
  rintro e w7 ⟨rfl, bb⟩
  go_wp2
  go_ret
  exact ⟨rfl, (J.out.below bb).2.2.2.2.2⟩

set_option maxRecDepth 100000 in
theorem lifted (os : Os) (started : os.Started) (H : Type) (enc : TypeId × Value → H) :
    ReturnsInHanded {} Tryd.checked os 4 .any (fun w args => (Rows.ratioDoesSpec.pre enc Tryd.prog Tryd.f4 [] false w args ∧ laidMetH Tryd.prog lst w) ∧ sizedMet enc Tryd.prog Tryd.f4 (OpenSpec.ofChange Rows.ratioDoesSpec) false w args) (Rows.ratioDoesSpec.post enc Tryd.prog Tryd.f4 false true false false) := by
  refine returnsInHanded_of_change_and (C := Tryd.checked) (X := fun w _ => laidMetH Tryd.prog lst w) (fun _ _ _ hh h => h.of_heap hh) own started (by kernel_rfl) Tryd.func4
    (ChangeSpec.witness_shaped (enc := enc) (C := Tryd.checked) (os := os) (X := fun w _ => laidMetH Tryd.prog lst w) false (World.doorLaid Tryd.prog 400 os) #[.agg #[.int .i64 0, .int .i64 0], .agg #[.int .i64 0, .int .i64 0]] 8 rfl (World.shaped_of_RefB (by kernel_rfl) (by kernel_rfl)) (by kernel_rfl) (by kernel_rfl) (by kernel_rfl) (door_met os _)) ?_
  intro W base args ds gs before hval0 hW _ _ hL _
  have hT := tab_of hL
  have hval : ∀ (j : Nat) t v, Tryd.f4.params[j]? = some t → args[j]? = some v → Value.okWide Tryd.prog W .any base t v := hval0
  have hW' := hW
  obtain ⟨p, q, hA0, hV, rfl, hfz, hnd⟩ := hW
  obtain ⟨rfl, rfl⟩ := trodVars_none hV
  have hA : DataW.TrodAll enc Tryd.prog W 0 (fun _ => true) true Tryd.f4.params.toList args.toList ds p := hA0
  rw [Tryd.params4] at hA hval
  obtain ⟨v0, vs0, d0, ds0, p0, q0, hargs, rfl, rfl, h0, r0⟩ := trodAll_cons hA
  obtain ⟨v1, vs1, d1, ds1, p1, q1, rfl, rfl, rfl, h1, r1⟩ := trodAll_cons r0
  obtain ⟨rfl, rfl, rfl⟩ := trodAll_nil r1
  obtain rfl : args = #[v0, v1] := by cases args; simp_all
  obtain ⟨a0, b0, rfl, w0, z0⟩ := open_two Tryd.underlying23 Tryd.underlying3 Tryd.underlying3 (by kernel_rfl) (by kernel_rfl) (hval 0 23 v0 rfl rfl) h0
  obtain ⟨a1, b1, rfl, w1, z1⟩ := open_two Tryd.underlying23 Tryd.underlying3 Tryd.underlying3 (by kernel_rfl) (by kernel_rfl) (hval 1 23 v1 rfl rfl) h1
  refine (walk a0 b0 (i64_of_wf w0) (i64_of_wf z0) a1 b1 (i64_of_wf w1) (i64_of_wf z1) W hT).mono fun e W' ⟨he, hg⟩ => ?_
  subst he
  exact ⟨_, rfl, law_post laid (by rw [Tryd.params4]; exact (by decide +kernel)) rfl (by kernel_rfl) Tryd.underlying4 rfl hW' hg⟩

theorem over : Rows.ratioDoesRow.holds Tryd.pinned (OpenSpec.ofChange Rows.ratioDoesSpec) :=
  OpenClaim.holds_of_wide 4 Tryd.f4 rfl rfl rfl rfl rfl rfl rfl ⟨rfl, rfl, rfl, rfl, rfl⟩ rfl rfl rfl rfl rfl (by kernel_rfl) Tryd.func4 (by kernel_rfl)
    (of_decide_eq_true (by kernel_rfl)) (by unfold Func.isWrapper; first | (rw [if_pos (by decide +kernel)]; kernel_rfl) | (rw [if_neg (by decide +kernel)]; exact ⟨rfl, rfl⟩))
    (fun os started H enc _ => lifted os started H enc)
theorem proved : Rows.RatioDoesCardSaid :=
  Claim7.holds_tied_plain_at .later [] [.data, .data, .data] true Rows.ratioDoesCard.stood.harness false
    over (fun _ h => by cases h) (by kernel_rfl) (fun _ h => by cases h) ratioDoes_row_tie rfl ⟨rfl, rfl⟩ (by kernel_rfl) rfl
    (fun f fn hf hfn => by
      obtain rfl : f = 4 := Option.some.inj ((show Tryd.prog.funcNamed Rows.ratioDoesRow.func = some 4 by kernel_rfl).symm.trans hf) |>.symm
      obtain rfl : fn = Tryd.f4 := (Option.some.inj (Tryd.func4.symm.trans hfn)).symm
      exact ⟨by kernel_rfl, fun j t ht => by
        rw [Tryd.params4] at ht
        have hm : t ∈ [23, 23] := by simpa using Array.mem_of_getElem? ht
        have hall : ([23, 23].all fun u => !Tryd.prog.wantsStandIn u) = true := by kernel_rfl
        exact (show Tryd.prog.wantsStandIn t = false by simpa using List.all_eq_true.1 hall t hm)⟩)
    (by kernel_rfl)
end Go.Proofs.YtbnpbflndnjmcaaDoor.ratioDoes
