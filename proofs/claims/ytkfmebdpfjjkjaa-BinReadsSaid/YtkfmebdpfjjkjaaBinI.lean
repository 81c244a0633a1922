/- Layer 21 (bin): U, I, N of a reader. -/
import Derived.Test.YtkfmebdpfjjkjaaBinH
namespace Go.Proofs.Ytkfmebdpfjjkjaa
open Go.RowKit
set_option linter.unusedVariables false
set_option linter.unusedSimpArgs false

theorem rN_err {b : List Int} {k : Nat} {e most : Int} (h : (rN b k e most).1.2 ≠ 0) : (rN b k e most).1.1 = k ∧ (rN b k e most).2 = 0 := by
  unfold rN at h ⊢
  by_cases h1 : (rU b k e).1.2 ≠ 0
  · rw [if_pos h1]; exact ⟨(rU_err h1).1, rfl⟩
  · rw [if_neg h1] at h ⊢
    by_cases h2 : most < 0 ∨ most < ((rU b k e).2 : Int)
    · rw [if_pos h2]; exact ⟨rfl, rfl⟩
    · rw [if_neg h2] at h; exact absurd h h1
theorem rN_e {b : List Int} {k : Nat} {e most : Int} (h : e ≠ 0) : rN b k e most = ((k, e), 0) := by
  unfold rN
  rw [rU_e h, if_pos h]
theorem rN_bd {b : List Int} {k : Nat} {e most : Int} (h : (rN b k e most).1.2 = 0) : ((rN b k e most).2 : Int) ≤ most ∧ (rU b k e).1.2 = 0 ∧ rN b k e most = rU b k e := by
  unfold rN at h ⊢
  by_cases h1 : (rU b k e).1.2 ≠ 0
  · rw [if_pos h1] at h; exact absurd h h1
  · rw [if_neg h1] at h ⊢
    by_cases h2 : most < 0 ∨ most < ((rU b k e).2 : Int)
    · rw [if_pos h2] at h; simp at h
    · rw [if_neg h2]; exact ⟨by omega, by omega, rfl⟩
set_option maxRecDepth 100000 in
set_option maxHeartbeats 2000000 in
theorem rd_U {w : World} {B g k : Nat} {b : List Int} {e0 : Int} (h : RdAt w B g b k e0) :
    Calls Try.prog 71 #[.pointer (some ⟨g, 0, none⟩)] w fun e w' => e = .returned (.int .u64 ((rU b k e0).2 : Nat)) ∧ RdAt w' B g b (rU b k e0).1.1 (rU b k e0).1.2 ∧ Wr g w w' := by
  have hmf : ∀ (fn : Fn) (first cap : Array Value) (w : World), (Instr.makeFunc fn first cap).run Try.prog w = .ok (.func fn first cap) w := fun _ _ _ _ => rfl
  have KR : Hid (Calls Try.prog 133 #[.pointer (some ⟨g, 0, none⟩), .func (.func 134) #[.pointer (some ⟨g, 0, none⟩)] #[]] w fun e w' => e = .returned (.int .u64 ((rU b k e0).2 : Nat)) ∧ RdAt w' B g b (rU b k e0).1.1 (rU b k e0).1.2 ∧ Wr g w w') := by
    by_cases he : e0 = 0
    · subst he
      refine (read_ok_u64 (fun v X k2 e2 => e2 = (rU b k 0).1.2 ∧ (e2 = 0 → k2 = (rU b k 0).1.1 ∧ v = .int .u64 ((rU b k 0).2 : Nat))) h fun X hX hb _ => (rd_number hX).mono fun e w' hg => ?_).mono fun e w' hg => ?_
      · obtain ⟨v, k2, e2, g1, g2, g3, g4, g5, g6⟩ := hg
        exact ⟨v, k2, e2, g1, g3, g4, g5, fun h => ⟨(g6 h).1, by rw [(g6 h).2]⟩⟩
      · obtain ⟨x, k2, e2, X1, ⟨g1, g2⟩, g3, -, -, g4, g5⟩ := hg
        by_cases h0 : e2 = 0
        · obtain ⟨rfl, g6⟩ := g4 h0
          obtain ⟨g7, g8⟩ := g2 h0
          rw [g8, ← g1, ← g7, h0]
          exact ⟨rfl, g6, g3⟩
        · obtain ⟨rfl, g6⟩ := g5 h0
          obtain ⟨g7, g8⟩ := rU_err (b := b) (k := k) (e := 0) (by rw [← g1]; exact h0)
          rw [g8, g7, ← g1]
          exact ⟨rfl, g6, g3⟩
    · rw [rU_e he]
      exact read_no_u64 h he _
  clear h
  generalize (rU b k e0).2 = rv at *
  go_enter Try.func71, Try.ntmps71
  go_wp2_with fail
  refine (KR.out).mono ?_
  rintro e w1 ⟨rfl, g1, g2⟩
  have H1 := Lib.hid g1
  have H2 := Lib.hid g2
  clear g1 g2
  go_wp2
  go_ret
  exact ⟨rfl, H1.out, H2.out⟩
set_option maxRecDepth 100000 in
theorem rd_U_nil (w : World) : Calls Try.prog 71 #[.pointer none] w fun e w' => e = .returned (.int .u64 0) ∧ Below w.heap.size w w' := by
  have hmf : ∀ (fn : Fn) (first cap : Array Value) (w : World), (Instr.makeFunc fn first cap).run Try.prog w = .ok (.func fn first cap) w := fun _ _ _ _ => rfl
  have KR := Lib.hid (fun fv => read_nil_u64 fv w)
  go_enter Try.func71, Try.ntmps71
  go_wp2_with fail
  refine (KR.out _).mono ?_
  rintro e w1 ⟨rfl, g1⟩
  have H1 := Lib.hid g1
  clear g1
  go_wp2
  go_ret
  exact ⟨rfl, H1.out⟩
set_option maxRecDepth 100000 in
set_option maxHeartbeats 2000000 in
theorem rd_I {w : World} {B g k : Nat} {b : List Int} {e0 : Int} (h : RdAt w B g b k e0) :
    Calls Try.prog 72 #[.pointer (some ⟨g, 0, none⟩)] w fun e w' => e = .returned (.int .i64 (unfoldI (rU b k e0).2)) ∧ RdAt w' B g b (rU b k e0).1.1 (rU b k e0).1.2 ∧ Wr g w w' := by
  have KU := Lib.hid (rd_U h)
  have KF := Lib.hid (fun W => bin_unfolded (rU b k e0).2 (rU_bd h.lt.2.2.2.2 k e0) W)
  clear h
  generalize (rU b k e0).2 = rv at *
  generalize unfoldI rv = ri at *
  go_enter Try.func72, Try.ntmps72
  go_wp2_with fail
  refine (KU.out).mono ?_
  rintro e w1 ⟨rfl, g1, g2⟩
  have H1 := Lib.hid g1
  have H2 := Lib.hid g2
  clear g1 g2
  go_wp2_with fail
  refine (KF.out _).mono ?_
  rintro e w2 ⟨rfl, rfl⟩
  go_wp2
  go_ret
  exact ⟨rfl, H1.out, H2.out⟩
set_option maxRecDepth 100000 in
set_option maxHeartbeats 4000000 in
theorem cl_N {X : World} {B g k pa pb : Nat} {b : List Int} (most : Int) (hm : I64 most) (h : RdAt X B g b k 0) (ha : Box X pa #[.pointer (some ⟨g, 0, none⟩)] 53) (hb : Box X pb #[.int .i64 most] 3) (hag : pa ≠ g) (hbg : pb ≠ g) :
    Calls Try.prog 143 #[.pointer (some ⟨pa, 0, none⟩), .pointer (some ⟨pb, 0, none⟩)] X (PartR_int g B b (fun v w' k2 e2 => e2 = (rN b k 0 most).1.2 ∧ (e2 = 0 → k2 = (rN b k 0 most).1.1 ∧ v = .int .i64 ((rN b k 0 most).2 : Nat))) X) := by
  have KU := Lib.hid (rd_U h)
  have hbd := rU_bd h.lt.2.2.2.2 k 0
  have HNE : Hid ((rU b k 0).1.2 ≠ 0 → (rU b k 0).2 = 0) := fun h => (rU_err h).2
  have HA := Lib.hid ha
  have HB := Lib.hid hb
  have hrn : rN b k 0 most = if (rU b k 0).1.2 ≠ 0 then ((rU b k 0).1, 0) else if most < 0 ∨ most < ((rU b k 0).2 : Int) then ((k, 211), 0) else rU b k 0 := rfl
  have x0 := (ha.cell 0).trans rfl
  obtain ⟨hm1, hm2⟩ := hm
  unfold PartR_int
  clear h ha hb
  generalize hu : rU b k 0 = u at *
  obtain ⟨⟨k1, e1⟩, n⟩ := u
  simp only at KU HNE hrn hbd
  have KF := Lib.hid (fun W (h1 : RdAt W B g b k1 e1) => rd_Fail h1 211)
  by_cases hbad : most < 0 ∨ most < (n : Int)
  · have HE2 : Hid (failE e1 211 = (rN b k 0 most).1.2) := by
      show _ = _
      rw [hrn, if_pos hbad]
      unfold failE
      by_cases h1 : e1 ≠ 0
      · rw [if_pos h1, if_pos h1]
      · rw [if_neg h1, if_neg h1]; simp
    have HE3 : Hid (failE e1 211 ≠ 0) := by
      show failE e1 211 ≠ 0
      unfold failE
      by_cases h1 : e1 ≠ 0
      · rw [if_pos h1]; exact h1
      · rw [if_neg h1]; simp
    clear hrn
    generalize rN b k 0 most = r at *
    generalize failE e1 211 = e9 at *
    by_cases h0 : most < 0
    · have hd : decide (most < 0) = true := decide_eq_true h0
      clear hbad
      go_enter Try.func143, Try.ntmps143
      go_wp2_with fail
      refine (KU.out).mono ?_
      rintro e w1 ⟨rfl, g1, g2⟩
      have H1 := Lib.hid g1
      have H2 := Lib.hid g2
      have a1 := ((g2.box HA.out hag).cell 0).trans rfl
      have b1 := ((g2.box HB.out hbg).cell 0).trans rfl
      clear g1 g2
      go_wp2_with fail
      refine (KF.out _ H1.out).mono ?_
      rintro e w2 ⟨rfl, g1, g2⟩
      have H3 := Lib.hid g1
      have H4 := Lib.hid (H2.out.trans g2)
      clear g1 g2
      go_wp2
      go_ret
      exact ⟨_, k1, e9, rfl, H3.out, H4.out, HE2.out, fun h => absurd h HE3.out⟩
    · have hd : decide (most < 0) = false := decide_eq_false h0
      have hmn : most < (n : Int) := by omega
      clear hbad
      go_enter Try.func143, Try.ntmps143
      go_wp2_with fail
      refine (KU.out).mono ?_
      rintro e w1 ⟨rfl, g1, g2⟩
      have H1 := Lib.hid g1
      have H2 := Lib.hid g2
      have a1 := ((g2.box HA.out hag).cell 0).trans rfl
      have b1 := ((g2.box HB.out hbg).cell 0).trans rfl
      clear g1 g2
      go_wp2_with fail
      refine (KF.out _ H1.out).mono ?_
      rintro e w2 ⟨rfl, g1, g2⟩
      have H3 := Lib.hid g1
      have H4 := Lib.hid (H2.out.trans g2)
      clear g1 g2
      go_wp2
      go_ret
      exact ⟨_, k1, e9, rfl, H3.out, H4.out, HE2.out, fun h => absurd h HE3.out⟩
  · have h0 : ¬ most < 0 := by omega
    have hd : decide (most < 0) = false := decide_eq_false h0
    have hmn : ¬ most < (n : Int) := by omega
    have hnn : (n : Int) ≤ 9223372036854775807 := by omega
    have HE2 : Hid (e1 = (rN b k 0 most).1.2 ∧ (e1 = 0 → k1 = (rN b k 0 most).1.1 ∧ n = (rN b k 0 most).2)) := by
      rw [hrn, if_neg hbad]
      by_cases h1 : e1 ≠ 0
      · rw [if_pos h1]; exact ⟨rfl, fun h => absurd h h1⟩
      · rw [if_neg h1]; exact ⟨rfl, fun _ => ⟨rfl, rfl⟩⟩
    clear hrn hbad
    generalize rN b k 0 most = r at *
    go_enter Try.func143, Try.ntmps143
    go_wp2_with fail
    refine (KU.out).mono ?_
    rintro e w1 ⟨rfl, g1, g2⟩
    have H1 := Lib.hid g1
    have H2 := Lib.hid g2
    have a1 := ((g2.box HA.out hag).cell 0).trans rfl
    have b1 := ((g2.box HB.out hbg).cell 0).trans rfl
    clear g1 g2
    go_wp2
    go_ret
    exact ⟨(n : Int), k1, e1, rfl, H1.out, H2.out, HE2.out.1, fun h => ⟨(HE2.out.2 h).1, by rw [(HE2.out.2 h).2]⟩⟩
set_option maxRecDepth 100000 in
set_option maxHeartbeats 4000000 in
theorem rd_N {w : World} {B g k : Nat} {b : List Int} {e0 : Int} (most : Int) (hm : I64 most) (h : RdAt w B g b k e0) :
    Calls Try.prog 79 #[.pointer (some ⟨g, 0, none⟩), .int .i64 most] w fun e w' => e = .returned (.int .i64 ((rN b k e0 most).2 : Nat)) ∧ RdAt w' B g b (rN b k e0 most).1.1 (rN b k e0 most).1.2 ∧ Wr g w w' := by
  have hmf : ∀ (fn : Fn) (first cap : Array Value) (w : World), (Instr.makeFunc fn first cap).run Try.prog w = .ok (.func fn first cap) w := fun _ _ _ _ => rfl
  have HX := Lib.hid (((Kpc.start w).alloc #[.pointer (some ⟨g, 0, none⟩)] 53).alloc #[.int .i64 most] 3)
  rw [alloc_size'] at HX
  have hg := h.lt.1
  have hX := h.below HX.out.2.1
  have x0 := (HX.out.tail.head.cell 0).trans rfl
  have KR : Hid (Calls Try.prog 142 #[.pointer (some ⟨g, 0, none⟩), .func (.func 143) #[] #[.pointer (some ⟨w.heap.size, 0, none⟩), .pointer (some ⟨w.heap.size + 1, 0, none⟩)]] ((w.alloc (.cells #[.pointer (some ⟨g, 0, none⟩)] 53)).alloc (.cells #[.int .i64 most] 3)) fun e w' => e = .returned (.int .i64 ((rN b k e0 most).2 : Nat)) ∧ RdAt w' B g b (rN b k e0 most).1.1 (rN b k e0 most).1.2 ∧ Wr g w w') := by
    by_cases he : e0 = 0
    · subst he
      refine (read_ok_int w.heap.size (w.heap.size + 1) (fun v w' k2 e2 => e2 = (rN b k 0 most).1.2 ∧ (e2 = 0 → k2 = (rN b k 0 most).1.1 ∧ v = .int .i64 ((rN b k 0 most).2 : Nat))) hX fun X hX1 hb1 _ => cl_N most hm hX1 (HX.out.tail.head.below hb1 HX.out.tail.head.lt) (HX.out.head.below hb1 HX.out.head.lt) (by omega) (by omega)).mono fun e w' hg => ?_
      obtain ⟨x, k2, e2, X1, ⟨g1, g2⟩, g3, -, -, g4, g5⟩ := hg
      by_cases h0 : e2 = 0
      · obtain ⟨rfl, g6⟩ := g4 h0
        obtain ⟨g7, g8⟩ := g2 h0
        rw [g8, ← g1, ← g7, h0]
        exact ⟨rfl, g6, (Wr.of g HX.out.2.1).trans g3⟩
      · obtain ⟨rfl, g6⟩ := g5 h0
        obtain ⟨g7, g8⟩ := rN_err (b := b) (k := k) (e := 0) (most := most) (by rw [← g1]; exact h0)
        rw [g8, g7, ← g1]
        exact ⟨rfl, g6, (Wr.of g HX.out.2.1).trans g3⟩
    · rw [rN_e he]
      exact (read_no_int hX he _).mono fun e w' hg => ⟨hg.1, hg.2.1, (Wr.of g HX.out.2.1).trans hg.2.2⟩
  clear h hX
  generalize (rN b k e0 most).2 = rv at *
  go_enter Try.func79, Try.ntmps79
  go_wp2_with fail
  refine (KR.out).mono ?_
  rintro e w1 ⟨rfl, g1, g2⟩
  have H1 := Lib.hid g1
  have H2 := Lib.hid g2
  clear g1 g2
  go_wp2
  go_ret
  exact ⟨rfl, H1.out, H2.out⟩
end Go.Proofs.Ytkfmebdpfjjkjaa
