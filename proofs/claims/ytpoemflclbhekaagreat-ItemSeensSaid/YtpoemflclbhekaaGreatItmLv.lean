/- ItmQ ItmR ItmS ItmT -/
import Derived.Test.YtpoemflclbhekaaGreatItmCd
import Derived.Test.YtpoemflclbhekaaGreatSchC
import Derived.Great.BuildSlice
import Derived.Laws.CopyOwn
import Derived.Test.YtpoemflclbhekaaGreatScoC
import Derived.Test.YtpoemflclbhekaaGreatItmRf
import Derived.Test.YtpoemflclbhekaaGreatBinRd

/-! Layer 22 (item): a reader that may be none; ways to work checked and read, in the code: places, checked, GetConf. -/
namespace Go.Proofs.YtpoemflclbhekaaGreat
open Go.RowKit
set_option linter.unusedVariables false
set_option linter.unusedSimpArgs false

theorem rd_N_nil (most : Int) (w : World) : Calls Tryz.prog 33 #[.pointer none, .int .i64 most] w fun e w' => e = .returned (.int .i64 0) ∧ Below w.heap.size w w' := by
  have hmf : ∀ (fn : Fn) (first cap : Array Value) (w : World), (Instr.makeFunc fn first cap).run Tryz.prog w = .ok (.func fn first cap) w := fun _ _ _ _ => rfl
  have HX := Lib.hid (((Kpc.start w).alloc #[.pointer none] 29).alloc #[.int .i64 most] 3)
  rw [alloc_size'] at HX
  have x0 := (HX.out.tail.head.cell 0).trans rfl
  have KR := Lib.hid (fun fv W => read_nil_int fv W)
  go_enter Tryz.func33, Tryz.ntmps33
  go_wp2_with fail
  refine (KR.out _ _).mono ?_
  rintro e w1 ⟨rfl, g1⟩
  have H2 := Lib.hid (HX.out.2.1.trans (g1.mono HX.out.2.1.size))
  clear g1
  go_wp2
  go_ret
  exact ⟨rfl, H2.out⟩
theorem rd_Fail_nil (x : Int) (w : World) : Calls Tryz.prog 44 #[.pointer none, .int .i64 x] w fun e w' => e = .returned (.tuple #[]) ∧ w = w' := by
  have KE := Lib.hid (fun W => rd_Err_nil W)
  go_enter Tryz.func44, Tryz.ntmps44
  go_wp2_with fail
  refine (KE.out _).mono ?_
  rintro e w' ⟨rfl, rfl⟩
  go_wp2
  first | go_end0 | refine bodyPost_ret (results_none rfl _ _ _) rfl ?_
  exact ⟨rfl, rfl⟩
/-- a reader, or none -/
def pvO (g : Option Nat) : Value := .pointer (g.map fun g => ⟨g, 0, none⟩)
def WrO (g : Option Nat) (a b : World) : Prop := match g with | none => Below a.heap.size a b | some g => Wr g a b
def RdO (B : Nat) (b : List Int) (g : Option Nat) (W : World) (s : Nat × Int) : Prop := match g with | none => s = (0, 7) | some g => RdAt W B g b s.1 s.2
theorem WrO.of (g : Option Nat) {a b : World} (h : Below a.heap.size a b) : WrO g a b := by
  cases g with
  | none => exact h
  | some g => exact Wr.of g h
theorem WrO.size {g : Option Nat} {a b : World} (h : WrO g a b) : a.heap.size ≤ b.heap.size := by
  cases g with
  | none => exact Below.size h
  | some g => exact Wr.size h
theorem WrO.trans {g : Option Nat} {a b c : World} (h : WrO g a b) (k : WrO g b c) : WrO g a c := by
  cases g with
  | none => exact Below.trans h (Below.mono k (Below.size h))
  | some g => exact Wr.trans h k
theorem WrO.box {g : Option Nat} {b : Nat} {w w' : World} {cs : Array Value} {t : TypeId} (h : WrO g w w') (hb : Box w b cs t) (hne : ∀ x, g = some x → x ≠ b) : Box w' b cs t := by
  cases g with
  | none => exact hb.below h hb.lt
  | some g => exact Wr.box h hb (hne g rfl).symm
theorem WrO.new {g : Option Nat} {w X : World} {p : Addr} (h : WrO g w X) (hp : w.heap.size ≤ p.block) (u : Value) : WrO g w (X.setCell p u) := by
  cases g with
  | none => exact Below.setCell h hp u
  | some g => exact Wr.setNewI h hp u
theorem Wr.setRowI {g G : Nat} {w X : World} (h : Wr g w X) (hp : w.heap.size ≤ G) (cs : Array Value) : Wr g w (X.setRow G cs) :=
  ⟨h.os, h.tape, h.output, Nat.le_trans h.size (by simp [World.setRow]), fun k hk hg => (setRow_other X G k cs (by omega)).trans (h.block k hk hg)⟩
theorem WrO.row {g : Option Nat} {w X : World} {G : Nat} (h : WrO g w X) (hp : w.heap.size ≤ G) (cs : Array Value) : WrO g w (X.setRow G cs) := by
  cases g with
  | none => exact below_setRow h hp cs
  | some g => exact Wr.setRowI h hp cs
theorem RdO.lo {B : Nat} {b : List Int} {g : Option Nat} {W : World} {s : Nat × Int} (h : RdO B b g W s) : ∀ x, g = some x → x < W.heap.size := by
  rintro x rfl
  exact (RdAt.lt h).1
theorem RdO.below {B : Nat} {b : List Int} {g : Option Nat} {w w' : World} {s : Nat × Int} (h : RdO B b g w s) (hb : Below w.heap.size w w') : RdO B b g w' s := by
  cases g with
  | none => exact h
  | some g => exact RdAt.below h hb
theorem RdO.set {B : Nat} {b : List Int} {g : Option Nat} {w : World} {s : Nat × Int} (h : RdO B b g w s) {k : Nat} (hk : ∀ x, g = some x → x < k) (i : Nat) (u : Value) : RdO B b g (w.setCell ⟨k, i, none⟩ u) s := by
  cases g with
  | none => exact h
  | some g => exact RdAt.wr h (Wr.set k i w u) (.inr (hk g rfl))
theorem RdO.row {B : Nat} {b : List Int} {g : Option Nat} {w : World} {s : Nat × Int} (h : RdO B b g w s) {k : Nat} (hk : ∀ x, g = some x → x < k) (cs : Array Value) : RdO B b g (w.setRow k cs) s := by
  cases g with
  | none => exact h
  | some g => exact RdAt.wr h (g' := k) ⟨rfl, rfl, rfl, by simp [World.setRow], fun j _ hj => setRow_other w k j cs hj⟩ (.inr (hk g rfl))
theorem rdO_N {B : Nat} {b : List Int} {g : Option Nat} {w : World} {s : Nat × Int} (most : Int) (hm : I64 most) (h : RdO B b g w s) :
    Calls Tryz.prog 33 #[pvO g, .int .i64 most] w fun e w' => e = .returned (.int .i64 ((rN b s.1 s.2 most).2 : Nat)) ∧ RdO B b g w' (rN b s.1 s.2 most).1 ∧ WrO g w w' := by
  cases g with
  | none =>
    have h : s = (0, 7) := h
    subst h
    rw [show rN b (0, (7 : Int)).1 (0, (7 : Int)).2 most = ((0, 7), 0) from rN_e (by simp)]
    exact (rd_N_nil most w).mono fun e w' h => ⟨h.1, rfl, h.2⟩
  | some g => exact rd_N most hm h
theorem rdO_Fail {B : Nat} {b : List Int} {g : Option Nat} {w : World} {s : Nat × Int} (h : RdO B b g w s) (x : Int) :
    Calls Tryz.prog 44 #[pvO g, .int .i64 x] w fun e w' => e = .returned (.tuple #[]) ∧ RdO B b g w' (s.1, failE s.2 x) ∧ WrO g w w' := by
  cases g with
  | none =>
    have h : s = (0, 7) := h
    subst h
    exact (rd_Fail_nil x w).mono fun e w' h => ⟨h.1, rfl, by rw [← h.2]; exact Below.refl _ _⟩
  | some g => exact rd_Fail h x
theorem rdO_Err {B : Nat} {b : List Int} {g : Option Nat} {w : World} {s : Nat × Int} (h : RdO B b g w s) :
    Calls Tryz.prog 23 #[pvO g] w fun e w' => e = .returned (.int .i64 s.2) ∧ w = w' := by
  cases g with
  | none =>
    have h : s = (0, 7) := h
    subst h
    exact rd_Err_nil w
  | some g => exact rd_Err h
theorem info_conf : (Tryz.prog.info? 62).map (·.size) = some 11 := by kernel_rfl
abbrev zC : Array Value := #[.int .i64 0, .int .i64 0, .int .i64 0, .int .i64 0, .int .i64 0, .int .i64 0, .int .i64 0, .int .i64 0, .int .i64 0, .int .i64 0, .int .i64 0]
set_option maxRecDepth 100000 in
set_option maxHeartbeats 4000000 in
theorem it_checkedC (c0 c1 c2 c3 c4 c5 c6 c7 c8 c9 c10 : Int) (R : Bool) (b : List Int) (B : Nat) (g : Option Nat) (s : Nat × Int) (w : World) (hR : RdO B b g w s)
    (KR : Hid (∀ W, Below w.heap.size w W → Calls Tryz.prog 61 #[.agg #[.int .i64 c0, .int .i64 c1, .int .i64 c2, .int .i64 c3, .int .i64 c4, .int .i64 c5, .int .i64 c6, .int .i64 c7, .int .i64 c8, .int .i64 c9, .int .i64 c10]] W fun e w' => e = .returned (.bool R) ∧ Below W.heap.size W w')) :
    Calls Tryz.prog 60 #[pvO g, .agg #[.int .i64 c0, .int .i64 c1, .int .i64 c2, .int .i64 c3, .int .i64 c4, .int .i64 c5, .int .i64 c6, .int .i64 c7, .int .i64 c8, .int .i64 c9, .int .i64 c10], .func (.func 61) #[] #[]] w fun r w' => r = .returned (if chkF R s.2 = 0 then .agg #[.int .i64 c0, .int .i64 c1, .int .i64 c2, .int .i64 c3, .int .i64 c4, .int .i64 c5, .int .i64 c6, .int .i64 c7, .int .i64 c8, .int .i64 c9, .int .i64 c10] else .agg zC) ∧ RdO B b g w' (s.1, chkF R s.2) ∧ WrO g w w' := by
  have hlo := hR.lo
  have hb1 := ((Below.refl w.heap.size w).alloc (Nat.le_refl _) (.cells #[.int .i64 c0, .int .i64 c1, .int .i64 c2, .int .i64 c3, .int .i64 c4, .int .i64 c5, .int .i64 c6, .int .i64 c7, .int .i64 c8, .int .i64 c9, .int .i64 c10] 62))
  have hb2 := hb1.alloc hb1.size (.cells zC 62)
  have HX0 := Lib.hid ((Box.new w #[.int .i64 c0, .int .i64 c1, .int .i64 c2, .int .i64 c3, .int .i64 c4, .int .i64 c5, .int .i64 c6, .int .i64 c7, .int .i64 c8, .int .i64 c9, .int .i64 c10] 62).alloc (.cells zC 62))
  have hx1 := Box.new (w.alloc (.cells #[.int .i64 c0, .int .i64 c1, .int .i64 c2, .int .i64 c3, .int .i64 c4, .int .i64 c5, .int .i64 c6, .int .i64 c7, .int .i64 c8, .int .i64 c9, .int .i64 c10] 62)) zC 62
  rw [alloc_size'] at hx1
  have HX1 := Lib.hid hx1
  have HR := Lib.hid (hR.below hb2)
  have HB := Lib.hid hb2
  have KR2 := Lib.hid (KR.out _ hb2)
  have HRF := Lib.hid (fun W (h : RdO B b g W s) => rdO_Fail h 211)
  have HRE := Lib.hid (fun W s2 (h : RdO B b g W s2) => rdO_Err h)
  have HL1 : Hid (∀ x, g = some x → x < w.heap.size + 1) := fun x h => by have := hlo x h; omega
  have HLN : Hid (∀ x, g = some x → x ≠ w.heap.size + 1) := fun x h => by have := hlo x h; omega
  clear hR hb1 hb2 hx1 KR hlo
  obtain ⟨k, e⟩ := s
  simp only at HRF ⊢
  generalize pvO g = pv at *
  cases R
  · have hf : chkF false e = failE e 211 := rfl
    have hne : ¬ failE e 211 = 0 := by unfold failE; split <;> simp_all
    rw [hf, if_neg hne]
    have hneb : (failE e 211 == 0) = false := by simpa using hne
    have hneb2 : (failE e 211 != 0) = true := by simpa using hne
    clear hf hne
    generalize failE e 211 = E at *
    go_enter Tryz.func60, Tryz.ntmps60
    go_wp2_with fail
    refine (KR2.out).mono ?_
    rintro r w1 ⟨rfl, b1⟩
    have HR1 := Lib.hid (HR.out.below b1)
    have HX1 := Lib.hid (HX1.out.below b1 HX1.out.lt)
    have HB := Lib.hid (HB.out.trans (b1.mono HB.out.size))
    clear b1 HX0
    go_wp2_with fail
    refine (HRF.out w1 HR1.out).mono ?_
    rintro r w2 ⟨rfl, h1, h2⟩
    have HR2 := Lib.hid h1
    have HX1 := Lib.hid (h2.box HX1.out HLN.out)
    have HW := Lib.hid ((WrO.of g HB.out).trans h2)
    clear h1 h2 HR1
    go_wp2_with fail
    refine (HRE.out w2 _ HR2.out).mono ?_
    rintro r w3 ⟨rfl, rfl⟩
    go_upto_region 4 with fail
    have hal := (Below.refl w2.heap.size w2).alloc (Nat.le_refl _) (.cells zC 62)
    have HX2 := Lib.hid (Box.new w2 zC 62)
    have HX1 := Lib.hid (HX1.out.below hal HX1.out.lt)
    have HR3 := Lib.hid (HR2.out.below hal)
    have HW := Lib.hid (HW.out.trans (WrO.of g hal))
    clear hal
    go_upto_region 5 with fail
    generalize w2.alloc (.cells zC 62) = wz at *
    generalize w2.heap.size = G2 at *
    obtain ⟨x0, x1, x2, x3, x4, x5, x6, x7, x8, x9, x10⟩ := box11 HX2.out
    have hs := run_storeVar_row (P := Tryz.prog) wz (w.heap.size + 1) 62 62 zC #[.int .i64 0, .int .i64 0, .int .i64 0, .int .i64 0, .int .i64 0, .int .i64 0, .int .i64 0, .int .i64 0, .int .i64 0, .int .i64 0, .int .i64 0] HX1.out (info_conf.trans rfl) rfl (by simp [Value.oneCell'])
    simp [go_sem] at hs
    have HZ := Lib.hid (setRow_heap wz (w.heap.size + 1) zC #[.int .i64 0, .int .i64 0, .int .i64 0, .int .i64 0, .int .i64 0, .int .i64 0, .int .i64 0, .int .i64 0, .int .i64 0, .int .i64 0, .int .i64 0] 62 (0, 0) HX1.out)
    have HW := Lib.hid (HW.out.row (by omega) (G := w.heap.size + 1) #[.int .i64 0, .int .i64 0, .int .i64 0, .int .i64 0, .int .i64 0, .int .i64 0, .int .i64 0, .int .i64 0, .int .i64 0, .int .i64 0, .int .i64 0])
    have HR := Lib.hid (HR3.out.row (k := w.heap.size + 1) HL1.out #[.int .i64 0, .int .i64 0, .int .i64 0, .int .i64 0, .int .i64 0, .int .i64 0, .int .i64 0, .int .i64 0, .int .i64 0, .int .i64 0, .int .i64 0])
    generalize wz.setRow (w.heap.size + 1) #[.int .i64 0, .int .i64 0, .int .i64 0, .int .i64 0, .int .i64 0, .int .i64 0, .int .i64 0, .int .i64 0, .int .i64 0, .int .i64 0, .int .i64 0] = wq at *
    go_wp2
    refine bodyPost_ret (v := .agg #[.int .i64 0, .int .i64 0, .int .i64 0, .int .i64 0, .int .i64 0, .int .i64 0, .int .i64 0, .int .i64 0, .int .i64 0, .int .i64 0, .int .i64 0]) ?_ rfl ⟨rfl, HR.out, HW.out⟩
    exact results_cell_row rfl _ _ (w.heap.size + 1) 62 _ (0, 0) _ rfl HZ.out Tryz.underlying62 rfl (info_conf.trans rfl)
  · have hf : chkF true e = e := rfl
    rw [hf]
    clear hf HRF
    by_cases he : e = 0
    · subst he
      rw [if_pos rfl]
      go_enter Tryz.func60, Tryz.ntmps60
      go_wp2_with fail
      refine (KR2.out).mono ?_
      rintro r w1 ⟨rfl, b1⟩
      have HR1 := Lib.hid (HR.out.below b1)
      have HX0 := Lib.hid (HX0.out.below b1 HX0.out.lt)
      have HX1 := Lib.hid (HX1.out.below b1 HX1.out.lt)
      have HW := Lib.hid (WrO.of g (HB.out.trans (b1.mono HB.out.size)))
      clear b1
      go_wp2_with fail
      refine (HRE.out w1 _ HR1.out).mono ?_
      rintro r w3 ⟨rfl, rfl⟩
      obtain ⟨z0, z1, z2, z3, z4, z5, z6, z7, z8, z9, z10⟩ := box11 HX0.out
      have hs := run_storeVar_row (P := Tryz.prog) w1 (w.heap.size + 1) 62 62 zC #[.int .i64 c0, .int .i64 c1, .int .i64 c2, .int .i64 c3, .int .i64 c4, .int .i64 c5, .int .i64 c6, .int .i64 c7, .int .i64 c8, .int .i64 c9, .int .i64 c10] HX1.out (info_conf.trans rfl) rfl (by simp [Value.oneCell'])
      simp [go_sem] at hs
      have HZ := Lib.hid (setRow_heap w1 (w.heap.size + 1) zC #[.int .i64 c0, .int .i64 c1, .int .i64 c2, .int .i64 c3, .int .i64 c4, .int .i64 c5, .int .i64 c6, .int .i64 c7, .int .i64 c8, .int .i64 c9, .int .i64 c10] 62 (0, 0) HX1.out)
      have HW := Lib.hid (HW.out.row (by omega) (G := w.heap.size + 1) #[.int .i64 c0, .int .i64 c1, .int .i64 c2, .int .i64 c3, .int .i64 c4, .int .i64 c5, .int .i64 c6, .int .i64 c7, .int .i64 c8, .int .i64 c9, .int .i64 c10])
      have HR := Lib.hid (HR1.out.row (k := w.heap.size + 1) HL1.out #[.int .i64 c0, .int .i64 c1, .int .i64 c2, .int .i64 c3, .int .i64 c4, .int .i64 c5, .int .i64 c6, .int .i64 c7, .int .i64 c8, .int .i64 c9, .int .i64 c10])
      generalize w1.setRow (w.heap.size + 1) #[.int .i64 c0, .int .i64 c1, .int .i64 c2, .int .i64 c3, .int .i64 c4, .int .i64 c5, .int .i64 c6, .int .i64 c7, .int .i64 c8, .int .i64 c9, .int .i64 c10] = wq at *
      go_wp2
      refine bodyPost_ret (v := .agg #[.int .i64 c0, .int .i64 c1, .int .i64 c2, .int .i64 c3, .int .i64 c4, .int .i64 c5, .int .i64 c6, .int .i64 c7, .int .i64 c8, .int .i64 c9, .int .i64 c10]) ?_ rfl ⟨rfl, HR.out, HW.out⟩
      exact results_cell_row rfl _ _ (w.heap.size + 1) 62 _ (0, 0) _ rfl HZ.out Tryz.underlying62 rfl (info_conf.trans rfl)
    · rw [if_neg he]
      have hneb : (e == 0) = false := by simpa using he
      have hneb2 : (e != 0) = true := by simpa using he
      clear he
      go_enter Tryz.func60, Tryz.ntmps60
      go_wp2_with fail
      refine (KR2.out).mono ?_
      rintro r w2 ⟨rfl, b1⟩
      have HR2 := Lib.hid (HR.out.below b1)
      have HX1 := Lib.hid (HX1.out.below b1 HX1.out.lt)
      have HW := Lib.hid (WrO.of g (HB.out.trans (b1.mono HB.out.size)))
      clear b1 HX0
      go_wp2_with fail
      refine (HRE.out w2 _ HR2.out).mono ?_
      rintro r w3 ⟨rfl, rfl⟩
      go_upto_region 4 with fail
      have hal := (Below.refl w2.heap.size w2).alloc (Nat.le_refl _) (.cells zC 62)
      have HX2 := Lib.hid (Box.new w2 zC 62)
      have HX1 := Lib.hid (HX1.out.below hal HX1.out.lt)
      have HR3 := Lib.hid (HR2.out.below hal)
      have HW := Lib.hid (HW.out.trans (WrO.of g hal))
      clear hal
      go_upto_region 5 with fail
      generalize w2.alloc (.cells zC 62) = wz at *
      generalize w2.heap.size = G2 at *
      obtain ⟨x0, x1, x2, x3, x4, x5, x6, x7, x8, x9, x10⟩ := box11 HX2.out
      have hs := run_storeVar_row (P := Tryz.prog) wz (w.heap.size + 1) 62 62 zC #[.int .i64 0, .int .i64 0, .int .i64 0, .int .i64 0, .int .i64 0, .int .i64 0, .int .i64 0, .int .i64 0, .int .i64 0, .int .i64 0, .int .i64 0] HX1.out (info_conf.trans rfl) rfl (by simp [Value.oneCell'])
      simp [go_sem] at hs
      have HZ := Lib.hid (setRow_heap wz (w.heap.size + 1) zC #[.int .i64 0, .int .i64 0, .int .i64 0, .int .i64 0, .int .i64 0, .int .i64 0, .int .i64 0, .int .i64 0, .int .i64 0, .int .i64 0, .int .i64 0] 62 (0, 0) HX1.out)
      have HW := Lib.hid (HW.out.row (by omega) (G := w.heap.size + 1) #[.int .i64 0, .int .i64 0, .int .i64 0, .int .i64 0, .int .i64 0, .int .i64 0, .int .i64 0, .int .i64 0, .int .i64 0, .int .i64 0, .int .i64 0])
      have HR := Lib.hid (HR3.out.row (k := w.heap.size + 1) HL1.out #[.int .i64 0, .int .i64 0, .int .i64 0, .int .i64 0, .int .i64 0, .int .i64 0, .int .i64 0, .int .i64 0, .int .i64 0, .int .i64 0, .int .i64 0])
      generalize wz.setRow (w.heap.size + 1) #[.int .i64 0, .int .i64 0, .int .i64 0, .int .i64 0, .int .i64 0, .int .i64 0, .int .i64 0, .int .i64 0, .int .i64 0, .int .i64 0, .int .i64 0] = wq at *
      go_wp2
      refine bodyPost_ret (v := .agg #[.int .i64 0, .int .i64 0, .int .i64 0, .int .i64 0, .int .i64 0, .int .i64 0, .int .i64 0, .int .i64 0, .int .i64 0, .int .i64 0, .int .i64 0]) ?_ rfl ⟨rfl, HR.out, HW.out⟩
      exact results_cell_row rfl _ _ (w.heap.size + 1) 62 _ (0, 0) _ rfl HZ.out Tryz.underlying62 rfl (info_conf.trans rfl)
theorem len35 {vs : List Value} (h : vs.length = 35) : ∃ y0 y1 y2 y3 y4 y5 y6 y7 y8 y9 y10 y11 y12 y13 y14 y15 y16 y17 y18 y19 y20 y21 y22 y23 y24 y25 y26 y27 y28 y29 y30 y31 y32 y33 y34, vs = [y0, y1, y2, y3, y4, y5, y6, y7, y8, y9, y10, y11, y12, y13, y14, y15, y16, y17, y18, y19, y20, y21, y22, y23, y24, y25, y26, y27, y28, y29, y30, y31, y32, y33, y34] := by
  match vs, h with
  | y0 :: y1 :: y2 :: y3 :: y4 :: y5 :: y6 :: y7 :: y8 :: y9 :: y10 :: y11 :: y12 :: y13 :: y14 :: y15 :: y16 :: y17 :: y18 :: y19 :: y20 :: y21 :: y22 :: y23 :: y24 :: y25 :: y26 :: y27 :: y28 :: y29 :: y30 :: y31 :: y32 :: y33 :: y34 :: [], _ => exact ⟨y0, y1, y2, y3, y4, y5, y6, y7, y8, y9, y10, y11, y12, y13, y14, y15, y16, y17, y18, y19, y20, y21, y22, y23, y24, y25, y26, y27, y28, y29, y30, y31, y32, y33, y34, rfl⟩
theorem box_drewQ {w : World} {g : Nat} {cs : Array Value} {t : TypeId} (h : Box w g cs t) : Box w.drew g cs t := h
def PlcJ (E : List (Option Value)) (B : Nat) (t : TypeId) (V : Array Value) (w : World) (f : Nat → Bool) (vs : List Value) (X : World) : Prop :=
  RegV E f vs ∧ Below B w X ∧ (∃ C, C.size = 11 ∧ Box X B C t) ∧ (f 34 = true → Box X B V t)
theorem PlcJ.step {E : List (Option Value)} {B : Nat} {t : TypeId} {V : Array Value} {w : World} {f : Nat → Bool} {vs : List Value} {X : World} (h : PlcJ E B t V w f vs X) {i : Nat} (hi : i < vs.length) (h34 : i ≠ 34) (v : Value) (hv : ∀ u, E[i]? = some (some u) → v = u) : PlcJ E B t V w (fun j => if j = i then true else f j) (vs.set i v) X :=
  ⟨h.1.set hi hv, h.2.1, h.2.2.1, fun hf => h.2.2.2 (by simpa [Ne.symm h34] using hf)⟩
theorem info_plc : (Tryz.prog.info? 100).map (·.size) = some 11 := by kernel_rfl
set_option maxRecDepth 100000 in
set_option maxHeartbeats 16000000 in
theorem it_places (g : Nat) (w : World) : Calls Tryz.prog 59 #[.pointer (some ⟨g, 0, none⟩)] w fun e w' => e = .returned (.agg #[.pointer (some ⟨g, 0, none⟩), .pointer (some ⟨g, 1, none⟩), .pointer (some ⟨g, 2, none⟩), .pointer (some ⟨g, 3, none⟩), .pointer (some ⟨g, 4, none⟩), .pointer (some ⟨g, 5, none⟩), .pointer (some ⟨g, 6, none⟩), .pointer (some ⟨g, 7, none⟩), .pointer (some ⟨g, 8, none⟩), .pointer (some ⟨g, 9, none⟩), .pointer (some ⟨g, 10, none⟩)]) ∧ Below w.heap.size w w' := by
  have HB := Lib.hid ((Below.refl w.heap.size w).alloc (Nat.le_refl _) (.cells #[.pointer none, .pointer none, .pointer none, .pointer none, .pointer none, .pointer none, .pointer none, .pointer none, .pointer none, .pointer none, .pointer none] 100))
  have HX := Lib.hid (Box.new w #[.pointer none, .pointer none, .pointer none, .pointer none, .pointer none, .pointer none, .pointer none, .pointer none, .pointer none, .pointer none, .pointer none] 100)
  go_enter Tryz.func59, Tryz.ntmps59
  go_upto_region 1 with (fail)
  generalize w.alloc (.cells #[.pointer none, .pointer none, .pointer none, .pointer none, .pointer none, .pointer none, .pointer none, .pointer none, .pointer none, .pointer none, .pointer none] 100) = wc at *
  refine wp_region_steps (PlcJ [some (.pointer (some ⟨g, 0, none⟩)), some (.pointer (some ⟨g, 0, none⟩)), some (.pointer (some ⟨g, 0, none⟩)), some (.pointer (some ⟨g, 0, none⟩)), some (.pointer (some ⟨g, 0, none⟩)), some (.pointer (some ⟨g, 1, none⟩)), some (.pointer (some ⟨g, 0, none⟩)), some (.pointer (some ⟨g, 0, none⟩)), some (.pointer (some ⟨g, 2, none⟩)), some (.pointer (some ⟨g, 0, none⟩)), some (.pointer (some ⟨g, 0, none⟩)), some (.pointer (some ⟨g, 3, none⟩)), some (.pointer (some ⟨g, 0, none⟩)), some (.pointer (some ⟨g, 0, none⟩)), some (.pointer (some ⟨g, 4, none⟩)), some (.pointer (some ⟨g, 0, none⟩)), some (.pointer (some ⟨g, 0, none⟩)), some (.pointer (some ⟨g, 5, none⟩)), some (.pointer (some ⟨g, 0, none⟩)), some (.pointer (some ⟨g, 0, none⟩)), some (.pointer (some ⟨g, 6, none⟩)), some (.pointer (some ⟨g, 0, none⟩)), some (.pointer (some ⟨g, 0, none⟩)), some (.pointer (some ⟨g, 7, none⟩)), some (.pointer (some ⟨g, 0, none⟩)), some (.pointer (some ⟨g, 0, none⟩)), some (.pointer (some ⟨g, 8, none⟩)), some (.pointer (some ⟨g, 0, none⟩)), some (.pointer (some ⟨g, 0, none⟩)), some (.pointer (some ⟨g, 9, none⟩)), some (.pointer (some ⟨g, 0, none⟩)), some (.pointer (some ⟨g, 0, none⟩)), some (.pointer (some ⟨g, 10, none⟩)), some (.agg #[.pointer (some ⟨g, 0, none⟩), .pointer (some ⟨g, 1, none⟩), .pointer (some ⟨g, 2, none⟩), .pointer (some ⟨g, 3, none⟩), .pointer (some ⟨g, 4, none⟩), .pointer (some ⟨g, 5, none⟩), .pointer (some ⟨g, 6, none⟩), .pointer (some ⟨g, 7, none⟩), .pointer (some ⟨g, 8, none⟩), .pointer (some ⟨g, 9, none⟩), .pointer (some ⟨g, 10, none⟩)]), none] w.heap.size 100 #[.pointer (some ⟨g, 0, none⟩), .pointer (some ⟨g, 1, none⟩), .pointer (some ⟨g, 2, none⟩), .pointer (some ⟨g, 3, none⟩), .pointer (some ⟨g, 4, none⟩), .pointer (some ⟨g, 5, none⟩), .pointer (some ⟨g, 6, none⟩), .pointer (some ⟨g, 7, none⟩), .pointer (some ⟨g, 8, none⟩), .pointer (some ⟨g, 9, none⟩), .pointer (some ⟨g, 10, none⟩)] w)
    [[], [0], [1], [], [3], [4], [], [6], [7], [], [9], [10], [], [12], [13], [], [15], [16], [], [18], [19], [], [21], [22], [], [24], [25], [], [27], [28], [], [30], [31], [2, 5, 8, 11, 14, 17, 20, 23, 26, 29, 32], [33, 0, 1, 2, 3, 4, 5, 6, 7, 8, 9, 10, 11, 12, 13, 14, 15, 16, 17, 18, 19, 20, 21, 22, 23, 24, 25, 26, 27, 28, 29, 30, 31, 32, 33]] (by kernel_rfl) (by kernel_rfl) (by kernel_rfl) (by kernel_rfl) ?_ ?_ ?_ ?_
  · rintro f g vs X hfg ⟨h1, h2, h3, h4⟩
    exact ⟨fun j u hj he => h1 j u ((hfg j (by have := (List.getElem?_eq_some_iff.1 he).1; simpa using this)).trans hj) he, h2, h3, fun hf => h4 ((hfg 34 (by decide)).trans hf)⟩
  · intro vs _
    exact ⟨fun j u h => (by cases h), HB.out.drew, ⟨_, rfl, box_drewQ HX.out⟩, fun h => (by cases h)⟩
  · refine ⟨?_, ?_, ?_, ?_, ?_, ?_, ?_, ?_, ?_, ?_, ?_, ?_, ?_, ?_, ?_, ?_, ?_, ?_, ?_, ?_, ?_, ?_, ?_, ?_, ?_, ?_, ?_, ?_, ?_, ?_, ?_, ?_, ?_, ?_, ?_, trivial⟩
    all_goals
      intro f vs X hlen hf hp hj K hK
      obtain ⟨y0, y1, y2, y3, y4, y5, y6, y7, y8, y9, y10, y11, y12, y13, y14, y15, y16, y17, y18, y19, y20, y21, y22, y23, y24, y25, y26, y27, y28, y29, y30, y31, y32, y33, y34, rfl⟩ := len35 hlen
      clear hlen
      have HJ := Lib.hid hj
      clear hj
    · rw [if_pos (by rfl)]
      simp only [putAll, Act.put, List.setIfInBounds_toArray, List.set_cons_zero, List.set_cons_succ] at hK ⊢
      go_simp
      refine hK _ X ?_
      exact HJ.out.step (i := 0) (by simp) (by omega) _ (fun u hu => by simpa using hu)
    · rw [if_pos (by rfl)]
      simp only [putAll, Act.put, List.setIfInBounds_toArray, List.set_cons_zero, List.set_cons_succ] at hK ⊢
      have e0 : y0 = .pointer (some ⟨g, 0, none⟩) := HJ.out.1 0 _ (hp 0 (by simp)) rfl
      subst e0
      go_simp
      refine hK _ X ?_
      exact HJ.out.step (i := 1) (by simp) (by omega) _ (fun u hu => by simpa using hu)
    · rw [if_pos (by rfl)]
      simp only [putAll, Act.put, List.setIfInBounds_toArray, List.set_cons_zero, List.set_cons_succ] at hK ⊢
      have e1 : y1 = .pointer (some ⟨g, 0, none⟩) := HJ.out.1 1 _ (hp 1 (by simp)) rfl
      subst e1
      go_simp
      refine hK _ X ?_
      exact HJ.out.step (i := 2) (by simp) (by omega) _ (fun u hu => by simpa using hu)
    · rw [if_pos (by rfl)]
      simp only [putAll, Act.put, List.setIfInBounds_toArray, List.set_cons_zero, List.set_cons_succ] at hK ⊢
      go_simp
      refine hK _ X ?_
      exact HJ.out.step (i := 3) (by simp) (by omega) _ (fun u hu => by simpa using hu)
    · rw [if_pos (by rfl)]
      simp only [putAll, Act.put, List.setIfInBounds_toArray, List.set_cons_zero, List.set_cons_succ] at hK ⊢
      have e3 : y3 = .pointer (some ⟨g, 0, none⟩) := HJ.out.1 3 _ (hp 3 (by simp)) rfl
      subst e3
      go_simp
      refine hK _ X ?_
      exact HJ.out.step (i := 4) (by simp) (by omega) _ (fun u hu => by simpa using hu)
    · rw [if_pos (by rfl)]
      simp only [putAll, Act.put, List.setIfInBounds_toArray, List.set_cons_zero, List.set_cons_succ] at hK ⊢
      have e4 : y4 = .pointer (some ⟨g, 0, none⟩) := HJ.out.1 4 _ (hp 4 (by simp)) rfl
      subst e4
      go_simp
      refine hK _ X ?_
      exact HJ.out.step (i := 5) (by simp) (by omega) _ (fun u hu => by simpa using hu)
    · rw [if_pos (by rfl)]
      simp only [putAll, Act.put, List.setIfInBounds_toArray, List.set_cons_zero, List.set_cons_succ] at hK ⊢
      go_simp
      refine hK _ X ?_
      exact HJ.out.step (i := 6) (by simp) (by omega) _ (fun u hu => by simpa using hu)
    · rw [if_pos (by rfl)]
      simp only [putAll, Act.put, List.setIfInBounds_toArray, List.set_cons_zero, List.set_cons_succ] at hK ⊢
      have e6 : y6 = .pointer (some ⟨g, 0, none⟩) := HJ.out.1 6 _ (hp 6 (by simp)) rfl
      subst e6
      go_simp
      refine hK _ X ?_
      exact HJ.out.step (i := 7) (by simp) (by omega) _ (fun u hu => by simpa using hu)
    · rw [if_pos (by rfl)]
      simp only [putAll, Act.put, List.setIfInBounds_toArray, List.set_cons_zero, List.set_cons_succ] at hK ⊢
      have e7 : y7 = .pointer (some ⟨g, 0, none⟩) := HJ.out.1 7 _ (hp 7 (by simp)) rfl
      subst e7
      go_simp
      refine hK _ X ?_
      exact HJ.out.step (i := 8) (by simp) (by omega) _ (fun u hu => by simpa using hu)
    · rw [if_pos (by rfl)]
      simp only [putAll, Act.put, List.setIfInBounds_toArray, List.set_cons_zero, List.set_cons_succ] at hK ⊢
      go_simp
      refine hK _ X ?_
      exact HJ.out.step (i := 9) (by simp) (by omega) _ (fun u hu => by simpa using hu)
    · rw [if_pos (by rfl)]
      simp only [putAll, Act.put, List.setIfInBounds_toArray, List.set_cons_zero, List.set_cons_succ] at hK ⊢
      have e9 : y9 = .pointer (some ⟨g, 0, none⟩) := HJ.out.1 9 _ (hp 9 (by simp)) rfl
      subst e9
      go_simp
      refine hK _ X ?_
      exact HJ.out.step (i := 10) (by simp) (by omega) _ (fun u hu => by simpa using hu)
    · rw [if_pos (by rfl)]
      simp only [putAll, Act.put, List.setIfInBounds_toArray, List.set_cons_zero, List.set_cons_succ] at hK ⊢
      have e10 : y10 = .pointer (some ⟨g, 0, none⟩) := HJ.out.1 10 _ (hp 10 (by simp)) rfl
      subst e10
      go_simp
      refine hK _ X ?_
      exact HJ.out.step (i := 11) (by simp) (by omega) _ (fun u hu => by simpa using hu)
    · rw [if_pos (by rfl)]
      simp only [putAll, Act.put, List.setIfInBounds_toArray, List.set_cons_zero, List.set_cons_succ] at hK ⊢
      go_simp
      refine hK _ X ?_
      exact HJ.out.step (i := 12) (by simp) (by omega) _ (fun u hu => by simpa using hu)
    · rw [if_pos (by rfl)]
      simp only [putAll, Act.put, List.setIfInBounds_toArray, List.set_cons_zero, List.set_cons_succ] at hK ⊢
      have e12 : y12 = .pointer (some ⟨g, 0, none⟩) := HJ.out.1 12 _ (hp 12 (by simp)) rfl
      subst e12
      go_simp
      refine hK _ X ?_
      exact HJ.out.step (i := 13) (by simp) (by omega) _ (fun u hu => by simpa using hu)
    · rw [if_pos (by rfl)]
      simp only [putAll, Act.put, List.setIfInBounds_toArray, List.set_cons_zero, List.set_cons_succ] at hK ⊢
      have e13 : y13 = .pointer (some ⟨g, 0, none⟩) := HJ.out.1 13 _ (hp 13 (by simp)) rfl
      subst e13
      go_simp
      refine hK _ X ?_
      exact HJ.out.step (i := 14) (by simp) (by omega) _ (fun u hu => by simpa using hu)
    · rw [if_pos (by rfl)]
      simp only [putAll, Act.put, List.setIfInBounds_toArray, List.set_cons_zero, List.set_cons_succ] at hK ⊢
      go_simp
      refine hK _ X ?_
      exact HJ.out.step (i := 15) (by simp) (by omega) _ (fun u hu => by simpa using hu)
    · rw [if_pos (by rfl)]
      simp only [putAll, Act.put, List.setIfInBounds_toArray, List.set_cons_zero, List.set_cons_succ] at hK ⊢
      have e15 : y15 = .pointer (some ⟨g, 0, none⟩) := HJ.out.1 15 _ (hp 15 (by simp)) rfl
      subst e15
      go_simp
      refine hK _ X ?_
      exact HJ.out.step (i := 16) (by simp) (by omega) _ (fun u hu => by simpa using hu)
    · rw [if_pos (by rfl)]
      simp only [putAll, Act.put, List.setIfInBounds_toArray, List.set_cons_zero, List.set_cons_succ] at hK ⊢
      have e16 : y16 = .pointer (some ⟨g, 0, none⟩) := HJ.out.1 16 _ (hp 16 (by simp)) rfl
      subst e16
      go_simp
      refine hK _ X ?_
      exact HJ.out.step (i := 17) (by simp) (by omega) _ (fun u hu => by simpa using hu)
    · rw [if_pos (by rfl)]
      simp only [putAll, Act.put, List.setIfInBounds_toArray, List.set_cons_zero, List.set_cons_succ] at hK ⊢
      go_simp
      refine hK _ X ?_
      exact HJ.out.step (i := 18) (by simp) (by omega) _ (fun u hu => by simpa using hu)
    · rw [if_pos (by rfl)]
      simp only [putAll, Act.put, List.setIfInBounds_toArray, List.set_cons_zero, List.set_cons_succ] at hK ⊢
      have e18 : y18 = .pointer (some ⟨g, 0, none⟩) := HJ.out.1 18 _ (hp 18 (by simp)) rfl
      subst e18
      go_simp
      refine hK _ X ?_
      exact HJ.out.step (i := 19) (by simp) (by omega) _ (fun u hu => by simpa using hu)
    · rw [if_pos (by rfl)]
      simp only [putAll, Act.put, List.setIfInBounds_toArray, List.set_cons_zero, List.set_cons_succ] at hK ⊢
      have e19 : y19 = .pointer (some ⟨g, 0, none⟩) := HJ.out.1 19 _ (hp 19 (by simp)) rfl
      subst e19
      go_simp
      refine hK _ X ?_
      exact HJ.out.step (i := 20) (by simp) (by omega) _ (fun u hu => by simpa using hu)
    · rw [if_pos (by rfl)]
      simp only [putAll, Act.put, List.setIfInBounds_toArray, List.set_cons_zero, List.set_cons_succ] at hK ⊢
      go_simp
      refine hK _ X ?_
      exact HJ.out.step (i := 21) (by simp) (by omega) _ (fun u hu => by simpa using hu)
    · rw [if_pos (by rfl)]
      simp only [putAll, Act.put, List.setIfInBounds_toArray, List.set_cons_zero, List.set_cons_succ] at hK ⊢
      have e21 : y21 = .pointer (some ⟨g, 0, none⟩) := HJ.out.1 21 _ (hp 21 (by simp)) rfl
      subst e21
      go_simp
      refine hK _ X ?_
      exact HJ.out.step (i := 22) (by simp) (by omega) _ (fun u hu => by simpa using hu)
    · rw [if_pos (by rfl)]
      simp only [putAll, Act.put, List.setIfInBounds_toArray, List.set_cons_zero, List.set_cons_succ] at hK ⊢
      have e22 : y22 = .pointer (some ⟨g, 0, none⟩) := HJ.out.1 22 _ (hp 22 (by simp)) rfl
      subst e22
      go_simp
      refine hK _ X ?_
      exact HJ.out.step (i := 23) (by simp) (by omega) _ (fun u hu => by simpa using hu)
    · rw [if_pos (by rfl)]
      simp only [putAll, Act.put, List.setIfInBounds_toArray, List.set_cons_zero, List.set_cons_succ] at hK ⊢
      go_simp
      refine hK _ X ?_
      exact HJ.out.step (i := 24) (by simp) (by omega) _ (fun u hu => by simpa using hu)
    · rw [if_pos (by rfl)]
      simp only [putAll, Act.put, List.setIfInBounds_toArray, List.set_cons_zero, List.set_cons_succ] at hK ⊢
      have e24 : y24 = .pointer (some ⟨g, 0, none⟩) := HJ.out.1 24 _ (hp 24 (by simp)) rfl
      subst e24
      go_simp
      refine hK _ X ?_
      exact HJ.out.step (i := 25) (by simp) (by omega) _ (fun u hu => by simpa using hu)
    · rw [if_pos (by rfl)]
      simp only [putAll, Act.put, List.setIfInBounds_toArray, List.set_cons_zero, List.set_cons_succ] at hK ⊢
      have e25 : y25 = .pointer (some ⟨g, 0, none⟩) := HJ.out.1 25 _ (hp 25 (by simp)) rfl
      subst e25
      go_simp
      refine hK _ X ?_
      exact HJ.out.step (i := 26) (by simp) (by omega) _ (fun u hu => by simpa using hu)
    · rw [if_pos (by rfl)]
      simp only [putAll, Act.put, List.setIfInBounds_toArray, List.set_cons_zero, List.set_cons_succ] at hK ⊢
      go_simp
      refine hK _ X ?_
      exact HJ.out.step (i := 27) (by simp) (by omega) _ (fun u hu => by simpa using hu)
    · rw [if_pos (by rfl)]
      simp only [putAll, Act.put, List.setIfInBounds_toArray, List.set_cons_zero, List.set_cons_succ] at hK ⊢
      have e27 : y27 = .pointer (some ⟨g, 0, none⟩) := HJ.out.1 27 _ (hp 27 (by simp)) rfl
      subst e27
      go_simp
      refine hK _ X ?_
      exact HJ.out.step (i := 28) (by simp) (by omega) _ (fun u hu => by simpa using hu)
    · rw [if_pos (by rfl)]
      simp only [putAll, Act.put, List.setIfInBounds_toArray, List.set_cons_zero, List.set_cons_succ] at hK ⊢
      have e28 : y28 = .pointer (some ⟨g, 0, none⟩) := HJ.out.1 28 _ (hp 28 (by simp)) rfl
      subst e28
      go_simp
      refine hK _ X ?_
      exact HJ.out.step (i := 29) (by simp) (by omega) _ (fun u hu => by simpa using hu)
    · rw [if_pos (by rfl)]
      simp only [putAll, Act.put, List.setIfInBounds_toArray, List.set_cons_zero, List.set_cons_succ] at hK ⊢
      go_simp
      refine hK _ X ?_
      exact HJ.out.step (i := 30) (by simp) (by omega) _ (fun u hu => by simpa using hu)
    · rw [if_pos (by rfl)]
      simp only [putAll, Act.put, List.setIfInBounds_toArray, List.set_cons_zero, List.set_cons_succ] at hK ⊢
      have e30 : y30 = .pointer (some ⟨g, 0, none⟩) := HJ.out.1 30 _ (hp 30 (by simp)) rfl
      subst e30
      go_simp
      refine hK _ X ?_
      exact HJ.out.step (i := 31) (by simp) (by omega) _ (fun u hu => by simpa using hu)
    · rw [if_pos (by rfl)]
      simp only [putAll, Act.put, List.setIfInBounds_toArray, List.set_cons_zero, List.set_cons_succ] at hK ⊢
      have e31 : y31 = .pointer (some ⟨g, 0, none⟩) := HJ.out.1 31 _ (hp 31 (by simp)) rfl
      subst e31
      go_simp
      refine hK _ X ?_
      exact HJ.out.step (i := 32) (by simp) (by omega) _ (fun u hu => by simpa using hu)
    · rw [if_pos (by rfl)]
      simp only [putAll, Act.put, List.setIfInBounds_toArray, List.set_cons_zero, List.set_cons_succ] at hK ⊢
      have e2 : y2 = .pointer (some ⟨g, 0, none⟩) := HJ.out.1 2 _ (hp 2 (by simp)) rfl
      subst e2
      have e5 : y5 = .pointer (some ⟨g, 1, none⟩) := HJ.out.1 5 _ (hp 5 (by simp)) rfl
      subst e5
      have e8 : y8 = .pointer (some ⟨g, 2, none⟩) := HJ.out.1 8 _ (hp 8 (by simp)) rfl
      subst e8
      have e11 : y11 = .pointer (some ⟨g, 3, none⟩) := HJ.out.1 11 _ (hp 11 (by simp)) rfl
      subst e11
      have e14 : y14 = .pointer (some ⟨g, 4, none⟩) := HJ.out.1 14 _ (hp 14 (by simp)) rfl
      subst e14
      have e17 : y17 = .pointer (some ⟨g, 5, none⟩) := HJ.out.1 17 _ (hp 17 (by simp)) rfl
      subst e17
      have e20 : y20 = .pointer (some ⟨g, 6, none⟩) := HJ.out.1 20 _ (hp 20 (by simp)) rfl
      subst e20
      have e23 : y23 = .pointer (some ⟨g, 7, none⟩) := HJ.out.1 23 _ (hp 23 (by simp)) rfl
      subst e23
      have e26 : y26 = .pointer (some ⟨g, 8, none⟩) := HJ.out.1 26 _ (hp 26 (by simp)) rfl
      subst e26
      have e29 : y29 = .pointer (some ⟨g, 9, none⟩) := HJ.out.1 29 _ (hp 29 (by simp)) rfl
      subst e29
      have e32 : y32 = .pointer (some ⟨g, 10, none⟩) := HJ.out.1 32 _ (hp 32 (by simp)) rfl
      subst e32
      go_simp
      refine hK _ X ?_
      exact HJ.out.step (i := 33) (by simp) (by omega) _ (fun u hu => by simpa using hu)
    · rw [if_pos (by rfl)]
      simp only [putAll, Act.put, List.setIfInBounds_toArray, List.set_cons_zero, List.set_cons_succ] at hK ⊢
      have e33 : y33 = .agg #[.pointer (some ⟨g, 0, none⟩), .pointer (some ⟨g, 1, none⟩), .pointer (some ⟨g, 2, none⟩), .pointer (some ⟨g, 3, none⟩), .pointer (some ⟨g, 4, none⟩), .pointer (some ⟨g, 5, none⟩), .pointer (some ⟨g, 6, none⟩), .pointer (some ⟨g, 7, none⟩), .pointer (some ⟨g, 8, none⟩), .pointer (some ⟨g, 9, none⟩), .pointer (some ⟨g, 10, none⟩)] := HJ.out.1 33 _ (hp 33 (by simp)) rfl
      subst e33
      obtain ⟨C, hC, hbx⟩ := HJ.out.2.2.1
      have hs := run_storeVar_row (P := Tryz.prog) X w.heap.size 100 100 C #[.pointer (some ⟨g, 0, none⟩), .pointer (some ⟨g, 1, none⟩), .pointer (some ⟨g, 2, none⟩), .pointer (some ⟨g, 3, none⟩), .pointer (some ⟨g, 4, none⟩), .pointer (some ⟨g, 5, none⟩), .pointer (some ⟨g, 6, none⟩), .pointer (some ⟨g, 7, none⟩), .pointer (some ⟨g, 8, none⟩), .pointer (some ⟨g, 9, none⟩), .pointer (some ⟨g, 10, none⟩)] hbx (info_plc.trans rfl) (hC.trans rfl) (by simp [Value.oneCell'])
      simp [go_sem] at hs
      go_simp
      refine hK undef _ ?_
      have hz := setRow_heap X w.heap.size C #[.pointer (some ⟨g, 0, none⟩), .pointer (some ⟨g, 1, none⟩), .pointer (some ⟨g, 2, none⟩), .pointer (some ⟨g, 3, none⟩), .pointer (some ⟨g, 4, none⟩), .pointer (some ⟨g, 5, none⟩), .pointer (some ⟨g, 6, none⟩), .pointer (some ⟨g, 7, none⟩), .pointer (some ⟨g, 8, none⟩), .pointer (some ⟨g, 9, none⟩), .pointer (some ⟨g, 10, none⟩)] 100 (0, 0) hbx
      exact ⟨HJ.out.1.set (by simp) (fun u hu => by simp at hu), below_setRow HJ.out.2.1 (Nat.le_refl _) _, ⟨_, rfl, hz⟩, fun _ => hz⟩
  · intro vs X hlen hj
    have HZ := Lib.hid (hj.2.2.2 rfl)
    have HB2 := Lib.hid hj.2.1
    clear hj
    obtain ⟨y0, y1, y2, y3, y4, y5, y6, y7, y8, y9, y10, y11, y12, y13, y14, y15, y16, y17, y18, y19, y20, y21, y22, y23, y24, y25, y26, y27, y28, y29, y30, y31, y32, y33, y34, rfl⟩ := len35 hlen
    clear hlen
    simp only [putAll, Act.put, List.setIfInBounds_toArray, List.set_cons_zero, List.set_cons_succ]
    go_wp2
    refine bodyPost_ret (v := .agg #[.pointer (some ⟨g, 0, none⟩), .pointer (some ⟨g, 1, none⟩), .pointer (some ⟨g, 2, none⟩), .pointer (some ⟨g, 3, none⟩), .pointer (some ⟨g, 4, none⟩), .pointer (some ⟨g, 5, none⟩), .pointer (some ⟨g, 6, none⟩), .pointer (some ⟨g, 7, none⟩), .pointer (some ⟨g, 8, none⟩), .pointer (some ⟨g, 9, none⟩), .pointer (some ⟨g, 10, none⟩)]) ?_ rfl ⟨rfl, HB2.out⟩
    exact results_cell_row rfl _ _ w.heap.size 100 _ (0, 0) _ rfl HZ.out Tryz.underlying100 rfl (info_plc.trans rfl)
end Go.Proofs.YtpoemflclbhekaaGreat

/-! Layer 22 (item): ways to work read, in the code: GetConf, of a reader or of none. -/
namespace Go.Proofs.YtpoemflclbhekaaGreat
open Go.RowKit
set_option linter.unusedVariables false
set_option linter.unusedSimpArgs false

/-- the first numbers of a way to work that are read -/
def rdC (b : List Int) : Nat → Nat × Int → (Nat × Int) × List Int
  | 0, s => (s, [])
  | n + 1, s => ((rN b (rdC b n s).1.1 (rdC b n s).1.2 1099511627776).1, (rdC b n s).2 ++ [((rN b (rdC b n s).1.1 (rdC b n s).1.2 1099511627776).2 : Int)])
theorem rdC_len (b : List Int) (s : Nat × Int) : ∀ n, (rdC b n s).2.length = n
  | 0 => rfl
  | n + 1 => by show ((rdC b n s).2 ++ [_]).length = n + 1; rw [List.length_append, rdC_len b s n]; rfl
theorem rdC_i64 (b : List Int) (s : Nat × Int) : ∀ n, ∀ x ∈ (rdC b n s).2, I64 x
  | 0 => fun x h => by cases h
  | n + 1 => fun x h => by
    have h : x ∈ (rdC b n s).2 ++ [((rN b (rdC b n s).1.1 (rdC b n s).1.2 1099511627776).2 : Int)] := h
    rcases List.mem_append.1 h with h | h
    · exact rdC_i64 b s n x h
    · rw [List.mem_singleton.1 h]
      exact rN_i64 (by unfold I64; omega)
def okCf (l : List Int) : Bool := decide (CfOk (l.getD 0 0) (l.getD 1 0) (l.getD 2 0) (l.getD 3 0) (l.getD 4 0) (l.getD 5 0) (l.getD 6 0) (l.getD 7 0) (l.getD 8 0) (l.getD 9 0) (l.getD 10 0))
/-- what is read of a way to work -/
def gC (b : List Int) (s : Nat × Int) : (Nat × Int) × List Int :=
  (((rdC b 11 s).1.1, chkF (okCf (rdC b 11 s).2) (rdC b 11 s).1.2), if chkF (okCf (rdC b 11 s).2) (rdC b 11 s).1.2 = 0 then (rdC b 11 s).2 else List.replicate 11 0)
def cV (l : List Int) : Value := .agg (litI l).toArray
theorem conf_set (l : List Int) (k : Nat) (hk : k < 11) (hl : l.length = k) (v : Int) : (litI (l ++ List.replicate (11 - k) 0)).toArray.setIfInBounds k (.int .i64 v) = (litI ((l ++ [v]) ++ List.replicate (11 - (k + 1)) 0)).toArray := by
  subst hl
  rw [List.setIfInBounds_toArray]
  congr 1
  unfold litI
  rw [← List.map_set, show 11 - l.length = (11 - (l.length + 1)) + 1 from by omega, List.replicate_succ, List.set_append_right _ _ (Nat.le_refl _), Nat.sub_self]
  simp
theorem conf_get (l : List Int) (k : Nat) (hk : k < 11) (hl : l.length = k) : (litI (l ++ List.replicate (11 - k) 0)).toArray[k]? = some (.int .i64 0) := by
  subst hl
  simp [litI]
  rw [List.getElem?_append_right (by simp)]
  rw [List.length_map, Nat.sub_self, List.getElem?_replicate, if_pos (by omega)]
theorem eleven_of {α : Type} {l : List α} (h : l.length = 11) : ∃ c0 c1 c2 c3 c4 c5 c6 c7 c8 c9 c10, l = [c0, c1, c2, c3, c4, c5, c6, c7, c8, c9, c10] := by
  match l, h with
  | [c0, c1, c2, c3, c4, c5, c6, c7, c8, c9, c10], _ => exact ⟨c0, c1, c2, c3, c4, c5, c6, c7, c8, c9, c10, rfl⟩
set_option maxRecDepth 100000 in
theorem plc_index (g k : Nat) (hk : k < 11) (W : World) : (Instr.index 100 (.agg #[.pointer (some ⟨g, 0, none⟩), .pointer (some ⟨g, 1, none⟩), .pointer (some ⟨g, 2, none⟩), .pointer (some ⟨g, 3, none⟩), .pointer (some ⟨g, 4, none⟩), .pointer (some ⟨g, 5, none⟩), .pointer (some ⟨g, 6, none⟩), .pointer (some ⟨g, 7, none⟩), .pointer (some ⟨g, 8, none⟩), .pointer (some ⟨g, 9, none⟩), .pointer (some ⟨g, 10, none⟩)]) (.int .i64 k)).run Tryz.prog W = .ok (.pointer (some ⟨g, k, none⟩)) W := by
  have : k = 0 ∨ k = 1 ∨ k = 2 ∨ k = 3 ∨ k = 4 ∨ k = 5 ∨ k = 6 ∨ k = 7 ∨ k = 8 ∨ k = 9 ∨ k = 10 := by omega
  rcases this with rfl | rfl | rfl | rfl | rfl | rfl | rfl | rfl | rfl | rfl | rfl <;> rfl
set_option maxRecDepth 100000 in
set_option maxHeartbeats 8000000 in
theorem it_GetConf (b : List Int) (B : Nat) (g : Option Nat) (s : Nat × Int) (w : World) (hR : RdO B b g w s) : Calls Tryz.prog 27 #[pvO g] w fun r w' => r = .returned (cV (gC b s).2) ∧ RdO B b g w' (gC b s).1 ∧ WrO g w w' := by
  have i2 : I64 1099511627776 := by unfold I64; omega
  have hlo := hR.lo
  have hb1 := ((Below.refl w.heap.size w).alloc (Nat.le_refl _) (.cells zC 62))
  have hb2 := hb1.alloc hb1.size (.cells zC 62)
  have HX0 := Lib.hid ((Box.new w zC 62).alloc (.cells zC 62))
  have hx1 := Box.new (w.alloc (.cells zC 62)) zC 62
  rw [alloc_size'] at hx1
  have HX1 := Lib.hid hx1
  have HR := Lib.hid (hR.below hb2)
  have HW := Lib.hid (WrO.of g hb2)
  have KP := Lib.hid (fun W => it_places (w.heap.size + 1) W)
  have KN := Lib.hid (fun W s (h : RdO B b g W s) => rdO_N 1099511627776 i2 h)
  have HIX := Lib.hid (fun k hk W => plc_index (w.heap.size + 1) k hk W)
  have HL0 : Hid (∀ x, g = some x → x < w.heap.size) := fun x h => hlo x h
  have HL1 : Hid (∀ x, g = some x → x < w.heap.size + 1) := fun x h => by have := hlo x h; omega
  have HN0 : Hid (∀ x, g = some x → x ≠ w.heap.size) := fun x h => by have := hlo x h; omega
  have HN1 : Hid (∀ x, g = some x → x ≠ w.heap.size + 1) := fun x h => by have := hlo x h; omega
  have KC : Hid (∀ (l : List Int) (hl : l.length = 11) (hi : ∀ x ∈ l, I64 x) (s : Nat × Int) (W : World), RdO B b g W s → Calls Tryz.prog 60 #[pvO g, cV l, .func (.func 61) #[] #[]] W fun r w' => r = .returned (cV (if chkF (okCf l) s.2 = 0 then l else List.replicate 11 0)) ∧ RdO B b g w' (s.1, chkF (okCf l) s.2) ∧ WrO g W w') := by
    intro l hl hi s W h
    obtain ⟨c0, c1, c2, c3, c4, c5, c6, c7, c8, c9, c10, rfl⟩ := eleven_of hl
    refine (it_checkedC c0 c1 c2 c3 c4 c5 c6 c7 c8 c9 c10 (okCf [c0, c1, c2, c3, c4, c5, c6, c7, c8, c9, c10]) b B g s W h (fun W' _ => sch_Right c0 c1 c2 c3 c4 c5 c6 c7 c8 c9 c10 (hi c7 (by simp)) W')).mono ?_
    rintro r w' ⟨rfl, h1, h2⟩
    refine ⟨?_, h1, h2⟩
    by_cases hc : chkF (okCf [c0, c1, c2, c3, c4, c5, c6, c7, c8, c9, c10]) s.2 = 0
    · rw [if_pos hc, if_pos hc]; rfl
    · rw [if_neg hc, if_neg hc]; rfl
  have HLEN := Lib.hid (rdC_len b s)
  have HI64 := Lib.hid (rdC_i64 b s)
  have HST : Hid (∀ n, rdC b (n + 1) s = ((rN b (rdC b n s).1.1 (rdC b n s).1.2 1099511627776).1, (rdC b n s).2 ++ [((rN b (rdC b n s).1.1 (rdC b n s).1.2 1099511627776).2 : Int)])) := fun n => rfl
  have HG : Hid (gC b s = (((rdC b 11 s).1.1, chkF (okCf (rdC b 11 s).2) (rdC b 11 s).1.2), if chkF (okCf (rdC b 11 s).2) (rdC b 11 s).1.2 = 0 then (rdC b 11 s).2 else List.replicate 11 0)) := rfl
  have HR0 : Hid (RdO B b g ((w.alloc (.cells zC 62)).alloc (.cells zC 62)) (rdC b 0 s).1) := HR.out
  have HL00 : Hid ((rdC b 0 s).2 = []) := rfl
  generalize gC b s = out at *
  generalize rdC b = rc at *
  clear hR hb1 hb2 hx1 hlo HR i2
  generalize pvO g = pv at *
  go_enter Tryz.func27, Tryz.ntmps27
  go_wp2_with fail
  refine (KP.out _).mono ?_
  rintro e w1 ⟨rfl, h1⟩
  have hx0 := HX0.out.below h1 HX0.out.lt
  have hx1 := HX1.out.below h1 HX1.out.lt
  have hr := HR0.out.below h1
  have hw := HW.out.trans (WrO.of g h1)
  clear h1 HX0 HX1 HR0 HW KP
  go_wp2
  go_loopw [7] (fun i wr => ∃ k : Nat, k ≤ 11 ∧ i = .int .i64 k ∧ Box wr w.heap.size zC 62 ∧ Box wr (w.heap.size + 1) (litI ((rc k s).2 ++ List.replicate (11 - k) 0)).toArray 62 ∧ RdO B b g wr (rc k s).1 ∧ WrO g w wr) (fun i _ => 11 - (intOf i).toNat)
  case atStart => exact ⟨0, by omega, rfl, hx0, by rw [HL00.out]; exact hx1, hr, hw⟩
  case round =>
    obtain ⟨k, hk, rfl, hx0, hx1, hr, hw⟩ := hrel
    have HX0 := Lib.hid hx0
    have HX1 := Lib.hid hx1
    have HW := Lib.hid hw
    have HR := Lib.hid hr
    clear hx0 hx1 hr hw
    by_cases hlt : k < 11
    · have hI := HIX.out k hlt
      have hki : (k : Int) < 11 := by omega
      have K := Lib.hid (KN.out wr _ HR.out)
      have HS := HST.out k
      have hlen := HLEN.out k
      generalize rc k s = rk at *
      obtain ⟨⟨k1, e1⟩, l⟩ := rk
      generalize hrn : rN b ((k1, e1), l).1.1 ((k1, e1), l).1.2 1099511627776 = rn at *
      obtain ⟨⟨k2, e2⟩, v⟩ := rn
      simp only at HS HX1 K hlen
      have HS := Lib.hid HS
      clear hrn HIX KC HG
      go_wp2_with fail
      refine (K.out).mono ?_
      rintro e w2 ⟨rfl, h1, h2⟩
      have hx1 := h2.box HX1.out HN1.out
      have xk := (hx1.cell k).trans (conf_get l k hlt hlen)
      have yk := hx1.free k
      have hx0 := h2.box HX0.out HN0.out
      have HXA := Lib.hid (hx0.off (p := ⟨w.heap.size + 1, k, none⟩) (by show w.heap.size + 1 ≠ w.heap.size; omega) (.int .i64 (v : Nat)))
      have hxb := hx1.set k (.int .i64 (v : Nat))
      rw [conf_set l k hlt hlen] at hxb
      have HXB := Lib.hid hxb
      have HRB := Lib.hid (h1.set HL1.out k (.int .i64 (v : Nat)))
      have HWB := Lib.hid ((HW.out.trans h2).new (p := ⟨w.heap.size + 1, k, none⟩) (by show w.heap.size ≤ w.heap.size + 1; omega) (.int .i64 (v : Nat)))
      clear h1 h2 hx1 hx0 hxb HX0 HX1 HW HR K
      go_wp2
      refine ⟨⟨k + 1, by omega, by go_num, HXA.out, ?_, ?_, HWB.out⟩, by simp [intOf]; omega⟩
      · rw [HS.out]; exact HXB.out
      · rw [HS.out]; exact HRB.out
    · obtain rfl : k = 11 := by omega
      clear HIX KN HST
      have hl := HLEN.out 11
      have hI := HI64.out 11
      have K := Lib.hid (KC.out (rc 11 s).2 hl hI (rc 11 s).1 wr HR.out)
      have HX1 : Hid (Box wr (w.heap.size + 1) (litI (rc 11 s).2).toArray 62) := by show Box _ _ _ _; have := HX1.out; simpa using this
      have HG := HG.out
      have HSZ := HW.out.size
      clear KC HLEN HI64 HR hI
      generalize rc 11 s = r11 at *
      obtain ⟨⟨k1, e1⟩, l⟩ := r11
      simp only at K HX1 HG hl
      have HL2 : Hid ((if chkF (okCf l) e1 = 0 then l else List.replicate 11 0).length = 11) := by show _ = _; split <;> simp [hl]
      obtain ⟨c0, c1, c2, c3, c4, c5, c6, c7, c8, c9, c10, rfl⟩ := eleven_of hl
      obtain ⟨x0, x1, x2, x3, x4, x5, x6, x7, x8, x9, x10⟩ := box11 HX1.out
      generalize (if chkF (okCf [c0, c1, c2, c3, c4, c5, c6, c7, c8, c9, c10]) e1 = 0 then [c0, c1, c2, c3, c4, c5, c6, c7, c8, c9, c10] else List.replicate 11 0) = l2 at *
      obtain ⟨d0, d1, d2, d3, d4, d5, d6, d7, d8, d9, d10, rfl⟩ := eleven_of HL2.out
      rw [show cV [d0, d1, d2, d3, d4, d5, d6, d7, d8, d9, d10] = .agg #[.int .i64 d0, .int .i64 d1, .int .i64 d2, .int .i64 d3, .int .i64 d4, .int .i64 d5, .int .i64 d6, .int .i64 d7, .int .i64 d8, .int .i64 d9, .int .i64 d10] from rfl] at K
      generalize chkF (okCf [c0, c1, c2, c3, c4, c5, c6, c7, c8, c9, c10]) e1 = E at *
      have HGG := Lib.hid HG
      clear HG hl HL2 HX1
      go_wp2_with fail
      refine (K.out).mono ?_
      rintro e w2 ⟨rfl, h1, h2⟩
      have hx0 := h2.box HX0.out HN0.out
      have HW := Lib.hid ((HW.out.trans h2).row (G := w.heap.size) (Nat.le_refl _) #[.int .i64 d0, .int .i64 d1, .int .i64 d2, .int .i64 d3, .int .i64 d4, .int .i64 d5, .int .i64 d6, .int .i64 d7, .int .i64 d8, .int .i64 d9, .int .i64 d10])
      have HR := Lib.hid (h1.row (k := w.heap.size) HL0.out #[.int .i64 d0, .int .i64 d1, .int .i64 d2, .int .i64 d3, .int .i64 d4, .int .i64 d5, .int .i64 d6, .int .i64 d7, .int .i64 d8, .int .i64 d9, .int .i64 d10])
      have hs := run_storeVar_row (P := Tryz.prog) w2 w.heap.size 62 62 zC #[.int .i64 d0, .int .i64 d1, .int .i64 d2, .int .i64 d3, .int .i64 d4, .int .i64 d5, .int .i64 d6, .int .i64 d7, .int .i64 d8, .int .i64 d9, .int .i64 d10] hx0 (info_conf.trans rfl) rfl (by simp [Value.oneCell'])
      simp [go_sem] at hs
      have HZ := Lib.hid (setRow_heap w2 w.heap.size zC #[.int .i64 d0, .int .i64 d1, .int .i64 d2, .int .i64 d3, .int .i64 d4, .int .i64 d5, .int .i64 d6, .int .i64 d7, .int .i64 d8, .int .i64 d9, .int .i64 d10] 62 (0, 0) hx0)
      clear h1 h2 hx0 HX0 K x0 x1 x2 x3 x4 x5 x6 x7 x8 x9 x10
      generalize w2.setRow w.heap.size #[.int .i64 d0, .int .i64 d1, .int .i64 d2, .int .i64 d3, .int .i64 d4, .int .i64 d5, .int .i64 d6, .int .i64 d7, .int .i64 d8, .int .i64 d9, .int .i64 d10] = wq at *
      go_wp2
      refine bodyPost_ret (v := .agg #[.int .i64 d0, .int .i64 d1, .int .i64 d2, .int .i64 d3, .int .i64 d4, .int .i64 d5, .int .i64 d6, .int .i64 d7, .int .i64 d8, .int .i64 d9, .int .i64 d10]) (results_cell_row rfl _ _ w.heap.size 62 _ (0, 0) _ rfl HZ.out Tryz.underlying62 rfl (info_conf.trans rfl)) rfl ⟨?_, ?_, HW.out⟩
      · rw [HGG.out]; rfl
      · rw [HGG.out]; exact HR.out
theorem gC_nil : gC [] (0, 7) = ((0, 7), List.replicate 11 0) := by decide +kernel
theorem it_GetConf_nil (w : World) : Calls Tryz.prog 27 #[.pointer none] w fun r w' => r = .returned (.agg zC) ∧ Below w.heap.size w w' := by
  refine (it_GetConf [] 0 none (0, 7) w rfl).mono ?_
  rintro r w' ⟨rfl, -, h⟩
  rw [gC_nil]
  exact ⟨rfl, h⟩
end Go.Proofs.YtpoemflclbhekaaGreat

/-! Layer 22 (item): which seen events are right; an alert that is. -/
namespace Go.Proofs.YtpoemflclbhekaaGreat
open Go.RowKit
set_option linter.unusedVariables false
set_option linter.unusedSimpArgs false

/-- which seen events are right -/
def rsB (id : Int) (X : List Int) (p q : Int) (sc : Bool) (dim : Int) : Bool := inB 1 1099511627776 [id] && isV X dim && (if sc = true then scoB p q else decide (p = 0) && decide (q = 0))
set_option maxRecDepth 100000 in
set_option maxHeartbeats 8000000 in
theorem it_RightSeen (id : Int) (X : List Int) (A : Option Addr) (c : Nat) (p q : Int) (sc : Bool) (dim : Int) (hp : I64 p) (hq : I64 q) (w : World) (hA : Lies w w.heap.size A X) (hX : X.length ≤ 9223372036854775807) (hc : X.length ≤ c) : Calls Tryz.prog 15 #[.agg #[.int .i64 id, .slice A X.length c, .int .i64 p, .int .i64 q, .bool sc], .int .i64 dim] w fun e w' => e = .returned (.bool (rsB id X p q sc dim)) ∧ Below w.heap.size w w' := by
  have hb1 := (Below.refl w.heap.size w).alloc (Nat.le_refl _) (.cells #[.int .i64 id, .slice A X.length c, .int .i64 p, .int .i64 q, .bool sc] 41)
  have hb2 := hb1.alloc hb1.size (.cells #[.int .i64 id] 3)
  have HB2 := Lib.hid hb2
  have HX := Lib.hid ((Box.new w #[.int .i64 id, .slice A X.length c, .int .i64 p, .int .i64 q, .bool sc] 41).alloc (.cells #[.int .i64 id] 3))
  obtain ⟨y0, y1, y2, y3, y4⟩ := (Box.new w #[.int .i64 id, .slice A X.length c, .int .i64 p, .int .i64 q, .bool sc] 41).five
  have K4 : Hid (∀ (W : World) (g : Nat), W.heap.size = g → Calls Tryz.prog 41 #[.int .i64 1, .int .i64 1099511627776, .slice (some ⟨g, 0, none⟩) 1 1] (W.alloc (.cells #[.int .i64 id] 3)) fun e w' => e = .returned (.bool (inB 1 1099511627776 [id])) ∧ W.alloc (.cells #[.int .i64 id] 3) = w') := fun W g hg => by
    subst hg
    exact it_within 1 1099511627776 [id] (some ⟨W.heap.size, 0, none⟩) 1 _ _ (boxLies (Box.new W _ _) rfl) (by simp)
  have K5 : Hid (∀ (W : World), Below w.heap.size w W → Calls Tryz.prog 42 #[.slice A X.length c, .int .i64 dim] W fun e w' => e = .returned (.bool (isV X dim)) ∧ Below W.heap.size W w') := fun W h => (vec_is A X c w.heap.size dim W (hA.below h) (by omega) hc).mono fun e w' h => ⟨h.1, belq22 h.2⟩
  have KS := Lib.hid (fun W => sco_is p q hp hq W)
  unfold rsB
  clear hA hb1 hb2 hp hq
  generalize inB 1 1099511627776 [id] = ib at *
  generalize isV X dim = iv at *
  generalize X.length = N at *
  cases sc
  case false =>
    cases ib
    · clear K5 KS
      go_enter Tryz.func15, Tryz.ntmps15
      go_wp2_with fail
      refine (K4.out _ _ (by simp)).mono ?_
      rintro e w1 ⟨rfl, rfl⟩
      go_wp2
      go_ret
      exact ⟨rfl, HB2.out⟩
    cases iv
    · clear KS
      go_enter Tryz.func15, Tryz.ntmps15
      go_wp2_with fail
      refine (K4.out _ _ (by simp)).mono ?_
      rintro e w1 ⟨rfl, rfl⟩
      obtain ⟨x0, x1, x2, x3, x4⟩ := HX.out.five
      go_wp2_with fail
      refine (K5.out _ HB2.out).mono ?_
      rintro e w2 ⟨rfl, b2⟩
      have HB := Lib.hid (HB2.out.trans (b2.mono HB2.out.size))
      clear b2
      go_wp2
      go_ret
      exact ⟨rfl, HB.out⟩
    clear KS
    rw [show (true && true && (if false = true then scoB p q else decide (p = 0) && decide (q = 0))) = (decide (p = 0) && decide (q = 0)) from rfl]
    go_enter Tryz.func15, Tryz.ntmps15
    go_wp2_with fail
    refine (K4.out _ _ (by simp)).mono ?_
    rintro e w1 ⟨rfl, rfl⟩
    obtain ⟨x0, x1, x2, x3, x4⟩ := HX.out.five
    go_wp2_with fail
    refine (K5.out _ HB2.out).mono ?_
    rintro e w2 ⟨rfl, b2⟩
    have HB := Lib.hid (HB2.out.trans (b2.mono HB2.out.size))
    obtain ⟨z0, z1, z2, z3, z4⟩ := (HX.out.below b2 HX.out.lt).five
    clear b2
    go_wp2
    all_goals
      go_ret
      refine ⟨?_, HB.out⟩
      simp_all
  case true =>
    cases ib
    · clear K5 KS
      go_enter Tryz.func15, Tryz.ntmps15
      go_wp2_with fail
      refine (K4.out _ _ (by simp)).mono ?_
      rintro e w1 ⟨rfl, rfl⟩
      go_wp2
      go_ret
      exact ⟨rfl, HB2.out⟩
    cases iv
    · clear KS
      go_enter Tryz.func15, Tryz.ntmps15
      go_wp2_with fail
      refine (K4.out _ _ (by simp)).mono ?_
      rintro e w1 ⟨rfl, rfl⟩
      obtain ⟨x0, x1, x2, x3, x4⟩ := HX.out.five
      go_wp2_with fail
      refine (K5.out _ HB2.out).mono ?_
      rintro e w2 ⟨rfl, b2⟩
      have HB := Lib.hid (HB2.out.trans (b2.mono HB2.out.size))
      clear b2
      go_wp2
      go_ret
      exact ⟨rfl, HB.out⟩
    rw [show (true && true && (if true = true then scoB p q else decide (p = 0) && decide (q = 0))) = scoB p q from rfl]
    generalize scoB p q = sb at *
    go_enter Tryz.func15, Tryz.ntmps15
    go_wp2_with fail
    refine (K4.out _ _ (by simp)).mono ?_
    rintro e w1 ⟨rfl, rfl⟩
    obtain ⟨x0, x1, x2, x3, x4⟩ := HX.out.five
    go_wp2_with fail
    refine (K5.out _ HB2.out).mono ?_
    rintro e w2 ⟨rfl, b2⟩
    have HB := Lib.hid (HB2.out.trans (b2.mono HB2.out.size))
    obtain ⟨z0, z1, z2, z3, z4⟩ := (HX.out.below b2 HX.out.lt).five
    clear b2
    go_wp2_with fail
    refine (KS.out _).mono ?_
    rintro e w3 ⟨rfl, b2⟩
    have HB := Lib.hid (HB.out.trans (b2.mono HB.out.size))
    clear b2
    go_wp2
    go_ret
    exact ⟨rfl, HB.out⟩
set_option maxRecDepth 100000 in
set_option maxHeartbeats 8000000 in
theorem it_RightAlert1 (w : World) : Calls Tryz.prog 26 #[.agg #[.int .i64 1, .int .i64 1, .int .i64 3, .int .i64 2, .int .i64 3, .int .i64 2]] w fun e w' => e = .returned (.bool true) ∧ Below w.heap.size w w' := by
  have hb1 := (Below.refl w.heap.size w).alloc (Nat.le_refl _) (.cells #[.int .i64 1, .int .i64 1, .int .i64 3, .int .i64 2, .int .i64 3, .int .i64 2] 60)
  have hb2 := hb1.alloc hb1.size (.cells #[.int .i64 1] 3)
  have hb3 := hb2.alloc hb2.size (.cells #[.int .i64 1] 3)
  have HB := Lib.hid hb3
  have hx := Box.new w #[.int .i64 1, .int .i64 1, .int .i64 3, .int .i64 2, .int .i64 3, .int .i64 2] 60
  have HX2 := Lib.hid (hx.alloc (.cells #[.int .i64 1] 3))
  have HX3 := Lib.hid ((hx.alloc (.cells #[.int .i64 1] 3)).alloc (.cells #[.int .i64 1] 3))
  have y0 := (hx.cell 0).trans rfl
  have y1 := (hx.cell 1).trans rfl
  have K4 : Hid (∀ (W : World) (g : Nat), W.heap.size = g → Calls Tryz.prog 41 #[.int .i64 1, .int .i64 1099511627776, .slice (some ⟨g, 0, none⟩) 1 1] (W.alloc (.cells #[.int .i64 1] 3)) fun e w' => e = .returned (.bool true) ∧ W.alloc (.cells #[.int .i64 1] 3) = w') := fun W g hg => by
    subst hg
    exact it_within 1 1099511627776 [1] (some ⟨W.heap.size, 0, none⟩) 1 _ _ (boxLies (Box.new W _ _) rfl) (by simp)
  have K5 : Hid (∀ W : World, Calls Tryz.prog 58 #[.agg #[.int .i64 3, .int .i64 2], .agg #[.int .i64 3, .int .i64 2]] W fun e w' => e = .returned (.tuple #[.int .i64 0, .int .i64 0]) ∧ Below W.heap.size W w') := fun W => by
    have h := sco_cmp 3 2 3 2 (by unfold I64; omega) (by unfold I64; omega) (by unfold I64; omega) (by unfold I64; omega) W
    rw [show cpV 3 2 3 2 = .tuple #[.int .i64 0, .int .i64 0] from by kernel_rfl] at h
    exact h
  clear hb1 hb2 hb3 hx
  go_enter Tryz.func26, Tryz.ntmps26
  go_wp2_with fail
  refine (K4.out _ _ (by simp)).mono ?_
  rintro e w1 ⟨rfl, rfl⟩
  have z1 := (HX2.out.cell 1).trans rfl
  go_wp2_with fail
  refine (K4.out _ _ (by simp)).mono ?_
  rintro e w2 ⟨rfl, rfl⟩
  have q2 := (HX3.out.cell 2).trans rfl
  have q3 := (HX3.out.cell 3).trans rfl
  have q4 := (HX3.out.cell 4).trans rfl
  have q5 := (HX3.out.cell 5).trans rfl
  go_wp2_with fail
  refine (K5.out _).mono ?_
  rintro e w3 ⟨rfl, b2⟩
  have HB2 := Lib.hid (HB.out.trans (b2.mono HB.out.size))
  clear b2
  go_wp2
  go_ret
  exact ⟨rfl, HB2.out⟩
end Go.Proofs.YtpoemflclbhekaaGreat

/-! Layer 22 (item): what must come of every program. -/
namespace Go.Proofs.YtpoemflclbhekaaGreat
open Go.RowKit
set_option linter.unusedVariables false
set_option linter.unusedSimpArgs false

theorem v22a : [] ++ scW 3 2 = [3, 2] ∧ [] ++ aW 4 0 5 0 [] = [4, 5] ∧ rightA 4 0 5 0 [] = true ∧ rightA 9 0 0 0 [] = false ∧ rsB 1 [4] 0 0 false 1 = true := by decide +kernel
theorem v22b : gS [3, 2, 4, 5, 9] 0 0 = ((2, 0), (3, 2)) ∧ gA [3, 2, 4, 5, 9] 2 0 = ((4, 0), (4, 0, [], 5, 0)) ∧ gA [3, 2, 4, 5, 9] 4 0 = ((5, 211), (0, 0, [], 0, 0)) := by decide +kernel
theorem byt22 : byt [3, 2, 4, 5, 9] := by
  intro x hx; simp at hx; omega
theorem lies0 {w : World} {B : Nat} {A : Option Addr} : Lies w B A [] := fun h => absurd h (by simp)
/-- what the walk keeps of the memory -/
def Pk22 (w : World) (n0 x y z B g : Nat) (ay : Option Addr) (cy : Nat) (az : Option Addr) (cz : Nat) (W : World) : Prop :=
  Box W n0 #[.int .i64 3, .int .i64 2] 23 ∧ Box W (n0 + 1) #[.int .i64 4, .int .i64 0, .slice none 0 0, .int .i64 5, .int .i64 0] 51 ∧ Box W x #[.int .i64 3, .int .i64 2] 23 ∧ Box W y #[.int .i64 4, .int .i64 0, .slice ay 0 cy, .int .i64 5, .int .i64 0] 51 ∧ Box W z #[.int .i64 0, .int .i64 0, .slice az 0 cz, .int .i64 0, .int .i64 0] 51 ∧ RdAt W B g [3, 2, 4, 5, 9] 5 211 ∧ Below w.heap.size w W
theorem Pk22.below {w : World} {n0 x y z B g : Nat} {ay : Option Addr} {cy : Nat} {az : Option Addr} {cz : Nat} {W W' : World} (h : Pk22 w n0 x y z B g ay cy az cz W) (hb : Below W.heap.size W W') : Pk22 w n0 x y z B g ay cy az cz W' :=
  ⟨h.1.below hb h.1.lt, h.2.1.below hb h.2.1.lt, h.2.2.1.below hb h.2.2.1.lt, h.2.2.2.1.below hb h.2.2.2.1.lt, h.2.2.2.2.1.below hb h.2.2.2.2.1.lt, h.2.2.2.2.2.1.below hb, h.2.2.2.2.2.2.trans (hb.mono h.2.2.2.2.2.2.size)⟩
set_option maxRecDepth 100000 in
set_option maxHeartbeats 16000000 in
theorem lives22 (w : World) : Calls Tryz.prog 5 #[] w fun e w' => e = .returned (.bool true) ∧ Below w.heap.size w w' := by
  obtain ⟨a1, a2, a3, a4, a5⟩ := v22a
  obtain ⟨r1, r2, r3⟩ := v22b
  have KPS : Hid (∀ W, Calls Tryz.prog 6 #[.slice none 0 0, .agg #[.int .i64 3, .int .i64 2]] W (GivesY [3, 2] W)) := fun W => by
    have := it_PutScore 3 2 (by unfold I64; omega) (by unfold I64; omega) [] none 0 W LiesY.nil (fun _ => rfl) (by simp)
    rw [a1] at this
    exact this
  have KPA : Hid (∀ W, Calls Tryz.prog 21 #[.slice none 0 0, .agg #[.int .i64 4, .int .i64 0, .slice none 0 0, .int .i64 5, .int .i64 0]] W (GivesY [4, 5] W)) := fun W => by
    have := it_PutAsk 4 0 5 0 [] none 0 [] none 0 W lies0 (by simp) (by simp) LiesY.nil (fun _ => rfl) (by simp)
    rw [a2] at this
    exact this
  have KSM : Hid (∀ (p q : Int) (W : World) A c A2 c2 B, LiesY W B A [p, q] → LiesY W B A2 [p, q] → Calls Tryz.prog 7 #[.slice A 2 c, .slice A2 2 c2] W fun e w' => e = .returned (.bool true) ∧ W = w') := fun p q W A c A2 c2 B h1 h2 => ref_SameY [p, q] A A2 c c2 B W h1 h2
  have KF : Hid (∀ W A c, LiesY W W.heap.size A [3, 2, 4, 5, 9] → (A = none → c = 0) → Calls Tryz.prog 9 #[.slice A 5 c] W fun e w' => (∃ g, e = .returned (.pointer (some ⟨g, 0, none⟩)) ∧ RdAt w' W.heap.size g [3, 2, 4, 5, 9] 0 0) ∧ Below W.heap.size W w') := fun W A c h1 h2 => bin_From [3, 2, 4, 5, 9] A c W h1 h2 (by simp) byt22
  have R1 : Hid (∀ W B g, RdAt W B g [3, 2, 4, 5, 9] 0 0 → Calls Tryz.prog 10 #[.pointer (some ⟨g, 0, none⟩)] W fun r w' => r = .returned (.agg #[.int .i64 3, .int .i64 2]) ∧ RdAt w' B g [3, 2, 4, 5, 9] 2 0 ∧ Wr g W w') := fun W B g h => by
    have := it_GetScore [3, 2, 4, 5, 9] B g 0 0 W h
    rw [r1] at this
    exact this
  have R2 : Hid (∀ W B g, RdAt W B g [3, 2, 4, 5, 9] 2 0 → Calls Tryz.prog 20 #[.pointer (some ⟨g, 0, none⟩)] W fun r w' => (∃ ay cy, r = .returned (.agg #[.int .i64 4, .int .i64 0, .slice ay 0 cy, .int .i64 5, .int .i64 0])) ∧ RdAt w' B g [3, 2, 4, 5, 9] 4 0 ∧ Wr g W w') := fun W B g h => by
    have := it_GetAsk [3, 2, 4, 5, 9] B g 2 0 W h
    rw [r2] at this
    exact this.mono fun r w' h => by obtain ⟨A, c, h1, h2, h3, h4⟩ := h; exact ⟨⟨A, c, h1⟩, h3, h4⟩
  have R3 : Hid (∀ W B g, RdAt W B g [3, 2, 4, 5, 9] 4 0 → Calls Tryz.prog 20 #[.pointer (some ⟨g, 0, none⟩)] W fun r w' => (∃ az cz, r = .returned (.agg #[.int .i64 0, .int .i64 0, .slice az 0 cz, .int .i64 0, .int .i64 0])) ∧ RdAt w' B g [3, 2, 4, 5, 9] 5 211 ∧ Wr g W w') := fun W B g h => by
    have := it_GetAsk [3, 2, 4, 5, 9] B g 4 0 W h
    rw [r3] at this
    exact this.mono fun r w' h => by obtain ⟨A, c, h1, h2, h3, h4⟩ := h; exact ⟨⟨A, c, h1⟩, h3, h4⟩
  have KSA : Hid (∀ (k n : Int) (W : World) A c A2 c2, Calls Tryz.prog 22 #[.agg #[.int .i64 k, .int .i64 0, .slice A 0 c, .int .i64 n, .int .i64 0], .agg #[.int .i64 k, .int .i64 0, .slice A2 0 c2, .int .i64 n, .int .i64 0]] W fun e w' => e = .returned (.bool true) ∧ Below W.heap.size W w') := fun k n W A c A2 c2 => ref_SameAsk k 0 n 0 [] A A2 c c2 W lies0 lies0 (by simp)
  have RE := Lib.hid (fun W B g (h : RdAt W B g [3, 2, 4, 5, 9] 5 211) => rd_Err h)
  have RA := Lib.hid (fun W B g (h : RdAt W B g [3, 2, 4, 5, 9] 5 211) => rd_At h)
  have KR1 : Hid (∀ W, Calls Tryz.prog 25 #[.agg #[.int .i64 4, .int .i64 0, .slice none 0 0, .int .i64 5, .int .i64 0]] W fun e w' => e = .returned (.bool true) ∧ Below W.heap.size W w') := fun W => by
    have := it_RightAsk 4 0 5 0 [] none 0 W lies0 (by simp) (by simp)
    rw [a3] at this
    exact this
  have KR2 : Hid (∀ W, Calls Tryz.prog 25 #[.agg #[.int .i64 9, .int .i64 0, .slice none 0 0, .int .i64 0, .int .i64 0]] W fun e w' => e = .returned (.bool false) ∧ Below W.heap.size W w') := fun W => by
    have := it_RightAsk 9 0 0 0 [] none 0 W lies0 (by simp) (by simp)
    rw [a4] at this
    exact this
  have KAL := Lib.hid (fun W => it_RightAlert1 W)
  have KSE : Hid (∀ W g, W.heap.size = g → Calls Tryz.prog 15 #[.agg #[.int .i64 1, .slice (some ⟨g, 0, none⟩) 1 1, .int .i64 0, .int .i64 0, .bool false], .int .i64 1] (W.alloc (.cells #[.int .i64 4] 3)) fun e w' => e = .returned (.bool true) ∧ Below W.heap.size W w') := fun W g hg => by
    subst hg
    have hb := (Below.refl W.heap.size W).alloc (Nat.le_refl _) (.cells #[.int .i64 4] 3)
    have := it_RightSeen 1 [4] (some ⟨W.heap.size, 0, none⟩) 1 0 0 false 1 (by unfold I64; omega) (by unfold I64; omega) (W.alloc (.cells #[.int .i64 4] 3)) (boxLies (Box.new W _ _) rfl) (by simp) (by simp)
    rw [a5] at this
    exact this.mono fun e w' h => ⟨h.1, hb.trans (h.2.mono hb.size)⟩
  have KGC := Lib.hid (fun W => it_GetConf_nil W)
  clear a1 a2 a3 a4 a5 r1 r2 r3
  unfold GivesY at KPS KPA
  go_enter Tryz.func5, Tryz.ntmps5
  have b1 := (Below.refl w.heap.size w).alloc (Nat.le_refl _) (.cells #[.int .i64 3, .int .i64 2] 23)
  have b2 := b1.alloc b1.size (.cells #[.int .i64 4, .int .i64 0, .slice none 0 0, .int .i64 5, .int .i64 0] 51)
  have HS := Lib.hid ((Box.new w #[.int .i64 3, .int .i64 2] 23).alloc (.cells #[.int .i64 4, .int .i64 0, .slice none 0 0, .int .i64 5, .int .i64 0] 51))
  have hA := Box.new (w.alloc (.cells #[.int .i64 3, .int .i64 2] 23)) #[.int .i64 4, .int .i64 0, .slice none 0 0, .int .i64 5, .int .i64 0] 51
  rw [alloc_size'] at hA
  have HA := Lib.hid hA
  have HB := Lib.hid b2
  clear b1 b2 hA
  go_upto_region 3 with fail
  generalize (w.alloc (.cells #[.int .i64 3, .int .i64 2] 23)).alloc (.cells #[.int .i64 4, .int .i64 0, .slice none 0 0, .int .i64 5, .int .i64 0] 51) = w1 at *
  have hl1 := HA.out.lt
  have hal := (Below.refl w1.heap.size w1).alloc (Nat.le_refl _) (.cells #[.int .u8 3, .int .u8 2, .int .u8 4, .int .u8 5, .int .u8 9] 5)
  have KF2 := Lib.hid (KF.out _ (some ⟨w1.heap.size, 0, none⟩) 5 (box_liesY (heap_alloc_new w1 (.cells #[.int .u8 3, .int .u8 2, .int .u8 4, .int .u8 5, .int .u8 9] 5)) rfl) (fun e => by cases e))
  have HS := Lib.hid (HS.out.below hal HS.out.lt)
  have HA := Lib.hid (HA.out.below hal HA.out.lt)
  have HB := Lib.hid (HB.out.trans (hal.mono HB.out.size))
  clear hal KF
  go_wp2_with fail
  refine (KF2.out).mono ?_
  rintro e w2 ⟨⟨g, rfl, h1⟩, h2⟩
  have HR := Lib.hid h1
  have HS := Lib.hid (HS.out.below h2 HS.out.lt)
  have HA := Lib.hid (HA.out.below h2 HA.out.lt)
  have HB := Lib.hid (HB.out.trans (h2.mono HB.out.size))
  obtain ⟨B, hB⟩ : ∃ B, B = (w1.alloc (.cells #[.int .u8 3, .int .u8 2, .int .u8 4, .int .u8 5, .int .u8 9] 5)).heap.size := ⟨_, rfl⟩
  rw [← hB] at HR
  have hBn : w.heap.size + 2 ≤ B := by rw [alloc_size'] at hB; omega
  clear h1 h2 KF2 hB
  have K1 := Lib.hid (R1.out w2 B g HR.out)
  go_wp2_with fail
  refine (K1.out).mono ?_
  rintro e w3 ⟨rfl, h1, h2⟩
  have hgB := HR.out.lt.2.1
  have HR := Lib.hid h1
  have HS := Lib.hid (h2.box HS.out (by omega))
  have HA := Lib.hid (h2.box HA.out (by omega))
  have HB := Lib.hid (HB.out.trans (h2.low (B := w.heap.size) (by omega) HB.out.size))
  clear h1 h2 K1
  have K2 := Lib.hid (R2.out w3 B g HR.out)
  go_wp2_with fail
  refine (K2.out).mono ?_
  rintro e w4 ⟨⟨ay, cy, rfl⟩, h1, h2⟩
  have HR := Lib.hid h1
  have HS := Lib.hid (h2.box HS.out (by omega))
  have HA := Lib.hid (h2.box HA.out (by omega))
  have HB := Lib.hid (HB.out.trans (h2.low (B := w.heap.size) (by omega) HB.out.size))
  clear h1 h2 K2
  have hal := (Below.refl w4.heap.size w4).alloc (Nat.le_refl _) (.cells #[.int .i64 3, .int .i64 2] 23)
  have hal2 := hal.alloc hal.size (.cells #[.int .i64 4, .int .i64 0, .slice ay 0 cy, .int .i64 5, .int .i64 0] 51)
  have hx := (Box.new w4 #[.int .i64 3, .int .i64 2] 23).alloc (.cells #[.int .i64 4, .int .i64 0, .slice ay 0 cy, .int .i64 5, .int .i64 0] 51)
  have hy := Box.new (w4.alloc (.cells #[.int .i64 3, .int .i64 2] 23)) #[.int .i64 4, .int .i64 0, .slice ay 0 cy, .int .i64 5, .int .i64 0] 51
  rw [alloc_size'] at hy
  have hg4 := HR.out.lt.1
  have HR := Lib.hid (HR.out.below hal2)
  have HS := Lib.hid (HS.out.below hal2 HS.out.lt)
  have HA := Lib.hid (HA.out.below hal2 HA.out.lt)
  have HB := Lib.hid (HB.out.trans (hal2.mono HB.out.size))
  have HX := Lib.hid hx
  have HY := Lib.hid hy
  clear hal hal2 hx hy
  go_upto_region 7 with fail
  generalize (w4.alloc (.cells #[.int .i64 3, .int .i64 2] 23)).alloc (.cells #[.int .i64 4, .int .i64 0, .slice ay 0 cy, .int .i64 5, .int .i64 0] 51) = w5 at *
  generalize w4.heap.size = X4 at *
  have K3 := Lib.hid (R3.out w5 B g HR.out)
  go_wp2_with fail
  refine (K3.out).mono ?_
  rintro e w6 ⟨⟨az, cz, rfl⟩, h1, h2⟩
  have hg6 := h1.lt.1
  have HR := Lib.hid h1
  have HS := Lib.hid (h2.box HS.out (by omega))
  have HA := Lib.hid (h2.box HA.out (by omega))
  have HX := Lib.hid (h2.box HX.out (by omega))
  have HY := Lib.hid (h2.box HY.out (by omega))
  have HB := Lib.hid (HB.out.trans (h2.low (B := w.heap.size) (by omega) HB.out.size))
  clear h1 h2 K3
  have hal := (Below.refl w6.heap.size w6).alloc (Nat.le_refl _) (.cells #[.int .i64 0, .int .i64 0, .slice az 0 cz, .int .i64 0, .int .i64 0] 51)
  have hp : Pk22 w w.heap.size X4 (X4 + 1) w6.heap.size B g ay cy az cz (w6.alloc (.cells #[.int .i64 0, .int .i64 0, .slice az 0 cz, .int .i64 0, .int .i64 0] 51)) :=
    ⟨HS.out.below hal HS.out.lt, HA.out.below hal HA.out.lt, HX.out.below hal HX.out.lt, HY.out.below hal HY.out.lt, Box.new w6 _ _, HR.out.below hal, HB.out.trans (hal.mono HB.out.size)⟩
  have HP := Lib.hid hp
  clear hal hp HS HA HX HY HR HB hg6 hg4 hl1 hBn hgB R1 R2 R3
  go_upto_region 8 with fail
  generalize w6.alloc (.cells #[.int .i64 0, .int .i64 0, .slice az 0 cz, .int .i64 0, .int .i64 0] 51) = W0 at *
  generalize w6.heap.size = Z6 at *
  generalize X4 + 1 = Y4 at *
  obtain ⟨s0, s1, -, -⟩ := HP.out.1.two
  go_wp2_with fail
  refine (KPS.out _).mono ?_
  rintro e W1 ⟨⟨v, rfl, h1⟩, h2⟩
  clear s0 s1
  obtain ⟨A1, c1, rfl, g1, -, g3, -, -⟩ := h1.lies
  have HP := Lib.hid (HP.out.below h2)
  have hal := (Below.refl W1.heap.size W1).alloc (Nat.le_refl _) (.cells #[.int .u8 3, .int .u8 2] 5)
  have K := Lib.hid (KSM.out 3 2 _ A1 c1 (some ⟨W1.heap.size, 0, none⟩) 2 _ (g3.up hal) (box_liesY (heap_alloc_new W1 (.cells #[.int .u8 3, .int .u8 2] 5)) rfl))
  have HP := Lib.hid (HP.out.below hal)
  clear hal h1 h2 g1 g3
  go_wp2_with fail
  refine (K.out).mono ?_
  rintro e w' ⟨rfl, rfl⟩
  clear K
  generalize W1.alloc (.cells #[.int .u8 3, .int .u8 2] 5) = W1b at *
  obtain ⟨a0, a1, a2, a3, a4⟩ := HP.out.2.1.five
  go_wp2_with fail
  refine (KPA.out _).mono ?_
  rintro e W2 ⟨⟨v, rfl, h1⟩, h2⟩
  clear a0 a1 a2 a3 a4
  obtain ⟨A1, c1, rfl, g1, -, g3, -, -⟩ := h1.lies
  have HP := Lib.hid (HP.out.below h2)
  have hal := (Below.refl W2.heap.size W2).alloc (Nat.le_refl _) (.cells #[.int .u8 4, .int .u8 5] 5)
  have K := Lib.hid (KSM.out 4 5 _ A1 c1 (some ⟨W2.heap.size, 0, none⟩) 2 _ (g3.up hal) (box_liesY (heap_alloc_new W2 (.cells #[.int .u8 4, .int .u8 5] 5)) rfl))
  have HP := Lib.hid (HP.out.below hal)
  clear hal h1 h2 g1 g3
  go_wp2_with fail
  refine (K.out).mono ?_
  rintro e w' ⟨rfl, rfl⟩
  clear K
  generalize W2.alloc (.cells #[.int .u8 4, .int .u8 5] 5) = W2b at *
  obtain ⟨s0, s1, -, -⟩ := HP.out.1.two
  obtain ⟨x0, x1, -, -⟩ := HP.out.2.2.1.two
  obtain ⟨a0, a1, a2, a3, a4⟩ := HP.out.2.1.five
  obtain ⟨y0, y1, y2, y3, y4⟩ := HP.out.2.2.2.1.five
  go_wp2_with fail
  refine (KSA.out _ _ _ _ _ _ _).mono ?_
  rintro e W3 ⟨rfl, h2⟩
  clear s0 s1 x0 x1 a0 a1 a2 a3 a4 y0 y1 y2 y3 y4
  have HP := Lib.hid (HP.out.below h2)
  clear h2
  obtain ⟨z0, z1, z2, z3, z4⟩ := HP.out.2.2.2.2.1.five
  go_wp2_with fail
  refine (KSA.out _ _ _ _ _ _ _).mono ?_
  rintro e W4 ⟨rfl, h2⟩
  clear z0 z1 z2 z3 z4
  have HP := Lib.hid (HP.out.below h2)
  clear h2
  go_wp2_with fail
  refine (RE.out _ B g HP.out.2.2.2.2.2.1).mono ?_
  rintro e w' ⟨rfl, rfl⟩
  go_wp2_with fail
  refine (RA.out _ B g HP.out.2.2.2.2.2.1).mono ?_
  rintro e w' ⟨rfl, rfl⟩
  obtain ⟨a0, a1, a2, a3, a4⟩ := HP.out.2.1.five
  go_wp2_with fail
  refine (KR1.out _).mono ?_
  rintro e W5 ⟨rfl, h2⟩
  clear a0 a1 a2 a3 a4
  have HP := Lib.hid (HP.out.below h2)
  clear h2
  go_wp2_with fail
  refine (KR2.out _).mono ?_
  rintro e W6 ⟨rfl, h2⟩
  have HP := Lib.hid (HP.out.below h2)
  clear h2
  obtain ⟨s0, s1, -, -⟩ := HP.out.1.two
  go_wp2_with fail
  refine (KAL.out _).mono ?_
  rintro e W7 ⟨rfl, h2⟩
  clear s0 s1
  have HP := Lib.hid (HP.out.below h2)
  clear h2
  go_wp2_with fail
  refine (KSE.out _ _ rfl).mono ?_
  rintro e Wz ⟨rfl, h2⟩
  have HP := Lib.hid (HP.out.below h2)
  clear h2
  go_wp2_with fail
  refine (KGC.out _).mono ?_
  rintro e Wy ⟨rfl, h2⟩
  have HP := Lib.hid (HP.out.below h2)
  clear h2
  go_wp2
  go_ret
  exact ⟨rfl, HP.out.2.2.2.2.2.2⟩
end Go.Proofs.YtpoemflclbhekaaGreat
