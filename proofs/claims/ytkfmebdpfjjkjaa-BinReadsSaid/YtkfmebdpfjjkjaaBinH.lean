/- Layer 21 (bin): what a reader reads: the deferred reset. -/
import Derived.Test.YtkfmebdpfjjkjaaBinG
import Derived.Defers
import Derived.Recover
namespace Go.Proofs.Ytkfmebdpfjjkjaa
open Go.RowKit
set_option linter.unusedVariables false
set_option linter.unusedSimpArgs false

/-- what a part gives: a value, where it stands, how it failed -/
def PartR_u64 (g B : Nat) (b : List Int) (PR : Value → World → Nat → Int → Prop) (X : World) (e : Ending) (w' : World) : Prop :=
  ∃ (x : Int) (k2 : Nat) (e2 : Int), e = .returned (.int .u64 x) ∧ RdAt w' B g b k2 e2 ∧ Wr g X w' ∧ PR (.int .u64 x) w' k2 e2
/-- what read gives -/
def ReadR_u64 (g B k : Nat) (b : List Int) (PR : Value → World → Nat → Int → Prop) (w : World) (e : Ending) (w' : World) : Prop :=
  ∃ (x : Int) (k2 : Nat) (e2 : Int) (X1 : World), PR (.int .u64 x) X1 k2 e2 ∧ Wr g w w' ∧ X1.heap.size = w'.heap.size ∧ (∀ j, w.heap.size + 2 < j → j ≠ g → w'.heap[j]? = X1.heap[j]?) ∧
    (e2 = 0 → e = .returned (.int .u64 x) ∧ RdAt w' B g b k2 0) ∧ (e2 ≠ 0 → e = .returned (.int .u64 0) ∧ RdAt w' B g b k e2)
theorem d_ok_u64 {X : World} {B g k2 rb ab gb : Nat} {b : List Int} (u : FrameMode) (h : RdAt X B g b k2 0) (hr : X.cell? ⟨rb, 0, none⟩ = some (.pointer (some ⟨g, 0, none⟩))) :
    CallsD Try.prog 168 #[.pointer (some ⟨rb, 0, none⟩), .pointer (some ⟨ab, 0, none⟩), .pointer (some ⟨gb, 0, none⟩)] u X fun e u' w' => u' = u ∧ (e = .returned (.tuple #[]) ∧ w' = X) := by
  obtain ⟨A, c, c0, c1, c2, f1, f2⟩ := h.cells
  clear h
  go_enter_d Try.func168, Try.ntmps168
  go_wp2
  go_end0
  exact ⟨rfl, rfl⟩
theorem d_bad_u64 {X : World} {B g k2 k rb ab gb : Nat} {b : List Int} {e2 : Int} {v : Value} (u : FrameMode) (h : RdAt X B g b k2 e2) (he : e2 ≠ 0) (hr : X.cell? ⟨rb, 0, none⟩ = some (.pointer (some ⟨g, 0, none⟩))) (ha : X.cell? ⟨ab, 0, none⟩ = some (.int .i64 (k : Nat))) (hg : X.cell? ⟨gb, 0, none⟩ = some v) (hgf : X.frozen? ⟨gb, 0, none⟩ = false) (hne : gb ≠ g) :
    CallsD Try.prog 168 #[.pointer (some ⟨rb, 0, none⟩), .pointer (some ⟨ab, 0, none⟩), .pointer (some ⟨gb, 0, none⟩)] u X fun e u' w' => u' = u ∧ (e = .returned (.tuple #[]) ∧ w' = (X.setCell ⟨g, 1, none⟩ (.int .i64 (k : Nat))).setCell ⟨gb, 0, none⟩ (.int .u64 0)) := by
  obtain ⟨A, c, c0, c1, c2, f1, f2⟩ := h.cells
  have heb : (e2 != 0) = true := by simpa using he
  have hga : (X.setCell ⟨g, 1, none⟩ (.int .i64 (k : Nat))).cell? ⟨gb, 0, none⟩ = some v := by
    rw [World.cell?_setCell_other X ⟨g, 1, none⟩ ⟨gb, 0, none⟩ _ (by first | (simp; done) | (simp; omega))]; exact hg
  clear h he
  go_enter_d Try.func168, Try.ntmps168
  go_wp2
  go_end0
  exact ⟨rfl, rfl⟩
set_option maxRecDepth 100000 in
set_option maxHeartbeats 4000000 in
theorem read_ok_u64 {w : World} {B g k : Nat} {b : List Int} (PR : Value → World → Nat → Int → Prop) (h : RdAt w B g b k 0) (K : ∀ X, RdAt X B g b k 0 → Below w.heap.size w X → X.heap.size = w.heap.size + 3 → Calls Try.prog 134 #[.pointer (some ⟨g, 0, none⟩)] X (PartR_u64 g B b PR X)) :
    Calls Try.prog 133 #[.pointer (some ⟨g, 0, none⟩), .func (.func 134) #[.pointer (some ⟨g, 0, none⟩)] #[]] w (ReadR_u64 g B k b PR w) := by
  have hmf : ∀ (fn : Fn) (first cap : Array Value) (w : World), (Instr.makeFunc fn first cap).run Try.prog w = .ok (.func fn first cap) w := fun _ _ _ _ => rfl
  have HX := Lib.hid (((Kpc.start w).alloc #[.pointer (some ⟨g, 0, none⟩)] 53).alloc #[.int .u64 0] 112)
  rw [alloc_size'] at HX
  obtain ⟨hg, hBg, hk, -, -⟩ := h.lt
  have KE := Lib.hid (rd_Err (h.below HX.out.2.1))
  obtain ⟨A0, cc0, c0, c1, c2, -, -⟩ := (h.below HX.out.2.1).cells
  have x0 := (HX.out.tail.head.cell 0).trans rfl
  have HS2 : Hid (((w.alloc (.cells #[.pointer (some ⟨g, 0, none⟩)] 53)).alloc (.cells #[.int .u64 0] 112)).heap.size = w.heap.size + 2) := by
    show _ = _
    rw [alloc_size', alloc_size']
  have HR := Lib.hid h
  have KP := Lib.hid K
  clear h K
  go_enter_defers Try.func133, Try.ntmps133
  go_wp2_with fail
  refine (KE.out).mono ?_
  rintro e w' ⟨rfl, rfl⟩
  have HX3 := Lib.hid (HX.out.alloc #[.int .i64 (k : Nat)] 3)
  rw [HS2.out] at HX3
  have HS3 : Hid ((((w.alloc (.cells #[.pointer (some ⟨g, 0, none⟩)] 53)).alloc (.cells #[.int .u64 0] 112)).alloc (.cells #[.int .i64 (k : Nat)] 3)).heap.size = w.heap.size + 3) := by
    show _ = _
    rw [alloc_size', HS2.out]
  have KP1 := Lib.hid (KP.out _ (HR.out.below HX3.out.2.1) HX3.out.2.1 HS3.out)
  go_wp2_with fail
  refine (KP1.out).mono ?_
  rintro e X1 ⟨x, k2, e2, rfl, hR, hW, hPR⟩
  have B0 := Lib.hid (hW.box HX3.out.tail.tail.head (by omega))
  have B1 := Lib.hid (hW.box HX3.out.tail.head (by omega))
  have B2 := Lib.hid (hW.box HX3.out.head (by omega))
  have y1 := (B1.out.cell 0).trans rfl
  have yf := B1.out.free 0
  have HW := Lib.hid ((Wr.of g HX3.out.2.1).trans hW)
  have HR1 := Lib.hid hR
  have HP := Lib.hid hPR
  clear hR hW hPR x0 c0 c1 c2 KP1 KP KE HX HX3 HS2 HS3
  go_wp2
  have HRs := Lib.hid (HR1.out.wr (Wr.set (w.heap.size + 1) 0 X1 (.int .u64 x)) (by omega))
  have HB0 := Lib.hid (B0.out.off (p := ⟨w.heap.size + 1, 0, none⟩) (show w.heap.size + 1 ≠ w.heap.size by omega) (.int .u64 x))
  have HB1 := Lib.hid (B1.out.set 0 (.int .u64 x))
  have HB2 := Lib.hid (B2.out.off (p := ⟨w.heap.size + 1, 0, none⟩) (show w.heap.size + 1 ≠ w.heap.size + 2 by omega) (.int .u64 x))
  have HWs : Hid (Wr g w (X1.setCell ⟨w.heap.size + 1, 0, none⟩ (.int .u64 x))) := by
    have hw := HW.out
    refine ⟨hw.os, hw.tape, hw.output, by simp [World.setCell]; exact hw.size, fun j hj hjg => ?_⟩
    rw [Below.heap_setCell _ _ _ _ (by show j ≠ w.heap.size + 1; omega)]
    exact hw.block j hj hjg
  have HXs : Hid (X1.heap.size = (X1.setCell ⟨w.heap.size + 1, 0, none⟩ (.int .u64 x)).heap.size) := by (show _ = _; simp [World.setCell])
  have HXj : Hid (∀ j, w.heap.size + 2 < j → j ≠ g → (X1.setCell ⟨w.heap.size + 1, 0, none⟩ (.int .u64 x)).heap[j]? = X1.heap[j]?) := fun j hj _ => Below.heap_setCell _ _ _ _ (by show j ≠ w.heap.size + 1; omega)
  refine leaves_cons (f := 168) (args := #[.pointer (some ⟨w.heap.size, 0, none⟩), .pointer (some ⟨w.heap.size + 1 + 1, 0, none⟩), .pointer (some ⟨w.heap.size + 1, 0, none⟩)]) (by simp) (by simp [go_sem]) ?_
  have q0 := (HB0.out.cell 0).trans rfl
  have q1 := (HB1.out.cell 0).trans rfl
  have q2 := (HB2.out.cell 0).trans rfl
  by_cases he : e2 = 0
  · subst he
    refine (d_ok_u64 .returning HRs.out q0).mono ?_
    rintro e u' w'' ⟨rfl, rfl, rfl⟩
    refine ⟨.int .u64 x, ?_, x, k2, 0, X1, HP.out, HWs.out, HXs.out, HXj.out, fun _ => ⟨rfl, HRs.out⟩, fun h => absurd rfl h⟩
    simp only [results, show Try.f133.results = #[.cell 4 112] from rfl]
    go_simp
  · refine (d_bad_u64 .returning HRs.out he q0 q2 q1 (HB1.out.free 0) (by omega)).mono ?_
    rintro e u' w'' ⟨rfl, rfl, rfl⟩
    have HRz : RdAt (((X1.setCell ⟨w.heap.size + 1, 0, none⟩ (.int .u64 x)).setCell ⟨g, 1, none⟩ (.int .i64 (k : Nat))).setCell ⟨w.heap.size + 1, 0, none⟩ (.int .u64 0)) B g b k e2 := (HRs.out.to k hk).wr (Wr.set (w.heap.size + 1) 0 _ _) (by omega)
    have HWz : Wr g w (((X1.setCell ⟨w.heap.size + 1, 0, none⟩ (.int .u64 x)).setCell ⟨g, 1, none⟩ (.int .i64 (k : Nat))).setCell ⟨w.heap.size + 1, 0, none⟩ (.int .u64 0)) := by
      have hw := HWs.out.trans (Wr.set g 1 _ (.int .i64 (k : Nat)))
      refine ⟨hw.os, hw.tape, hw.output, by have := hw.size; simp [World.setCell] at this ⊢; exact this, fun j hj hjg => ?_⟩
      rw [Below.heap_setCell _ _ _ _ (by show j ≠ w.heap.size + 1; omega)]
      exact hw.block j hj hjg
    have q3 := ((HB1.out.off (p := ⟨g, 1, none⟩) (show g ≠ w.heap.size + 1 by omega) (.int .i64 (k : Nat))).set 0 (.int .u64 0)).cell 0
    refine ⟨.int .u64 0, ?_, x, k2, e2, X1, HP.out, HWz, ?_, fun j hj hjg => ?_, fun h => absurd h he, fun _ => ⟨rfl, HRz⟩⟩
    · simp only [results, show Try.f133.results = #[.cell 4 112] from rfl]
      simp at q3
      go_simp
    · rw [HXs.out]; simp [World.setCell]
    · rw [Below.heap_setCell _ _ _ _ (by show j ≠ w.heap.size + 1; omega), Below.heap_setCell _ _ _ _ hjg]
      exact HXj.out j hj hjg
set_option maxRecDepth 100000 in
set_option maxHeartbeats 4000000 in
theorem read_no_u64 {w : World} {B g k : Nat} {b : List Int} {e0 : Int} (h : RdAt w B g b k e0) (he : e0 ≠ 0) (fv : Value) :
    Calls Try.prog 133 #[.pointer (some ⟨g, 0, none⟩), fv] w fun e w' => e = .returned (.int .u64 0) ∧ RdAt w' B g b k e0 ∧ Wr g w w' := by
  have HX := Lib.hid (((Kpc.start w).alloc #[.pointer (some ⟨g, 0, none⟩)] 53).alloc #[.int .u64 0] 112)
  rw [alloc_size'] at HX
  have KE := Lib.hid (rd_Err (h.below HX.out.2.1))
  have x0 := (HX.out.tail.head.cell 0).trans rfl
  have x1 := (HX.out.head.cell 0).trans rfl
  have xf := HX.out.head.free 0
  have heb : (e0 != 0) = true := by simpa using he
  have HR := Lib.hid (h.below HX.out.2.1)
  clear h he
  go_enter_defers Try.func133, Try.ntmps133
  go_wp2_with fail
  refine (KE.out).mono ?_
  rintro e w' ⟨rfl, rfl⟩
  go_wp2
  refine ⟨.int .u64 0, ?_, rfl, HR.out, Wr.of g HX.out.2.1⟩
  simp only [results, show Try.f133.results = #[.cell 4 112] from rfl]
  go_simp
set_option maxRecDepth 100000 in
set_option maxHeartbeats 4000000 in
theorem read_nil_u64 (fv : Value) (w : World) :
    Calls Try.prog 133 #[.pointer none, fv] w fun e w' => e = .returned (.int .u64 0) ∧ Below w.heap.size w w' := by
  have HX := Lib.hid (((Kpc.start w).alloc #[.pointer none] 53).alloc #[.int .u64 0] 112)
  rw [alloc_size'] at HX
  have KE := Lib.hid (fun W => rd_Err_nil W)
  have x0 := (HX.out.tail.head.cell 0).trans rfl
  have x1 := (HX.out.head.cell 0).trans rfl
  have xf := HX.out.head.free 0
  go_enter_defers Try.func133, Try.ntmps133
  go_wp2_with fail
  refine (KE.out _).mono ?_
  rintro e w' ⟨rfl, rfl⟩
  go_wp2
  refine ⟨.int .u64 0, ?_, rfl, HX.out.2.1⟩
  simp only [results, show Try.f133.results = #[.cell 4 112] from rfl]
  go_simp
/-- what a part gives: a value, where it stands, how it failed -/
def PartR_int (g B : Nat) (b : List Int) (PR : Value → World → Nat → Int → Prop) (X : World) (e : Ending) (w' : World) : Prop :=
  ∃ (x : Int) (k2 : Nat) (e2 : Int), e = .returned (.int .i64 x) ∧ RdAt w' B g b k2 e2 ∧ Wr g X w' ∧ PR (.int .i64 x) w' k2 e2
/-- what read gives -/
def ReadR_int (g B k : Nat) (b : List Int) (PR : Value → World → Nat → Int → Prop) (w : World) (e : Ending) (w' : World) : Prop :=
  ∃ (x : Int) (k2 : Nat) (e2 : Int) (X1 : World), PR (.int .i64 x) X1 k2 e2 ∧ Wr g w w' ∧ X1.heap.size = w'.heap.size ∧ (∀ j, w.heap.size + 2 < j → j ≠ g → w'.heap[j]? = X1.heap[j]?) ∧
    (e2 = 0 → e = .returned (.int .i64 x) ∧ RdAt w' B g b k2 0) ∧ (e2 ≠ 0 → e = .returned (.int .i64 0) ∧ RdAt w' B g b k e2)
theorem d_ok_int {X : World} {B g k2 rb ab gb : Nat} {b : List Int} (u : FrameMode) (h : RdAt X B g b k2 0) (hr : X.cell? ⟨rb, 0, none⟩ = some (.pointer (some ⟨g, 0, none⟩))) :
    CallsD Try.prog 173 #[.pointer (some ⟨rb, 0, none⟩), .pointer (some ⟨ab, 0, none⟩), .pointer (some ⟨gb, 0, none⟩)] u X fun e u' w' => u' = u ∧ (e = .returned (.tuple #[]) ∧ w' = X) := by
  obtain ⟨A, c, c0, c1, c2, f1, f2⟩ := h.cells
  clear h
  go_enter_d Try.func173, Try.ntmps173
  go_wp2
  go_end0
  exact ⟨rfl, rfl⟩
theorem d_bad_int {X : World} {B g k2 k rb ab gb : Nat} {b : List Int} {e2 : Int} {v : Value} (u : FrameMode) (h : RdAt X B g b k2 e2) (he : e2 ≠ 0) (hr : X.cell? ⟨rb, 0, none⟩ = some (.pointer (some ⟨g, 0, none⟩))) (ha : X.cell? ⟨ab, 0, none⟩ = some (.int .i64 (k : Nat))) (hg : X.cell? ⟨gb, 0, none⟩ = some v) (hgf : X.frozen? ⟨gb, 0, none⟩ = false) (hne : gb ≠ g) :
    CallsD Try.prog 173 #[.pointer (some ⟨rb, 0, none⟩), .pointer (some ⟨ab, 0, none⟩), .pointer (some ⟨gb, 0, none⟩)] u X fun e u' w' => u' = u ∧ (e = .returned (.tuple #[]) ∧ w' = (X.setCell ⟨g, 1, none⟩ (.int .i64 (k : Nat))).setCell ⟨gb, 0, none⟩ (.int .i64 0)) := by
  obtain ⟨A, c, c0, c1, c2, f1, f2⟩ := h.cells
  have heb : (e2 != 0) = true := by simpa using he
  have hga : (X.setCell ⟨g, 1, none⟩ (.int .i64 (k : Nat))).cell? ⟨gb, 0, none⟩ = some v := by
    rw [World.cell?_setCell_other X ⟨g, 1, none⟩ ⟨gb, 0, none⟩ _ (by first | (simp; done) | (simp; omega))]; exact hg
  clear h he
  go_enter_d Try.func173, Try.ntmps173
  go_wp2
  go_end0
  exact ⟨rfl, rfl⟩
set_option maxRecDepth 100000 in
set_option maxHeartbeats 4000000 in
theorem read_ok_int {w : World} {B g k : Nat} {b : List Int} (pa pb : Nat) (PR : Value → World → Nat → Int → Prop) (h : RdAt w B g b k 0) (K : ∀ X, RdAt X B g b k 0 → Below w.heap.size w X → X.heap.size = w.heap.size + 3 → Calls Try.prog 143 #[.pointer (some ⟨pa, 0, none⟩), .pointer (some ⟨pb, 0, none⟩)] X (PartR_int g B b PR X)) :
    Calls Try.prog 142 #[.pointer (some ⟨g, 0, none⟩), .func (.func 143) #[] #[.pointer (some ⟨pa, 0, none⟩), .pointer (some ⟨pb, 0, none⟩)]] w (ReadR_int g B k b PR w) := by
  have hmf : ∀ (fn : Fn) (first cap : Array Value) (w : World), (Instr.makeFunc fn first cap).run Try.prog w = .ok (.func fn first cap) w := fun _ _ _ _ => rfl
  have HX := Lib.hid (((Kpc.start w).alloc #[.pointer (some ⟨g, 0, none⟩)] 53).alloc #[.int .i64 0] 3)
  rw [alloc_size'] at HX
  obtain ⟨hg, hBg, hk, -, -⟩ := h.lt
  have KE := Lib.hid (rd_Err (h.below HX.out.2.1))
  obtain ⟨A0, cc0, c0, c1, c2, -, -⟩ := (h.below HX.out.2.1).cells
  have x0 := (HX.out.tail.head.cell 0).trans rfl
  have HS2 : Hid (((w.alloc (.cells #[.pointer (some ⟨g, 0, none⟩)] 53)).alloc (.cells #[.int .i64 0] 3)).heap.size = w.heap.size + 2) := by
    show _ = _
    rw [alloc_size', alloc_size']
  have HR := Lib.hid h
  have KP := Lib.hid K
  clear h K
  go_enter_defers Try.func142, Try.ntmps142
  go_wp2_with fail
  refine (KE.out).mono ?_
  rintro e w' ⟨rfl, rfl⟩
  have HX3 := Lib.hid (HX.out.alloc #[.int .i64 (k : Nat)] 3)
  rw [HS2.out] at HX3
  have HS3 : Hid ((((w.alloc (.cells #[.pointer (some ⟨g, 0, none⟩)] 53)).alloc (.cells #[.int .i64 0] 3)).alloc (.cells #[.int .i64 (k : Nat)] 3)).heap.size = w.heap.size + 3) := by
    show _ = _
    rw [alloc_size', HS2.out]
  have KP1 := Lib.hid (KP.out _ (HR.out.below HX3.out.2.1) HX3.out.2.1 HS3.out)
  go_wp2_with fail
  refine (KP1.out).mono ?_
  rintro e X1 ⟨x, k2, e2, rfl, hR, hW, hPR⟩
  have B0 := Lib.hid (hW.box HX3.out.tail.tail.head (by omega))
  have B1 := Lib.hid (hW.box HX3.out.tail.head (by omega))
  have B2 := Lib.hid (hW.box HX3.out.head (by omega))
  have y1 := (B1.out.cell 0).trans rfl
  have yf := B1.out.free 0
  have HW := Lib.hid ((Wr.of g HX3.out.2.1).trans hW)
  have HR1 := Lib.hid hR
  have HP := Lib.hid hPR
  clear hR hW hPR x0 c0 c1 c2 KP1 KP KE HX HX3 HS2 HS3
  go_wp2
  have HRs := Lib.hid (HR1.out.wr (Wr.set (w.heap.size + 1) 0 X1 (.int .i64 x)) (by omega))
  have HB0 := Lib.hid (B0.out.off (p := ⟨w.heap.size + 1, 0, none⟩) (show w.heap.size + 1 ≠ w.heap.size by omega) (.int .i64 x))
  have HB1 := Lib.hid (B1.out.set 0 (.int .i64 x))
  have HB2 := Lib.hid (B2.out.off (p := ⟨w.heap.size + 1, 0, none⟩) (show w.heap.size + 1 ≠ w.heap.size + 2 by omega) (.int .i64 x))
  have HWs : Hid (Wr g w (X1.setCell ⟨w.heap.size + 1, 0, none⟩ (.int .i64 x))) := by
    have hw := HW.out
    refine ⟨hw.os, hw.tape, hw.output, by simp [World.setCell]; exact hw.size, fun j hj hjg => ?_⟩
    rw [Below.heap_setCell _ _ _ _ (by show j ≠ w.heap.size + 1; omega)]
    exact hw.block j hj hjg
  have HXs : Hid (X1.heap.size = (X1.setCell ⟨w.heap.size + 1, 0, none⟩ (.int .i64 x)).heap.size) := by (show _ = _; simp [World.setCell])
  have HXj : Hid (∀ j, w.heap.size + 2 < j → j ≠ g → (X1.setCell ⟨w.heap.size + 1, 0, none⟩ (.int .i64 x)).heap[j]? = X1.heap[j]?) := fun j hj _ => Below.heap_setCell _ _ _ _ (by show j ≠ w.heap.size + 1; omega)
  refine leaves_cons (f := 173) (args := #[.pointer (some ⟨w.heap.size, 0, none⟩), .pointer (some ⟨w.heap.size + 1 + 1, 0, none⟩), .pointer (some ⟨w.heap.size + 1, 0, none⟩)]) (by simp) (by simp [go_sem]) ?_
  have q0 := (HB0.out.cell 0).trans rfl
  have q1 := (HB1.out.cell 0).trans rfl
  have q2 := (HB2.out.cell 0).trans rfl
  by_cases he : e2 = 0
  · subst he
    refine (d_ok_int .returning HRs.out q0).mono ?_
    rintro e u' w'' ⟨rfl, rfl, rfl⟩
    refine ⟨.int .i64 x, ?_, x, k2, 0, X1, HP.out, HWs.out, HXs.out, HXj.out, fun _ => ⟨rfl, HRs.out⟩, fun h => absurd rfl h⟩
    simp only [results, show Try.f142.results = #[.cell 4 3] from rfl]
    go_simp
  · refine (d_bad_int .returning HRs.out he q0 q2 q1 (HB1.out.free 0) (by omega)).mono ?_
    rintro e u' w'' ⟨rfl, rfl, rfl⟩
    have HRz : RdAt (((X1.setCell ⟨w.heap.size + 1, 0, none⟩ (.int .i64 x)).setCell ⟨g, 1, none⟩ (.int .i64 (k : Nat))).setCell ⟨w.heap.size + 1, 0, none⟩ (.int .i64 0)) B g b k e2 := (HRs.out.to k hk).wr (Wr.set (w.heap.size + 1) 0 _ _) (by omega)
    have HWz : Wr g w (((X1.setCell ⟨w.heap.size + 1, 0, none⟩ (.int .i64 x)).setCell ⟨g, 1, none⟩ (.int .i64 (k : Nat))).setCell ⟨w.heap.size + 1, 0, none⟩ (.int .i64 0)) := by
      have hw := HWs.out.trans (Wr.set g 1 _ (.int .i64 (k : Nat)))
      refine ⟨hw.os, hw.tape, hw.output, by have := hw.size; simp [World.setCell] at this ⊢; exact this, fun j hj hjg => ?_⟩
      rw [Below.heap_setCell _ _ _ _ (by show j ≠ w.heap.size + 1; omega)]
      exact hw.block j hj hjg
    have q3 := ((HB1.out.off (p := ⟨g, 1, none⟩) (show g ≠ w.heap.size + 1 by omega) (.int .i64 (k : Nat))).set 0 (.int .i64 0)).cell 0
    refine ⟨.int .i64 0, ?_, x, k2, e2, X1, HP.out, HWz, ?_, fun j hj hjg => ?_, fun h => absurd h he, fun _ => ⟨rfl, HRz⟩⟩
    · simp only [results, show Try.f142.results = #[.cell 4 3] from rfl]
      simp at q3
      go_simp
    · rw [HXs.out]; simp [World.setCell]
    · rw [Below.heap_setCell _ _ _ _ (by show j ≠ w.heap.size + 1; omega), Below.heap_setCell _ _ _ _ hjg]
      exact HXj.out j hj hjg
set_option maxRecDepth 100000 in
set_option maxHeartbeats 4000000 in
theorem read_no_int {w : World} {B g k : Nat} {b : List Int} {e0 : Int} (h : RdAt w B g b k e0) (he : e0 ≠ 0) (fv : Value) :
    Calls Try.prog 142 #[.pointer (some ⟨g, 0, none⟩), fv] w fun e w' => e = .returned (.int .i64 0) ∧ RdAt w' B g b k e0 ∧ Wr g w w' := by
  have HX := Lib.hid (((Kpc.start w).alloc #[.pointer (some ⟨g, 0, none⟩)] 53).alloc #[.int .i64 0] 3)
  rw [alloc_size'] at HX
  have KE := Lib.hid (rd_Err (h.below HX.out.2.1))
  have x0 := (HX.out.tail.head.cell 0).trans rfl
  have x1 := (HX.out.head.cell 0).trans rfl
  have xf := HX.out.head.free 0
  have heb : (e0 != 0) = true := by simpa using he
  have HR := Lib.hid (h.below HX.out.2.1)
  clear h he
  go_enter_defers Try.func142, Try.ntmps142
  go_wp2_with fail
  refine (KE.out).mono ?_
  rintro e w' ⟨rfl, rfl⟩
  go_wp2
  refine ⟨.int .i64 0, ?_, rfl, HR.out, Wr.of g HX.out.2.1⟩
  simp only [results, show Try.f142.results = #[.cell 4 3] from rfl]
  go_simp
set_option maxRecDepth 100000 in
set_option maxHeartbeats 4000000 in
theorem read_nil_int (fv : Value) (w : World) :
    Calls Try.prog 142 #[.pointer none, fv] w fun e w' => e = .returned (.int .i64 0) ∧ Below w.heap.size w w' := by
  have HX := Lib.hid (((Kpc.start w).alloc #[.pointer none] 53).alloc #[.int .i64 0] 3)
  rw [alloc_size'] at HX
  have KE := Lib.hid (fun W => rd_Err_nil W)
  have x0 := (HX.out.tail.head.cell 0).trans rfl
  have x1 := (HX.out.head.cell 0).trans rfl
  have xf := HX.out.head.free 0
  go_enter_defers Try.func142, Try.ntmps142
  go_wp2_with fail
  refine (KE.out _).mono ?_
  rintro e w' ⟨rfl, rfl⟩
  go_wp2
  refine ⟨.int .i64 0, ?_, rfl, HX.out.2.1⟩
  simp only [results, show Try.f142.results = #[.cell 4 3] from rfl]
  go_simp
/-- what a part gives: a value, where it stands, how it failed -/
def PartR_bytes (g B : Nat) (b : List Int) (PR : Value → World → Nat → Int → Prop) (X : World) (e : Ending) (w' : World) : Prop :=
  ∃ (A : Option Addr) (m c : Nat) (k2 : Nat) (e2 : Int), e = .returned (.slice A m c) ∧ RdAt w' B g b k2 e2 ∧ Wr g X w' ∧ PR (.slice A m c) w' k2 e2
/-- what read gives -/
def ReadR_bytes (g B k : Nat) (b : List Int) (PR : Value → World → Nat → Int → Prop) (w : World) (e : Ending) (w' : World) : Prop :=
  ∃ (A : Option Addr) (m c : Nat) (k2 : Nat) (e2 : Int) (X1 : World), PR (.slice A m c) X1 k2 e2 ∧ Wr g w w' ∧ X1.heap.size = w'.heap.size ∧ (∀ j, w.heap.size + 2 < j → j ≠ g → w'.heap[j]? = X1.heap[j]?) ∧
    (e2 = 0 → e = .returned (.slice A m c) ∧ RdAt w' B g b k2 0) ∧ (e2 ≠ 0 → e = .returned (.slice none 0 0) ∧ RdAt w' B g b k e2)
theorem d_ok_bytes {X : World} {B g k2 rb ab gb : Nat} {b : List Int} (u : FrameMode) (h : RdAt X B g b k2 0) (hr : X.cell? ⟨rb, 0, none⟩ = some (.pointer (some ⟨g, 0, none⟩))) :
    CallsD Try.prog 171 #[.pointer (some ⟨rb, 0, none⟩), .pointer (some ⟨ab, 0, none⟩), .pointer (some ⟨gb, 0, none⟩)] u X fun e u' w' => u' = u ∧ (e = .returned (.tuple #[]) ∧ w' = X) := by
  obtain ⟨A, c, c0, c1, c2, f1, f2⟩ := h.cells
  clear h
  go_enter_d Try.func171, Try.ntmps171
  go_wp2
  go_end0
  exact ⟨rfl, rfl⟩
theorem d_bad_bytes {X : World} {B g k2 k rb ab gb : Nat} {b : List Int} {e2 : Int} {v : Value} (u : FrameMode) (h : RdAt X B g b k2 e2) (he : e2 ≠ 0) (hr : X.cell? ⟨rb, 0, none⟩ = some (.pointer (some ⟨g, 0, none⟩))) (ha : X.cell? ⟨ab, 0, none⟩ = some (.int .i64 (k : Nat))) (hg : X.cell? ⟨gb, 0, none⟩ = some v) (hgf : X.frozen? ⟨gb, 0, none⟩ = false) (hne : gb ≠ g) :
    CallsD Try.prog 171 #[.pointer (some ⟨rb, 0, none⟩), .pointer (some ⟨ab, 0, none⟩), .pointer (some ⟨gb, 0, none⟩)] u X fun e u' w' => u' = u ∧ (e = .returned (.tuple #[]) ∧ w' = (X.setCell ⟨g, 1, none⟩ (.int .i64 (k : Nat))).setCell ⟨gb, 0, none⟩ (.slice none 0 0)) := by
  obtain ⟨A, c, c0, c1, c2, f1, f2⟩ := h.cells
  have heb : (e2 != 0) = true := by simpa using he
  have hga : (X.setCell ⟨g, 1, none⟩ (.int .i64 (k : Nat))).cell? ⟨gb, 0, none⟩ = some v := by
    rw [World.cell?_setCell_other X ⟨g, 1, none⟩ ⟨gb, 0, none⟩ _ (by first | (simp; done) | (simp; omega))]; exact hg
  clear h he
  go_enter_d Try.func171, Try.ntmps171
  go_wp2
  go_end0
  exact ⟨rfl, rfl⟩
set_option maxRecDepth 100000 in
set_option maxHeartbeats 4000000 in
theorem read_ok_bytes {w : World} {B g k : Nat} {b : List Int} (pa pb : Nat) (PR : Value → World → Nat → Int → Prop) (h : RdAt w B g b k 0) (K : ∀ X, RdAt X B g b k 0 → Below w.heap.size w X → X.heap.size = w.heap.size + 3 → Calls Try.prog 137 #[.pointer (some ⟨pa, 0, none⟩), .pointer (some ⟨pb, 0, none⟩)] X (PartR_bytes g B b PR X)) :
    Calls Try.prog 136 #[.pointer (some ⟨g, 0, none⟩), .func (.func 137) #[] #[.pointer (some ⟨pa, 0, none⟩), .pointer (some ⟨pb, 0, none⟩)]] w (ReadR_bytes g B k b PR w) := by
  have hmf : ∀ (fn : Fn) (first cap : Array Value) (w : World), (Instr.makeFunc fn first cap).run Try.prog w = .ok (.func fn first cap) w := fun _ _ _ _ => rfl
  have HX := Lib.hid (((Kpc.start w).alloc #[.pointer (some ⟨g, 0, none⟩)] 53).alloc #[.slice none 0 0] 51)
  rw [alloc_size'] at HX
  obtain ⟨hg, hBg, hk, -, -⟩ := h.lt
  have KE := Lib.hid (rd_Err (h.below HX.out.2.1))
  obtain ⟨A0, cc0, c0, c1, c2, -, -⟩ := (h.below HX.out.2.1).cells
  have x0 := (HX.out.tail.head.cell 0).trans rfl
  have HS2 : Hid (((w.alloc (.cells #[.pointer (some ⟨g, 0, none⟩)] 53)).alloc (.cells #[.slice none 0 0] 51)).heap.size = w.heap.size + 2) := by
    show _ = _
    rw [alloc_size', alloc_size']
  have HR := Lib.hid h
  have KP := Lib.hid K
  clear h K
  go_enter_defers Try.func136, Try.ntmps136
  go_wp2_with fail
  refine (KE.out).mono ?_
  rintro e w' ⟨rfl, rfl⟩
  have HX3 := Lib.hid (HX.out.alloc #[.int .i64 (k : Nat)] 3)
  rw [HS2.out] at HX3
  have HS3 : Hid ((((w.alloc (.cells #[.pointer (some ⟨g, 0, none⟩)] 53)).alloc (.cells #[.slice none 0 0] 51)).alloc (.cells #[.int .i64 (k : Nat)] 3)).heap.size = w.heap.size + 3) := by
    show _ = _
    rw [alloc_size', HS2.out]
  have KP1 := Lib.hid (KP.out _ (HR.out.below HX3.out.2.1) HX3.out.2.1 HS3.out)
  go_wp2_with fail
  refine (KP1.out).mono ?_
  rintro e X1 ⟨A, m, c, k2, e2, rfl, hR, hW, hPR⟩
  have B0 := Lib.hid (hW.box HX3.out.tail.tail.head (by omega))
  have B1 := Lib.hid (hW.box HX3.out.tail.head (by omega))
  have B2 := Lib.hid (hW.box HX3.out.head (by omega))
  have y1 := (B1.out.cell 0).trans rfl
  have yf := B1.out.free 0
  have HW := Lib.hid ((Wr.of g HX3.out.2.1).trans hW)
  have HR1 := Lib.hid hR
  have HP := Lib.hid hPR
  clear hR hW hPR x0 c0 c1 c2 KP1 KP KE HX HX3 HS2 HS3
  go_wp2
  have HRs := Lib.hid (HR1.out.wr (Wr.set (w.heap.size + 1) 0 X1 (.slice A m c)) (by omega))
  have HB0 := Lib.hid (B0.out.off (p := ⟨w.heap.size + 1, 0, none⟩) (show w.heap.size + 1 ≠ w.heap.size by omega) (.slice A m c))
  have HB1 := Lib.hid (B1.out.set 0 (.slice A m c))
  have HB2 := Lib.hid (B2.out.off (p := ⟨w.heap.size + 1, 0, none⟩) (show w.heap.size + 1 ≠ w.heap.size + 2 by omega) (.slice A m c))
  have HWs : Hid (Wr g w (X1.setCell ⟨w.heap.size + 1, 0, none⟩ (.slice A m c))) := by
    have hw := HW.out
    refine ⟨hw.os, hw.tape, hw.output, by simp [World.setCell]; exact hw.size, fun j hj hjg => ?_⟩
    rw [Below.heap_setCell _ _ _ _ (by show j ≠ w.heap.size + 1; omega)]
    exact hw.block j hj hjg
  have HXs : Hid (X1.heap.size = (X1.setCell ⟨w.heap.size + 1, 0, none⟩ (.slice A m c)).heap.size) := by (show _ = _; simp [World.setCell])
  have HXj : Hid (∀ j, w.heap.size + 2 < j → j ≠ g → (X1.setCell ⟨w.heap.size + 1, 0, none⟩ (.slice A m c)).heap[j]? = X1.heap[j]?) := fun j hj _ => Below.heap_setCell _ _ _ _ (by show j ≠ w.heap.size + 1; omega)
  refine leaves_cons (f := 171) (args := #[.pointer (some ⟨w.heap.size, 0, none⟩), .pointer (some ⟨w.heap.size + 1 + 1, 0, none⟩), .pointer (some ⟨w.heap.size + 1, 0, none⟩)]) (by simp) (by simp [go_sem]) ?_
  have q0 := (HB0.out.cell 0).trans rfl
  have q1 := (HB1.out.cell 0).trans rfl
  have q2 := (HB2.out.cell 0).trans rfl
  by_cases he : e2 = 0
  · subst he
    refine (d_ok_bytes .returning HRs.out q0).mono ?_
    rintro e u' w'' ⟨rfl, rfl, rfl⟩
    refine ⟨.slice A m c, ?_, A, m, c, k2, 0, X1, HP.out, HWs.out, HXs.out, HXj.out, fun _ => ⟨rfl, HRs.out⟩, fun h => absurd rfl h⟩
    simp only [results, show Try.f136.results = #[.cell 4 51] from rfl]
    go_simp
  · refine (d_bad_bytes .returning HRs.out he q0 q2 q1 (HB1.out.free 0) (by omega)).mono ?_
    rintro e u' w'' ⟨rfl, rfl, rfl⟩
    have HRz : RdAt (((X1.setCell ⟨w.heap.size + 1, 0, none⟩ (.slice A m c)).setCell ⟨g, 1, none⟩ (.int .i64 (k : Nat))).setCell ⟨w.heap.size + 1, 0, none⟩ (.slice none 0 0)) B g b k e2 := (HRs.out.to k hk).wr (Wr.set (w.heap.size + 1) 0 _ _) (by omega)
    have HWz : Wr g w (((X1.setCell ⟨w.heap.size + 1, 0, none⟩ (.slice A m c)).setCell ⟨g, 1, none⟩ (.int .i64 (k : Nat))).setCell ⟨w.heap.size + 1, 0, none⟩ (.slice none 0 0)) := by
      have hw := HWs.out.trans (Wr.set g 1 _ (.int .i64 (k : Nat)))
      refine ⟨hw.os, hw.tape, hw.output, by have := hw.size; simp [World.setCell] at this ⊢; exact this, fun j hj hjg => ?_⟩
      rw [Below.heap_setCell _ _ _ _ (by show j ≠ w.heap.size + 1; omega)]
      exact hw.block j hj hjg
    have q3 := ((HB1.out.off (p := ⟨g, 1, none⟩) (show g ≠ w.heap.size + 1 by omega) (.int .i64 (k : Nat))).set 0 (.slice none 0 0)).cell 0
    refine ⟨.slice none 0 0, ?_, A, m, c, k2, e2, X1, HP.out, HWz, ?_, fun j hj hjg => ?_, fun h => absurd h he, fun _ => ⟨rfl, HRz⟩⟩
    · simp only [results, show Try.f136.results = #[.cell 4 51] from rfl]
      simp at q3
      go_simp
    · rw [HXs.out]; simp [World.setCell]
    · rw [Below.heap_setCell _ _ _ _ (by show j ≠ w.heap.size + 1; omega), Below.heap_setCell _ _ _ _ hjg]
      exact HXj.out j hj hjg
set_option maxRecDepth 100000 in
set_option maxHeartbeats 4000000 in
theorem read_no_bytes {w : World} {B g k : Nat} {b : List Int} {e0 : Int} (h : RdAt w B g b k e0) (he : e0 ≠ 0) (fv : Value) :
    Calls Try.prog 136 #[.pointer (some ⟨g, 0, none⟩), fv] w fun e w' => e = .returned (.slice none 0 0) ∧ RdAt w' B g b k e0 ∧ Wr g w w' := by
  have HX := Lib.hid (((Kpc.start w).alloc #[.pointer (some ⟨g, 0, none⟩)] 53).alloc #[.slice none 0 0] 51)
  rw [alloc_size'] at HX
  have KE := Lib.hid (rd_Err (h.below HX.out.2.1))
  have x0 := (HX.out.tail.head.cell 0).trans rfl
  have x1 := (HX.out.head.cell 0).trans rfl
  have xf := HX.out.head.free 0
  have heb : (e0 != 0) = true := by simpa using he
  have HR := Lib.hid (h.below HX.out.2.1)
  clear h he
  go_enter_defers Try.func136, Try.ntmps136
  go_wp2_with fail
  refine (KE.out).mono ?_
  rintro e w' ⟨rfl, rfl⟩
  go_wp2
  refine ⟨.slice none 0 0, ?_, rfl, HR.out, Wr.of g HX.out.2.1⟩
  simp only [results, show Try.f136.results = #[.cell 4 51] from rfl]
  go_simp
set_option maxRecDepth 100000 in
set_option maxHeartbeats 4000000 in
theorem read_nil_bytes (fv : Value) (w : World) :
    Calls Try.prog 136 #[.pointer none, fv] w fun e w' => e = .returned (.slice none 0 0) ∧ Below w.heap.size w w' := by
  have HX := Lib.hid (((Kpc.start w).alloc #[.pointer none] 53).alloc #[.slice none 0 0] 51)
  rw [alloc_size'] at HX
  have KE := Lib.hid (fun W => rd_Err_nil W)
  have x0 := (HX.out.tail.head.cell 0).trans rfl
  have x1 := (HX.out.head.cell 0).trans rfl
  have xf := HX.out.head.free 0
  go_enter_defers Try.func136, Try.ntmps136
  go_wp2_with fail
  refine (KE.out _).mono ?_
  rintro e w' ⟨rfl, rfl⟩
  go_wp2
  refine ⟨.slice none 0 0, ?_, rfl, HX.out.2.1⟩
  simp only [results, show Try.f136.results = #[.cell 4 51] from rfl]
  go_simp
/-- what a part gives: a value, where it stands, how it failed -/
def PartR_ints (g B : Nat) (b : List Int) (PR : Value → World → Nat → Int → Prop) (X : World) (e : Ending) (w' : World) : Prop :=
  ∃ (A : Option Addr) (m c : Nat) (k2 : Nat) (e2 : Int), e = .returned (.slice A m c) ∧ RdAt w' B g b k2 e2 ∧ Wr g X w' ∧ PR (.slice A m c) w' k2 e2
/-- what read gives -/
def ReadR_ints (g B k : Nat) (b : List Int) (PR : Value → World → Nat → Int → Prop) (w : World) (e : Ending) (w' : World) : Prop :=
  ∃ (A : Option Addr) (m c : Nat) (k2 : Nat) (e2 : Int) (X1 : World), PR (.slice A m c) X1 k2 e2 ∧ Wr g w w' ∧ X1.heap.size = w'.heap.size ∧ (∀ j, w.heap.size + 2 < j → j ≠ g → w'.heap[j]? = X1.heap[j]?) ∧
    (e2 = 0 → e = .returned (.slice A m c) ∧ RdAt w' B g b k2 0) ∧ (e2 ≠ 0 → e = .returned (.slice none 0 0) ∧ RdAt w' B g b k e2)
theorem d_ok_ints {X : World} {B g k2 rb ab gb : Nat} {b : List Int} (u : FrameMode) (h : RdAt X B g b k2 0) (hr : X.cell? ⟨rb, 0, none⟩ = some (.pointer (some ⟨g, 0, none⟩))) :
    CallsD Try.prog 172 #[.pointer (some ⟨rb, 0, none⟩), .pointer (some ⟨ab, 0, none⟩), .pointer (some ⟨gb, 0, none⟩)] u X fun e u' w' => u' = u ∧ (e = .returned (.tuple #[]) ∧ w' = X) := by
  obtain ⟨A, c, c0, c1, c2, f1, f2⟩ := h.cells
  clear h
  go_enter_d Try.func172, Try.ntmps172
  go_wp2
  go_end0
  exact ⟨rfl, rfl⟩
theorem d_bad_ints {X : World} {B g k2 k rb ab gb : Nat} {b : List Int} {e2 : Int} {v : Value} (u : FrameMode) (h : RdAt X B g b k2 e2) (he : e2 ≠ 0) (hr : X.cell? ⟨rb, 0, none⟩ = some (.pointer (some ⟨g, 0, none⟩))) (ha : X.cell? ⟨ab, 0, none⟩ = some (.int .i64 (k : Nat))) (hg : X.cell? ⟨gb, 0, none⟩ = some v) (hgf : X.frozen? ⟨gb, 0, none⟩ = false) (hne : gb ≠ g) :
    CallsD Try.prog 172 #[.pointer (some ⟨rb, 0, none⟩), .pointer (some ⟨ab, 0, none⟩), .pointer (some ⟨gb, 0, none⟩)] u X fun e u' w' => u' = u ∧ (e = .returned (.tuple #[]) ∧ w' = (X.setCell ⟨g, 1, none⟩ (.int .i64 (k : Nat))).setCell ⟨gb, 0, none⟩ (.slice none 0 0)) := by
  obtain ⟨A, c, c0, c1, c2, f1, f2⟩ := h.cells
  have heb : (e2 != 0) = true := by simpa using he
  have hga : (X.setCell ⟨g, 1, none⟩ (.int .i64 (k : Nat))).cell? ⟨gb, 0, none⟩ = some v := by
    rw [World.cell?_setCell_other X ⟨g, 1, none⟩ ⟨gb, 0, none⟩ _ (by first | (simp; done) | (simp; omega))]; exact hg
  clear h he
  go_enter_d Try.func172, Try.ntmps172
  go_wp2
  go_end0
  exact ⟨rfl, rfl⟩
set_option maxRecDepth 100000 in
set_option maxHeartbeats 4000000 in
theorem read_ok_ints {w : World} {B g k : Nat} {b : List Int} (pa pb : Nat) (PR : Value → World → Nat → Int → Prop) (h : RdAt w B g b k 0) (K : ∀ X, RdAt X B g b k 0 → Below w.heap.size w X → X.heap.size = w.heap.size + 3 → Calls Try.prog 140 #[.pointer (some ⟨pa, 0, none⟩), .pointer (some ⟨pb, 0, none⟩)] X (PartR_ints g B b PR X)) :
    Calls Try.prog 139 #[.pointer (some ⟨g, 0, none⟩), .func (.func 140) #[] #[.pointer (some ⟨pa, 0, none⟩), .pointer (some ⟨pb, 0, none⟩)]] w (ReadR_ints g B k b PR w) := by
  have hmf : ∀ (fn : Fn) (first cap : Array Value) (w : World), (Instr.makeFunc fn first cap).run Try.prog w = .ok (.func fn first cap) w := fun _ _ _ _ => rfl
  have HX := Lib.hid (((Kpc.start w).alloc #[.pointer (some ⟨g, 0, none⟩)] 53).alloc #[.slice none 0 0] 73)
  rw [alloc_size'] at HX
  obtain ⟨hg, hBg, hk, -, -⟩ := h.lt
  have KE := Lib.hid (rd_Err (h.below HX.out.2.1))
  obtain ⟨A0, cc0, c0, c1, c2, -, -⟩ := (h.below HX.out.2.1).cells
  have x0 := (HX.out.tail.head.cell 0).trans rfl
  have HS2 : Hid (((w.alloc (.cells #[.pointer (some ⟨g, 0, none⟩)] 53)).alloc (.cells #[.slice none 0 0] 73)).heap.size = w.heap.size + 2) := by
    show _ = _
    rw [alloc_size', alloc_size']
  have HR := Lib.hid h
  have KP := Lib.hid K
  clear h K
  go_enter_defers Try.func139, Try.ntmps139
  go_wp2_with fail
  refine (KE.out).mono ?_
  rintro e w' ⟨rfl, rfl⟩
  have HX3 := Lib.hid (HX.out.alloc #[.int .i64 (k : Nat)] 3)
  rw [HS2.out] at HX3
  have HS3 : Hid ((((w.alloc (.cells #[.pointer (some ⟨g, 0, none⟩)] 53)).alloc (.cells #[.slice none 0 0] 73)).alloc (.cells #[.int .i64 (k : Nat)] 3)).heap.size = w.heap.size + 3) := by
    show _ = _
    rw [alloc_size', HS2.out]
  have KP1 := Lib.hid (KP.out _ (HR.out.below HX3.out.2.1) HX3.out.2.1 HS3.out)
  go_wp2_with fail
  refine (KP1.out).mono ?_
  rintro e X1 ⟨A, m, c, k2, e2, rfl, hR, hW, hPR⟩
  have B0 := Lib.hid (hW.box HX3.out.tail.tail.head (by omega))
  have B1 := Lib.hid (hW.box HX3.out.tail.head (by omega))
  have B2 := Lib.hid (hW.box HX3.out.head (by omega))
  have y1 := (B1.out.cell 0).trans rfl
  have yf := B1.out.free 0
  have HW := Lib.hid ((Wr.of g HX3.out.2.1).trans hW)
  have HR1 := Lib.hid hR
  have HP := Lib.hid hPR
  clear hR hW hPR x0 c0 c1 c2 KP1 KP KE HX HX3 HS2 HS3
  go_wp2
  have HRs := Lib.hid (HR1.out.wr (Wr.set (w.heap.size + 1) 0 X1 (.slice A m c)) (by omega))
  have HB0 := Lib.hid (B0.out.off (p := ⟨w.heap.size + 1, 0, none⟩) (show w.heap.size + 1 ≠ w.heap.size by omega) (.slice A m c))
  have HB1 := Lib.hid (B1.out.set 0 (.slice A m c))
  have HB2 := Lib.hid (B2.out.off (p := ⟨w.heap.size + 1, 0, none⟩) (show w.heap.size + 1 ≠ w.heap.size + 2 by omega) (.slice A m c))
  have HWs : Hid (Wr g w (X1.setCell ⟨w.heap.size + 1, 0, none⟩ (.slice A m c))) := by
    have hw := HW.out
    refine ⟨hw.os, hw.tape, hw.output, by simp [World.setCell]; exact hw.size, fun j hj hjg => ?_⟩
    rw [Below.heap_setCell _ _ _ _ (by show j ≠ w.heap.size + 1; omega)]
    exact hw.block j hj hjg
  have HXs : Hid (X1.heap.size = (X1.setCell ⟨w.heap.size + 1, 0, none⟩ (.slice A m c)).heap.size) := by (show _ = _; simp [World.setCell])
  have HXj : Hid (∀ j, w.heap.size + 2 < j → j ≠ g → (X1.setCell ⟨w.heap.size + 1, 0, none⟩ (.slice A m c)).heap[j]? = X1.heap[j]?) := fun j hj _ => Below.heap_setCell _ _ _ _ (by show j ≠ w.heap.size + 1; omega)
  refine leaves_cons (f := 172) (args := #[.pointer (some ⟨w.heap.size, 0, none⟩), .pointer (some ⟨w.heap.size + 1 + 1, 0, none⟩), .pointer (some ⟨w.heap.size + 1, 0, none⟩)]) (by simp) (by simp [go_sem]) ?_
  have q0 := (HB0.out.cell 0).trans rfl
  have q1 := (HB1.out.cell 0).trans rfl
  have q2 := (HB2.out.cell 0).trans rfl
  by_cases he : e2 = 0
  · subst he
    refine (d_ok_ints .returning HRs.out q0).mono ?_
    rintro e u' w'' ⟨rfl, rfl, rfl⟩
    refine ⟨.slice A m c, ?_, A, m, c, k2, 0, X1, HP.out, HWs.out, HXs.out, HXj.out, fun _ => ⟨rfl, HRs.out⟩, fun h => absurd rfl h⟩
    simp only [results, show Try.f139.results = #[.cell 4 73] from rfl]
    go_simp
  · refine (d_bad_ints .returning HRs.out he q0 q2 q1 (HB1.out.free 0) (by omega)).mono ?_
    rintro e u' w'' ⟨rfl, rfl, rfl⟩
    have HRz : RdAt (((X1.setCell ⟨w.heap.size + 1, 0, none⟩ (.slice A m c)).setCell ⟨g, 1, none⟩ (.int .i64 (k : Nat))).setCell ⟨w.heap.size + 1, 0, none⟩ (.slice none 0 0)) B g b k e2 := (HRs.out.to k hk).wr (Wr.set (w.heap.size + 1) 0 _ _) (by omega)
    have HWz : Wr g w (((X1.setCell ⟨w.heap.size + 1, 0, none⟩ (.slice A m c)).setCell ⟨g, 1, none⟩ (.int .i64 (k : Nat))).setCell ⟨w.heap.size + 1, 0, none⟩ (.slice none 0 0)) := by
      have hw := HWs.out.trans (Wr.set g 1 _ (.int .i64 (k : Nat)))
      refine ⟨hw.os, hw.tape, hw.output, by have := hw.size; simp [World.setCell] at this ⊢; exact this, fun j hj hjg => ?_⟩
      rw [Below.heap_setCell _ _ _ _ (by show j ≠ w.heap.size + 1; omega)]
      exact hw.block j hj hjg
    have q3 := ((HB1.out.off (p := ⟨g, 1, none⟩) (show g ≠ w.heap.size + 1 by omega) (.int .i64 (k : Nat))).set 0 (.slice none 0 0)).cell 0
    refine ⟨.slice none 0 0, ?_, A, m, c, k2, e2, X1, HP.out, HWz, ?_, fun j hj hjg => ?_, fun h => absurd h he, fun _ => ⟨rfl, HRz⟩⟩
    · simp only [results, show Try.f139.results = #[.cell 4 73] from rfl]
      simp at q3
      go_simp
    · rw [HXs.out]; simp [World.setCell]
    · rw [Below.heap_setCell _ _ _ _ (by show j ≠ w.heap.size + 1; omega), Below.heap_setCell _ _ _ _ hjg]
      exact HXj.out j hj hjg
set_option maxRecDepth 100000 in
set_option maxHeartbeats 4000000 in
theorem read_no_ints {w : World} {B g k : Nat} {b : List Int} {e0 : Int} (h : RdAt w B g b k e0) (he : e0 ≠ 0) (fv : Value) :
    Calls Try.prog 139 #[.pointer (some ⟨g, 0, none⟩), fv] w fun e w' => e = .returned (.slice none 0 0) ∧ RdAt w' B g b k e0 ∧ Wr g w w' := by
  have HX := Lib.hid (((Kpc.start w).alloc #[.pointer (some ⟨g, 0, none⟩)] 53).alloc #[.slice none 0 0] 73)
  rw [alloc_size'] at HX
  have KE := Lib.hid (rd_Err (h.below HX.out.2.1))
  have x0 := (HX.out.tail.head.cell 0).trans rfl
  have x1 := (HX.out.head.cell 0).trans rfl
  have xf := HX.out.head.free 0
  have heb : (e0 != 0) = true := by simpa using he
  have HR := Lib.hid (h.below HX.out.2.1)
  clear h he
  go_enter_defers Try.func139, Try.ntmps139
  go_wp2_with fail
  refine (KE.out).mono ?_
  rintro e w' ⟨rfl, rfl⟩
  go_wp2
  refine ⟨.slice none 0 0, ?_, rfl, HR.out, Wr.of g HX.out.2.1⟩
  simp only [results, show Try.f139.results = #[.cell 4 73] from rfl]
  go_simp
set_option maxRecDepth 100000 in
set_option maxHeartbeats 4000000 in
theorem read_nil_ints (fv : Value) (w : World) :
    Calls Try.prog 139 #[.pointer none, fv] w fun e w' => e = .returned (.slice none 0 0) ∧ Below w.heap.size w w' := by
  have HX := Lib.hid (((Kpc.start w).alloc #[.pointer none] 53).alloc #[.slice none 0 0] 73)
  rw [alloc_size'] at HX
  have KE := Lib.hid (fun W => rd_Err_nil W)
  have x0 := (HX.out.tail.head.cell 0).trans rfl
  have x1 := (HX.out.head.cell 0).trans rfl
  have xf := HX.out.head.free 0
  go_enter_defers Try.func139, Try.ntmps139
  go_wp2_with fail
  refine (KE.out _).mono ?_
  rintro e w' ⟨rfl, rfl⟩
  go_wp2
  refine ⟨.slice none 0 0, ?_, rfl, HX.out.2.1⟩
  simp only [results, show Try.f139.results = #[.cell 4 73] from rfl]
  go_simp
end Go.Proofs.Ytkfmebdpfjjkjaa
