import Derived.Test.YteenemdiokajbaaTreeS

/-! Layer 10: spans in the memory; an inner node. -/
namespace Go.Proofs.Yteenemdiokajbaa
open Go.RowKit
set_option linter.unusedVariables false
set_option linter.unusedSimpArgs false

def spC (S : List (Int × Int)) : List Value := S.flatMap fun p => [.int .i64 p.1, .int .i64 p.2]
/-- block g holds these spans -/
def OwnS (w : World) (g : Nat) (S : List (Int × Int)) : Prop := Box w g (spC S).toArray 121
theorem spC_len (S : List (Int × Int)) : (spC S).length = S.length * 2 := by
  induction S with
  | nil => rfl
  | cons p S ih => show (spC S).length + 2 = _; rw [ih, List.length_cons]; omega
theorem spC_get (S : List (Int × Int)) : ∀ k, k < S.length → (spC S)[k * 2]? = some (.int .i64 (S.getD k (0, 0)).1) ∧ (spC S)[k * 2 + 1]? = some (.int .i64 (S.getD k (0, 0)).2) := by
  induction S with
  | nil => intro k hk; simp at hk
  | cons p S ih =>
    intro k hk
    cases k with
    | zero => exact ⟨rfl, rfl⟩
    | succ k =>
      have h := ih k (by simpa using hk)
      have e1 : (k + 1) * 2 = k * 2 + 1 + 1 := by omega
      show ((Value.int .i64 p.1) :: (Value.int .i64 p.2) :: spC S)[(k + 1) * 2]? = _ ∧ ((Value.int .i64 p.1) :: (Value.int .i64 p.2) :: spC S)[(k + 1) * 2 + 1]? = _
      rw [e1]
      simpa using h
theorem OwnS.at {w : World} {g : Nat} {S : List (Int × Int)} (h : OwnS w g S) {k : Nat} (hk : k < S.length) :
    w.cell? ⟨g, k * 2, none⟩ = some (.int .i64 (S.getD k (0, 0)).1) ∧ w.cell? ⟨g, k * 2 + 1, none⟩ = some (.int .i64 (S.getD k (0, 0)).2) := by
  obtain ⟨h1, h2⟩ := spC_get S k hk
  exact ⟨(h.cell (k * 2)).trans (by simpa using h1), (h.cell (k * 2 + 1)).trans (by simpa using h2)⟩
/-- what 'inner' tells of node i -/
def innBad (N : List TN) (S : List (Int × Int)) (i : Nat) : Prop := (i : Int) = N.length - 1 ∨ ¬ (N.getD i tn0).lf = (i : Int) + 1 ∨ ¬ (N.getD i tn0).rt = (S.getD (i + 1) (0, 0)).1 ∨ (N.length : Int) - 1 < (N.getD i tn0).rt
/-! ### the cases -/
theorem i64wT {i : Nat} (h : i ≤ 100000) : IntKind.i64.wrap ((i : Int) + 1) = (i : Int) + 1 := by
  simp [IntKind.wrap, IntKind.bits, IntKind.signed]
  try omega
theorem Kpc.drewN {B : Nat} {W w : World} {l : List (Nat × Array Value × TypeId)} (h : Kpc B W l w) (n : Nat) : Kpc B W l (w.drewN n) := ⟨fun x hx => h.1 x hx, below_drewN2 h.2.1 n, h.2.2⟩

set_option maxRecDepth 100000 in
set_option maxHeartbeats 8000000 in
theorem inner_last (N : List TN) (S : List (Int × Int)) (dim : Int) (A : Option Addr) (c B g i : Nat) (w : World) (hl : N.length ≤ 1000) (hA : LiesT w B A N) (hB : B ≤ w.heap.size) (hi : i < N.length) (hS : OwnS w g S) (hSl : S.length = N.length) (hlast : (i : Int) = N.length - 1) :
    Calls Try.prog 78 #[.agg #[.int .i64 dim, .slice A N.length c], .int .i64 i, .slice (some ⟨g, 0, none⟩) N.length N.length] w fun e w' => e = .returned (.tuple #[.agg #[.int .i64 0, .int .i64 0], .bool false]) ∧ Below w.heap.size w w' := by
  have HX := Lib.hid (((Kpc.start w).alloc #[.int .i64 dim, .slice A N.length c] 24).alloc #[.int .i64 0, .int .i64 0] 121)
  rw [alloc_size'] at HX
  obtain ⟨ad1, e1, _, ⟨c0, c1, c2, c3, c4⟩, hli⟩ := (hA.below (HX.out.2.1.mono hB)).at hi
  subst e1
  have HZ := Lib.hid (HX.out.alloc #[.slice none 0 0, .int .i64 0, .int .i64 0, .int .i64 0, .int .i64 0] 81)
  obtain ⟨ad2, e2, _, ⟨d0, d1, d2, d3, d4⟩, _⟩ := (hA.below (HZ.out.2.1.mono hB)).at hi
  cases e2
  have HSA := Lib.hid (fun W (h : Below w.heap.size w W) k (hk : k < N.length) => (show OwnS W g S from Box.below hS h hS.lt).at (k := k) (by omega))
  obtain ⟨x0, x1⟩ := box_cut HX.out.head
  obtain ⟨y0, y1⟩ := box_cut HX.out.tail.head
  generalize N.getD i tn0 = n at *
  obtain ⟨na, nc, nco, nlv, nlf, nrt, nsz⟩ := n
  simp only at *
  obtain ⟨v0, v1⟩ := box_cut HZ.out.tail.tail.head
  clear hA hS
  generalize nco.length = L at *
  generalize hM : N.length = M at *
  clear hM
  have hg : (i : Int) < (M : Int) := by omega
  have hq : ((i : Int) == (M : Int) - 1) = true := by rw [beq_iff_eq]; exact hlast
  clear hlast
  go_enter Try.func78, Try.ntmps78
  go_wp2
  go_region
  have J0 := Lib.hid (HX.out.alloc #[.slice na L nc, .int .i64 nlv, .int .i64 nlf, .int .i64 nrt, .int .i64 nsz] 81)
  have J := Lib.hid J0.out.drew
  rw [alloc_size', alloc_size'] at J
  clear J0
  generalize ((((w.alloc (.cells #[.int .i64 dim, .slice (some ad1) M c] 24)).alloc (.cells #[.int .i64 0, .int .i64 0] 121)).alloc (.cells #[.slice na L nc, .int .i64 nlv, .int .i64 nlf, .int .i64 nrt, .int .i64 nsz] 81)).drew) = W1 at *
  obtain ⟨z0, z1, z2, z3, z4⟩ := box5' J.out.head
  obtain ⟨x0, x1, xf0, xf1⟩ := J.out.tail.head.two
  obtain ⟨y0, y1⟩ := box_cut J.out.tail.tail.head
  go_wp2
  go_quiet (fail)
  go_wp2
  obtain ⟨⟨k0, k1⟩, bz⟩ := Kpc.set2 (J.out.tail.drewN nq) (by omega) (.int .i64 0) (.int .i64 0)
  refine bodyPost_ret (v := .tuple #[.agg #[.int .i64 0, .int .i64 0], .bool false]) ?_ rfl ?_
  · simp [results, Try.results78, go_sem, k0, k1]
  · exact ⟨rfl, bz⟩

set_option maxRecDepth 100000 in
set_option maxHeartbeats 8000000 in
theorem inner_left (N : List TN) (S : List (Int × Int)) (dim : Int) (A : Option Addr) (c B g i : Nat) (w : World) (hl : N.length ≤ 1000) (hA : LiesT w B A N) (hB : B ≤ w.heap.size) (hi : i < N.length) (hS : OwnS w g S) (hSl : S.length = N.length) (hlast : ¬ (i : Int) = N.length - 1) (hlf : ¬ (N.getD i tn0).lf = (i : Int) + 1) :
    Calls Try.prog 78 #[.agg #[.int .i64 dim, .slice A N.length c], .int .i64 i, .slice (some ⟨g, 0, none⟩) N.length N.length] w fun e w' => e = .returned (.tuple #[.agg #[.int .i64 0, .int .i64 0], .bool false]) ∧ Below w.heap.size w w' := by
  have HX := Lib.hid (((Kpc.start w).alloc #[.int .i64 dim, .slice A N.length c] 24).alloc #[.int .i64 0, .int .i64 0] 121)
  rw [alloc_size'] at HX
  obtain ⟨ad1, e1, _, ⟨c0, c1, c2, c3, c4⟩, hli⟩ := (hA.below (HX.out.2.1.mono hB)).at hi
  subst e1
  have HZ := Lib.hid (HX.out.alloc #[.slice none 0 0, .int .i64 0, .int .i64 0, .int .i64 0, .int .i64 0] 81)
  obtain ⟨ad2, e2, _, ⟨d0, d1, d2, d3, d4⟩, _⟩ := (hA.below (HZ.out.2.1.mono hB)).at hi
  cases e2
  have HSA := Lib.hid (fun W (h : Below w.heap.size w W) k (hk : k < N.length) => (show OwnS W g S from Box.below hS h hS.lt).at (k := k) (by omega))
  obtain ⟨x0, x1⟩ := box_cut HX.out.head
  obtain ⟨y0, y1⟩ := box_cut HX.out.tail.head
  generalize N.getD i tn0 = n at *
  obtain ⟨na, nc, nco, nlv, nlf, nrt, nsz⟩ := n
  simp only at *
  obtain ⟨v0, v1⟩ := box_cut HZ.out.tail.tail.head
  clear hA hS
  generalize nco.length = L at *
  generalize hM : N.length = M at *
  clear hM
  have hg : (i : Int) < (M : Int) := by omega
  have hq : ((i : Int) == (M : Int) - 1) = false := by rw [beq_eq_false_iff_ne]; exact hlast
  have hq2 : decide ((i : Int) = (M : Int) - 1) = false := decide_eq_false hlast
  have hq3 : ¬ (i : Int) = (M : Int) - 1 := hlast
  have hwi := i64wT (i := i) (by omega)
  clear hlast
  have hf1 : (nlf != (i : Int) + 1) = true := by simpa using hlf
  go_enter Try.func78, Try.ntmps78
  go_wp2
  go_region
  have J0 := Lib.hid (HX.out.alloc #[.slice na L nc, .int .i64 nlv, .int .i64 nlf, .int .i64 nrt, .int .i64 nsz] 81)
  have J := Lib.hid J0.out.drew
  rw [alloc_size', alloc_size'] at J
  clear J0
  generalize ((((w.alloc (.cells #[.int .i64 dim, .slice (some ad1) M c] 24)).alloc (.cells #[.int .i64 0, .int .i64 0] 121)).alloc (.cells #[.slice na L nc, .int .i64 nlv, .int .i64 nlf, .int .i64 nrt, .int .i64 nsz] 81)).drew) = W1 at *
  obtain ⟨z0, z1, z2, z3, z4⟩ := box5' J.out.head
  obtain ⟨x0, x1, xf0, xf1⟩ := J.out.tail.head.two
  obtain ⟨y0, y1⟩ := box_cut J.out.tail.tail.head
  go_wp2
  go_quiet (fail)
  go_wp2
  obtain ⟨⟨k0, k1⟩, bz⟩ := Kpc.set2 (J.out.tail.drewN nq) (by omega) (.int .i64 0) (.int .i64 0)
  refine bodyPost_ret (v := .tuple #[.agg #[.int .i64 0, .int .i64 0], .bool false]) ?_ rfl ?_
  · simp [results, Try.results78, go_sem, k0, k1]
  · exact ⟨rfl, bz⟩

set_option maxRecDepth 100000 in
set_option maxHeartbeats 8000000 in
theorem inner_right (N : List TN) (S : List (Int × Int)) (dim : Int) (A : Option Addr) (c B g i : Nat) (w : World) (hl : N.length ≤ 1000) (hA : LiesT w B A N) (hB : B ≤ w.heap.size) (hi : i < N.length) (hS : OwnS w g S) (hSl : S.length = N.length) (hlast : ¬ (i : Int) = N.length - 1) (hlf : (N.getD i tn0).lf = (i : Int) + 1) (hrt : ¬ (N.getD i tn0).rt = (S.getD (i + 1) (0, 0)).1) :
    Calls Try.prog 78 #[.agg #[.int .i64 dim, .slice A N.length c], .int .i64 i, .slice (some ⟨g, 0, none⟩) N.length N.length] w fun e w' => e = .returned (.tuple #[.agg #[.int .i64 0, .int .i64 0], .bool false]) ∧ Below w.heap.size w w' := by
  have HX := Lib.hid (((Kpc.start w).alloc #[.int .i64 dim, .slice A N.length c] 24).alloc #[.int .i64 0, .int .i64 0] 121)
  rw [alloc_size'] at HX
  obtain ⟨ad1, e1, _, ⟨c0, c1, c2, c3, c4⟩, hli⟩ := (hA.below (HX.out.2.1.mono hB)).at hi
  subst e1
  have HZ := Lib.hid (HX.out.alloc #[.slice none 0 0, .int .i64 0, .int .i64 0, .int .i64 0, .int .i64 0] 81)
  obtain ⟨ad2, e2, _, ⟨d0, d1, d2, d3, d4⟩, _⟩ := (hA.below (HZ.out.2.1.mono hB)).at hi
  cases e2
  have HSA := Lib.hid (fun W (h : Below w.heap.size w W) k (hk : k < N.length) => (show OwnS W g S from Box.below hS h hS.lt).at (k := k) (by omega))
  obtain ⟨x0, x1⟩ := box_cut HX.out.head
  obtain ⟨y0, y1⟩ := box_cut HX.out.tail.head
  have SQ := Lib.hid (fun W h => HSA.out W h (i + 1) (by omega))
  generalize S.getD (i + 1) (0, 0) = sp at *
  generalize N.getD i tn0 = n at *
  obtain ⟨na, nc, nco, nlv, nlf, nrt, nsz⟩ := n
  simp only at *
  obtain ⟨v0, v1⟩ := box_cut HZ.out.tail.tail.head
  clear hA hS
  subst hlf
  generalize nco.length = L at *
  generalize hM : N.length = M at *
  clear hM
  have hg : (i : Int) < (M : Int) := by omega
  have hq : ((i : Int) == (M : Int) - 1) = false := by rw [beq_eq_false_iff_ne]; exact hlast
  have hq2 : decide ((i : Int) = (M : Int) - 1) = false := decide_eq_false hlast
  have hq3 : ¬ (i : Int) = (M : Int) - 1 := hlast
  have hwi := i64wT (i := i) (by omega)
  clear hlast
  have hf1 : ((i : Int) + 1 != (i : Int) + 1) = false := by simp
  have hr1 : (nrt != sp.1) = true := by simpa using hrt
  have t1 : (i : Int) + 1 < (M : Int) := by omega
  have t0 : (0 : Int) ≤ (i : Int) + 1 := by omega
  have t2 : ((i : Int) + 1).toNat = i + 1 := by omega
  go_enter Try.func78, Try.ntmps78
  go_wp2
  go_region
  have J0 := Lib.hid (HX.out.alloc #[.slice na L nc, .int .i64 nlv, .int .i64 ((i : Int) + 1), .int .i64 nrt, .int .i64 nsz] 81)
  have J := Lib.hid J0.out.drew
  rw [alloc_size', alloc_size'] at J
  clear J0
  generalize ((((w.alloc (.cells #[.int .i64 dim, .slice (some ad1) M c] 24)).alloc (.cells #[.int .i64 0, .int .i64 0] 121)).alloc (.cells #[.slice na L nc, .int .i64 nlv, .int .i64 ((i : Int) + 1), .int .i64 nrt, .int .i64 nsz] 81)).drew) = W1 at *
  obtain ⟨z0, z1, z2, z3, z4⟩ := box5' J.out.head
  obtain ⟨x0, x1, xf0, xf1⟩ := J.out.tail.head.two
  obtain ⟨y0, y1⟩ := box_cut J.out.tail.tail.head
  obtain ⟨s0, s1⟩ := SQ.out _ J.out.2.1
  go_wp2
  go_quiet (fail)
  go_wp2
  obtain ⟨⟨k0, k1⟩, bz⟩ := Kpc.set2 (J.out.tail.drewN nq) (by omega) (.int .i64 0) (.int .i64 0)
  refine bodyPost_ret (v := .tuple #[.agg #[.int .i64 0, .int .i64 0], .bool false]) ?_ rfl ?_
  · simp [results, Try.results78, go_sem, k0, k1]
  · exact ⟨rfl, bz⟩

set_option maxRecDepth 100000 in
set_option maxHeartbeats 8000000 in
theorem inner_over (N : List TN) (S : List (Int × Int)) (dim : Int) (A : Option Addr) (c B g i : Nat) (w : World) (hl : N.length ≤ 1000) (hA : LiesT w B A N) (hB : B ≤ w.heap.size) (hi : i < N.length) (hS : OwnS w g S) (hSl : S.length = N.length) (hlast : ¬ (i : Int) = N.length - 1) (hlf : (N.getD i tn0).lf = (i : Int) + 1) (hrt : (N.getD i tn0).rt = (S.getD (i + 1) (0, 0)).1) (hov : (N.length : Int) - 1 < (N.getD i tn0).rt) :
    Calls Try.prog 78 #[.agg #[.int .i64 dim, .slice A N.length c], .int .i64 i, .slice (some ⟨g, 0, none⟩) N.length N.length] w fun e w' => e = .returned (.tuple #[.agg #[.int .i64 0, .int .i64 0], .bool false]) ∧ Below w.heap.size w w' := by
  have HX := Lib.hid (((Kpc.start w).alloc #[.int .i64 dim, .slice A N.length c] 24).alloc #[.int .i64 0, .int .i64 0] 121)
  rw [alloc_size'] at HX
  obtain ⟨ad1, e1, _, ⟨c0, c1, c2, c3, c4⟩, hli⟩ := (hA.below (HX.out.2.1.mono hB)).at hi
  subst e1
  have HZ := Lib.hid (HX.out.alloc #[.slice none 0 0, .int .i64 0, .int .i64 0, .int .i64 0, .int .i64 0] 81)
  obtain ⟨ad2, e2, _, ⟨d0, d1, d2, d3, d4⟩, _⟩ := (hA.below (HZ.out.2.1.mono hB)).at hi
  cases e2
  have HSA := Lib.hid (fun W (h : Below w.heap.size w W) k (hk : k < N.length) => (show OwnS W g S from Box.below hS h hS.lt).at (k := k) (by omega))
  obtain ⟨x0, x1⟩ := box_cut HX.out.head
  obtain ⟨y0, y1⟩ := box_cut HX.out.tail.head
  have SQ := Lib.hid (fun W h => HSA.out W h (i + 1) (by omega))
  generalize S.getD (i + 1) (0, 0) = sp at *
  generalize N.getD i tn0 = n at *
  obtain ⟨na, nc, nco, nlv, nlf, nrt, nsz⟩ := n
  simp only at *
  obtain ⟨v0, v1⟩ := box_cut HZ.out.tail.tail.head
  clear hA hS
  subst hlf
  subst hrt
  generalize nco.length = L at *
  generalize hM : N.length = M at *
  clear hM
  have hg : (i : Int) < (M : Int) := by omega
  have hq : ((i : Int) == (M : Int) - 1) = false := by rw [beq_eq_false_iff_ne]; exact hlast
  have hq2 : decide ((i : Int) = (M : Int) - 1) = false := decide_eq_false hlast
  have hq3 : ¬ (i : Int) = (M : Int) - 1 := hlast
  have hwi := i64wT (i := i) (by omega)
  clear hlast
  have hf1 : ((i : Int) + 1 != (i : Int) + 1) = false := by simp
  have hr1 : (sp.1 != sp.1) = false := by simp
  have t1 : (i : Int) + 1 < (M : Int) := by omega
  have t0 : (0 : Int) ≤ (i : Int) + 1 := by omega
  have t2 : ((i : Int) + 1).toNat = i + 1 := by omega
  go_enter Try.func78, Try.ntmps78
  go_wp2
  go_region
  have J0 := Lib.hid (HX.out.alloc #[.slice na L nc, .int .i64 nlv, .int .i64 ((i : Int) + 1), .int .i64 sp.1, .int .i64 nsz] 81)
  have J := Lib.hid J0.out.drew
  rw [alloc_size', alloc_size'] at J
  clear J0
  generalize ((((w.alloc (.cells #[.int .i64 dim, .slice (some ad1) M c] 24)).alloc (.cells #[.int .i64 0, .int .i64 0] 121)).alloc (.cells #[.slice na L nc, .int .i64 nlv, .int .i64 ((i : Int) + 1), .int .i64 sp.1, .int .i64 nsz] 81)).drew) = W1 at *
  obtain ⟨z0, z1, z2, z3, z4⟩ := box5' J.out.head
  obtain ⟨x0, x1, xf0, xf1⟩ := J.out.tail.head.two
  obtain ⟨y0, y1⟩ := box_cut J.out.tail.tail.head
  obtain ⟨s0, s1⟩ := SQ.out _ J.out.2.1
  go_wp2
  go_quiet (fail)
  go_wp2
  obtain ⟨⟨k0, k1⟩, bz⟩ := Kpc.set2 (J.out.tail.drewN nq) (by omega) (.int .i64 0) (.int .i64 0)
  refine bodyPost_ret (v := .tuple #[.agg #[.int .i64 0, .int .i64 0], .bool false]) ?_ rfl ?_
  · simp [results, Try.results78, go_sem, k0, k1]
  · exact ⟨rfl, bz⟩
end Go.Proofs.Yteenemdiokajbaa
