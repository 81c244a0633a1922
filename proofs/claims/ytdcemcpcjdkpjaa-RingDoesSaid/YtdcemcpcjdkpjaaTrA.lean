import Derived.Test.YtdcemcpcjdkpjaaTreeZ
import Derived.Test.YtdcemcpcjdkpjaaTreeO
import Derived.Test.YtdcemcpcjdkpjaaTreeT
import Derived.Test.YtdcemcpcjdkpjaaCutF

/-! Layer 10: what lives. -/
namespace Go.Proofs.Ytdcemcpcjdkpjaa
open Go.RowKit
set_option linter.unusedVariables false
set_option linter.unusedSimpArgs false

theorem cnt_eq {n m : TN} (h : cnt n = cnt m) : n.co = m.co ∧ n.lv = m.lv ∧ n.lf = m.lf ∧ n.rt = m.rt ∧ n.sz = m.sz := by
  unfold cnt at h
  simpa using h
/-- nodes with the same contents are the same -/
theorem samT_of {N M : List TN} (h : N.map cnt = M.map cnt) (d : Int) : samT d N d M = true := by
  unfold samT
  rw [decide_eq_true_iff]
  have hl : N.length = M.length := by
    have := congrArg List.length h
    simpa using this
  refine ⟨rfl, hl, fun j hj => ?_⟩
  have h1 : cnt (N.getD j tn0) = cnt (M.getD j tn0) := by rw [← map_getD_cnt, ← map_getD_cnt, h]
  obtain ⟨e1, e2, e3, e4, e5⟩ := cnt_eq h1
  unfold nodeS samC
  rw [e1, e2, e3, e4, e5]
  simp
theorem liesT_up {w w' : World} {A : Option Addr} {N : List TN} (h : LiesT w w.heap.size A N) (hb : Below w.heap.size w w') : LiesT w' w'.heap.size A N := (h.below hb).mono hb.size
abbrev R10 (a b c : Option Addr) : List Row := [⟨a, [1], 1⟩, ⟨b, [3], 1⟩, ⟨c, [2], 1⟩]
abbrev T10 : List TN := [⟨none, 0, [1], 3, 1, 4, 3⟩, ⟨none, 0, [1], 2, 2, 3, 2⟩, ⟨none, 0, [], 0, 0, 0, 1⟩, ⟨none, 0, [], 0, 0, 0, 1⟩, ⟨none, 0, [], 0, 0, 0, 1⟩]
theorem gv10 (a b c : Option Addr) : groG 1 (R10 a b c) [0, 1, 0, 0] 0 1 = (1, T10, 4, 0) := by kernel_rfl
theorem okR10 (a b c : Option Addr) : OkR (R10 a b c) := by
  intro r hr
  simp at hr
  rcases hr with rfl | rfl | rfl <;> refine ⟨by simp, by simp, fun x hx => ?_⟩ <;> (simp at hx; unfold I64; omega)
theorem tn_of {n : TN} {co : List Int} {lv lf rt sz : Int} (h : cnt n = ⟨none, 0, co, lv, lf, rt, sz⟩) : n = ⟨n.a, n.c, co, lv, lf, rt, sz⟩ := by
  obtain ⟨a, c, co', lv', lf', rt', sz'⟩ := n
  unfold cnt at h
  simp only [TN.mk.injEq, true_and] at h ⊢
  exact h
theorem five10 {N : List TN} (h : N.map cnt = T10) : ∃ a0 a1 a2 a3 a4 c0 c1 c2 c3 c4, N = [⟨a0, c0, [1], 3, 1, 4, 3⟩, ⟨a1, c1, [1], 2, 2, 3, 2⟩, ⟨a2, c2, [], 0, 0, 0, 1⟩, ⟨a3, c3, [], 0, 0, 0, 1⟩, ⟨a4, c4, [], 0, 0, 0, 1⟩] := by
  have hl : N.length = 5 := by
    have := congrArg List.length h
    simpa using this
  rcases N with _ | ⟨n0, _ | ⟨n1, _ | ⟨n2, _ | ⟨n3, _ | ⟨n4, _ | ⟨n5, r⟩⟩⟩⟩⟩⟩ <;> simp at hl
  simp only [List.map_cons, List.map_nil, List.cons.injEq, and_true] at h
  obtain ⟨h0, h1, h2, h3, h4⟩ := h
  exact ⟨n0.a, n1.a, n2.a, n3.a, n4.a, n0.c, n1.c, n2.c, n3.c, n4.c, by rw [← tn_of h0, ← tn_of h1, ← tn_of h2, ← tn_of h3, ← tn_of h4]⟩
theorem lv10 (a0 a1 a2 a3 a4 : Option Addr) (c0 c1 c2 c3 c4 : Nat) : leafT [⟨a0, c0, [1], 3, 1, 4, 3⟩, ⟨a1, c1, [1], 2, 2, 3, 2⟩, ⟨a2, c2, [], 0, 0, 0, 1⟩, ⟨a3, c3, [], 0, 0, 0, 1⟩, ⟨a4, c4, [], 0, 0, 0, 1⟩] 1 [2] = (3, 2, 0) ∧ isT [⟨a0, c0, [1], 3, 1, 4, 3⟩, ⟨a1, c1, [1], 2, 2, 3, 2⟩, ⟨a2, c2, [], 0, 0, 0, 1⟩, ⟨a3, c3, [], 0, 0, 0, 1⟩, ⟨a4, c4, [], 0, 0, 0, 1⟩] 1 = true := ⟨by kernel_rfl, by kernel_rfl⟩
theorem lv10b : isT [] 0 = false ∧ mostT 1 1 3 1 = 4 := by decide +kernel
theorem lv10c {N : List TN} (h : N.map cnt = T10) : leafT N 1 [2] = (3, 2, 0) ∧ isT N 1 = true ∧ N.length = 5 := by
  obtain ⟨a0, a1, a2, a3, a4, c0, c1, c2, c3, c4, rfl⟩ := five10 h
  exact ⟨(lv10 ..).1, (lv10 ..).2, rfl⟩
/-- the nodes that are wanted -/
abbrev M10 (g1 g2 : Nat) : List TN := [⟨some ⟨g1, 0, none⟩, 1, [1], 3, 1, 4, 3⟩, ⟨some ⟨g2, 0, none⟩, 1, [1], 2, 2, 3, 2⟩, ⟨none, 0, [], 0, 0, 0, 1⟩, ⟨none, 0, [], 0, 0, 0, 1⟩, ⟨none, 0, [], 0, 0, 0, 1⟩]
end Go.Proofs.Ytdcemcpcjdkpjaa
