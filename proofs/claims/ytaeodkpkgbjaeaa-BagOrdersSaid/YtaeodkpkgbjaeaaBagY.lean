/- Layer 18 (bag): join. -/
import Derived.Test.YtaeodkpkgbjaeaaBagX
namespace Go.Proofs.Ytaeodkpkgbjaeaa
open Go.RowKit
set_option linter.unusedVariables false
set_option linter.unusedSimpArgs false

/-- what join gives -/
def JnR (w : World) (gB : Nat) (bs : List Blk) (k : Int) (e : Ending) (w' : World) : Prop := ∃ bs', BkR w gB bs bs' e w' ∧ JoinR bs k bs'
theorem BkR.self {w w' : World} {gB c : Nat} {bs : List Blk} (h : BksAt w gB c bs) (hb : Below w.heap.size w w') : BkR w gB bs bs (.returned (.slice (some ⟨gB, 0, none⟩) bs.length c)) w' :=
  ⟨gB, c, rfl, h.below hb, WrS.of _ hb, fun x hx => Or.inl hx⟩
set_option maxRecDepth 100000 in
set_option maxHeartbeats 4000000 in
theorem bag_join_out (bs : List Blk) (gB c : Nat) (k : Int) (w : World) (h : BksAt w gB c bs) (hk : k < 0 ∨ (bs.length : Int) ≤ k + 1) (hki : -10 ≤ k ∧ k ≤ 1000000) :
    Calls Try.prog 153 #[.slice (some ⟨gB, 0, none⟩) bs.length c, .int .i64 k] w (JnR w gB bs k) := by
  have HR : Hid (∀ w', Below w.heap.size w w' → JnR w gB bs k (.returned (.slice (some ⟨gB, 0, none⟩) bs.length c)) w') := fun w' hb => by
    refine ⟨bs, BkR.self h hb, Or.inl ⟨rfl, ?_⟩⟩
    rintro A b x C rfl rfl
    simp at hk; omega
  have hw1 : IntKind.i64.wrap (k + 1) = k + 1 := by rw [IntKind.wrap_i64]; omega
  clear h
  have key : k < 0 ∨ (¬ k < 0 ∧ (bs.length : Int) ≤ k + 1) := by omega
  clear hk
  generalize hn : bs.length = n at *
  clear hn
  rcases key with h1 | ⟨h1, h2⟩
  · have d1 : decide (k < 0) = true := decide_eq_true h1
    go_enter Try.func153, Try.ntmps153
    go_wp2
    go_quiet (fail)
    go_wp2
    go_ret
    exact HR.out _ (by first | exact (Below.refl _ _).drew | exact below_drewN (Below.refl _ _) _)
  · have d1 : decide (k < 0) = false := decide_eq_false h1
    have d2 : decide ((n : Int) ≤ k + 1) = true := decide_eq_true h2
    go_enter Try.func153, Try.ntmps153
    go_wp2
    go_quiet (fail)
    go_wp2
    go_ret
    exact HR.out _ (by first | exact (Below.refl _ _).drew | exact below_drewN (Below.refl _ _) _)
set_option maxRecDepth 100000 in
set_option maxHeartbeats 4000000 in
theorem bag_join_full (A C : List Blk) (b x : Blk) (gB c d : Nat) (w : World) (h : BksAt w gB c (A ++ b :: x :: C)) (hd : A.length = d) (hf : 64 < b.2.length + x.2.length) (hm : b.2.length ≤ 64 ∧ x.2.length ≤ 64) (hn4 : (A ++ b :: x :: C).length ≤ 90000) :
    Calls Try.prog 153 #[.slice (some ⟨gB, 0, none⟩) (A ++ b :: x :: C).length c, .int .i64 d] w (JnR w gB (A ++ b :: x :: C) d) := by
  have HR : Hid (∀ w', Below w.heap.size w w' → JnR w gB (A ++ b :: x :: C) d (.returned (.slice (some ⟨gB, 0, none⟩) (A ++ b :: x :: C).length c)) w') := fun w' hb => by
    refine ⟨_, BkR.self h hb, Or.inl ⟨rfl, ?_⟩⟩
    intro A2 b2 x2 C2 e k2
    have hA : A.length = A2.length := by omega
    obtain ⟨e1, e2⟩ := List.append_inj e hA
    injection e2 with e2 e3
    injection e3 with e3 e4
    subst e2; subst e3
    exact hf
  have c1 := h.row.mid
  have c2 : w.cell? ⟨gB, d + 1, none⟩ = some (blkV x) := by
    have e : A ++ b :: x :: C = (A ++ [b]) ++ x :: C := by simp
    have h2 : RowAt w gB c ((A ++ [b]) ++ x :: C) := by rw [← e]; exact h.row
    have := h2.mid
    simpa [hd] using this
  rw [hd] at c1
  unfold blkV at c1 c2
  have hcap := h.cap
  have hdn : (d : Int) < ((A ++ b :: x :: C).length : Int) := by simp; omega
  have hdn1 : ((d + 1 : Nat) : Int) < ((A ++ b :: x :: C).length : Int) := by simp; omega
  generalize (A ++ b :: x :: C).length = n at *
  generalize b.2.length = m1 at *
  generalize x.2.length = m2 at *
  generalize b.1 = gb at *
  generalize x.1 = gx at *
  have hw1 : IntKind.i64.wrap ((d : Int) + 1) = ((d + 1 : Nat) : Int) := by rw [IntKind.wrap_i64]; omega
  have hw2 : IntKind.i64.wrap ((m1 : Int) + (m2 : Int)) = ((m1 + m2 : Nat) : Int) := by rw [IntKind.wrap_i64]; omega
  generalize d + 1 = d1 at *
  generalize m1 + m2 = mm at *
  have q0 : decide ((d : Int) < 0) = false := decide_eq_false (by omega)
  have q1 : decide (n ≤ d1) = false := decide_eq_false (by omega)
  have q2 : decide (64 < mm) = true := decide_eq_true (by omega)
  have q3 : decide ((64 : Int) < (mm : Int)) = true := decide_eq_true (by omega)
  clear h hd
  go_enter Try.func153, Try.ntmps153
  go_wp2
  go_quiet (fail)
  go_wp2
  go_ret
  exact HR.out _ (by first | exact (Below.refl _ _).drew | exact below_drewN (Below.refl _ _) _)
end Go.Proofs.Ytaeodkpkgbjaeaa
