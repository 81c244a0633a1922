import Derived.Test.YtdcemcpcjdkpjaaTreeU

/-! Layer 10: tree.Grow: what its walk needs. -/
namespace Go.Proofs.Ytdcemcpcjdkpjaa
open Go.RowKit
set_option linter.unusedVariables false
set_option linter.unusedSimpArgs false

theorem cell_add (w : World) (g j : Nat) : w.cell? ((⟨g, 0, none⟩ : Addr).add j) = w.cell? ⟨g, j, none⟩ := by
  have e1 : (⟨g, 0, none⟩ : Addr).add j = ⟨g, j, none⟩ := by unfold Addr.add; split <;> simp_all
  rw [e1]
theorem box3 {w : World} {g : Nat} {a b c : Value} {t : TypeId} (h : Box w g #[a, b, c] t) : w.cell? ⟨g, 0, none⟩ = some a ∧ w.cell? ⟨g, 1, none⟩ = some b ∧ w.cell? ⟨g, 2, none⟩ = some c := ⟨h.cell 0, h.cell 1, h.cell 2⟩
/-- what Grow gives -/
def GivesG (Z : Int × GT) (w : World) (e : Ending) (w' : World) : Prop :=
  ∃ A N c, e = .returned (.tuple #[.agg #[.int .i64 Z.1, .slice A N.length c], .int .i64 Z.2.2.1, .int .i64 Z.2.2.2]) ∧ N.map cnt = Z.2.1 ∧ LiesT w' w'.heap.size A N ∧ okT N ∧ Below w.heap.size w w'
theorem givesG_no {w w' : World} {x : Int} (h : Below w.heap.size w w') : GivesG (0, [], 0, x) w (.returned (.tuple #[.agg #[.int .i64 0, .slice none 0 0], .int .i64 0, .int .i64 x])) w' :=
  ⟨none, [], 0, rfl, rfl, ⟨fun h0 => absurd h0 (by simp), fun n hn => by cases hn⟩, (fun n hn => by cases hn), h⟩
theorem PtsOk.rows {w0 w : World} {x : WA} (h : PtsOk w0 w x) : ∀ r ∈ x.R, Lies w0 w0.heap.size r.a r.l := by
  rcases h.2.2 with h1 | ⟨_, _, _, h1⟩
  · exact h1.2
  · exact h1
theorem mem_sel {R : List Row} {I : List Int} (hin : ∀ j, j < I.length → 0 ≤ I.getD j 0 ∧ I.getD j 0 < R.length) {r : Row} (h : r ∈ selR R I) : r ∈ R := by
  obtain ⟨j, hj, rfl⟩ := List.mem_iff_getElem.1 h
  rw [selR_len] at hj
  have h1 := selR_at R I hj
  rw [List.getD_eq_getElem?_getD, List.getElem?_eq_getElem (by rw [selR_len]; exact hj)] at h1
  simp only [Option.getD_some] at h1
  rw [h1]
  have := hin j hj
  exact getD_mem (by omega)
theorem PtsOk.sel {w0 w W : World} {x : WA} (h : PtsOk w0 w x) {I : List Int} (hin : ∀ j, j < I.length → 0 ≤ I.getD j 0 ∧ I.getD j 0 < x.R.length) {g : Nat} (ho : OwnR W g (selR x.R I)) (d : Nat) (ro : Int) : PtsOk w0 W ⟨some ⟨g, 0, none⟩, (selR x.R I).length, selR x.R I, d, ro⟩ :=
  ⟨fun r hr => h.1 r (mem_sel hin hr), Nat.le_refl _, .inr ⟨g, rfl, ho, fun r hr => h.rows r (mem_sel hin hr)⟩⟩
end Go.Proofs.Ytdcemcpcjdkpjaa
