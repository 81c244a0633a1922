import Derived.Test.YtpoemflclbhekaaGreatCutT
import Derived.Test.YtpoemflclbhekaaGreatDrawT

/-! Layer 9: what the statements ask of every program. -/
namespace Go.Proofs.YtpoemflclbhekaaGreat
open Go.RowKit
set_option linter.unusedVariables false
set_option linter.unusedSimpArgs false

theorem boxLies {w : World} {g : Nat} {cs : Array Value} {l : List Int} (h : Box w g cs 3) (hc : cs = (litI l).toArray) : Lies w w.heap.size (some ⟨g, 0, none⟩) l := fun _ => by
  refine ⟨⟨g, 0, none⟩, rfl, h.lt, fun j hj => ?_⟩
  have h1 : (⟨g, 0, none⟩ : Addr).add j = ⟨g, j, none⟩ := by unfold Addr.add; split <;> simp_all
  rw [h1, h.cell j, hc]
  rw [← litI_get l j hj]; simp
theorem boxLiesU {w : World} {g : Nat} {cs : Array Value} {l : List Int} (h : Box w g cs 67) (hc : cs = (litu l).toArray) : LiesU w w.heap.size (some ⟨g, 0, none⟩) l := fun _ => by
  refine ⟨⟨g, 0, none⟩, rfl, h.lt, fun j hj => ?_⟩
  have h1 : (⟨g, 0, none⟩ : Addr).add j = ⟨g, j, none⟩ := by unfold Addr.add; split <;> simp_all
  rw [h1, h.cell j, hc]
  rw [← litu_get l j hj]; simp
theorem boxLiesR {w : World} {g : Nat} {cs : Array Value} {R : List Row} (h : Box w g cs 39) (hc : cs = (R.map rowV).toArray) (hr : ∀ r ∈ R, Lies w w.heap.size r.a r.l) : LiesR w w.heap.size (some ⟨g, 0, none⟩) R := by
  refine ⟨fun _ => ⟨⟨g, 0, none⟩, rfl, h.lt, fun j hj => ?_⟩, hr⟩
  have h1 : (⟨g, 0, none⟩ : Addr).add j = ⟨g, j, none⟩ := by unfold Addr.add; split <;> simp_all
  rw [h1, h.cell j, hc]
  simp [List.getD, hj]
abbrev R9 (a b : Option Addr) : List Row := [⟨a, [1, 5], 2⟩, ⟨b, [3, 5], 2⟩]
theorem dv1 (a b : Option Addr) : drw 1 (R9 a b) [0, 1] 0 1 = ([1, 0], 3, 2, true, 0) := by kernel_rfl
theorem dv2 (a : Option Addr) : drw 2 [⟨a, [1, 5], 2⟩] [] 3 1 = ([], 0, 3, false, 0) := by kernel_rfl
theorem dv3 (a b : Option Addr) : lft [1, 0] 3 (R9 a b) = [0] ∧ rgt [1, 0] 3 (R9 a b) = [1] ∧ splC [1, 0] 3 (R9 a b) = 0 := ⟨by kernel_rfl, by kernel_rfl, by kernel_rfl⟩
theorem dv4 : lefB [1, 0] 3 [1, 5] = true ∧ lefC [1, 0] 3 [1, 5] = 0 ∧ samC [1, 0] 3 [1, 0] 3 = true ∧ isC [1, 0] 3 2 = true ∧ isC [1, 0] 3 3 = false := by decide +kernel
theorem okR9 (a b : Option Addr) : OkR (R9 a b) := by
  intro r hr
  simp at hr
  rcases hr with rfl | rfl <;> refine ⟨by simp, by simp, fun x hx => ?_⟩ <;> (simp at hx; unfold I64; omega)
theorem okR91 (a : Option Addr) : OkR [⟨a, [1, 5], 2⟩] := by
  intro r hr
  simp at hr
  subst hr
  refine ⟨by simp, by simp, fun x hx => ?_⟩
  simp at hx; unfold I64; omega
abbrev L9 (s : Nat) : List (Nat × Array Value × TypeId) := [(s + 1 + 1, #[.slice (some ⟨s, 0, none⟩) 2 2, .slice (some ⟨s + 1, 0, none⟩) 2 2], 39), (s + 1, #[.int .i64 3, .int .i64 5], 3), (s, #[.int .i64 1, .int .i64 5], 3)]
theorem l9_rows {B s : Nat} {W w : World} (h : Kpc B W (L9 s) w) : LiesR w w.heap.size (some ⟨s + 1 + 1, 0, none⟩) (R9 (some ⟨s, 0, none⟩) (some ⟨s + 1, 0, none⟩)) ∧ LiesR w w.heap.size (some ⟨s + 1 + 1, 0, none⟩) [⟨some ⟨s, 0, none⟩, [1, 5], 2⟩] ∧ Lies w w.heap.size (some ⟨s, 0, none⟩) [1, 5] := by
  have h1 : Lies w w.heap.size (some ⟨s, 0, none⟩) [1, 5] := boxLies h.tail.tail.head rfl
  have h2 : Lies w w.heap.size (some ⟨s + 1, 0, none⟩) [3, 5] := boxLies h.tail.head rfl
  have h3 : LiesR w w.heap.size (some ⟨s + 1 + 1, 0, none⟩) (R9 (some ⟨s, 0, none⟩) (some ⟨s + 1, 0, none⟩)) := boxLiesR h.head rfl (fun r hr => by
    simp at hr
    rcases hr with rfl | rfl
    · exact h1
    · exact h2)
  refine ⟨h3, ⟨fun _ => ?_, fun r hr => by simp at hr; subst hr; exact h1⟩, h1⟩
  obtain ⟨ad, e, hb, hc⟩ := h3.1 (by simp)
  refine ⟨ad, e, hb, fun j hj => ?_⟩
  obtain rfl : j = 0 := by simp at hj; omega
  exact hc 0 (by simp)
theorem lies_up {w w' : World} {A : Option Addr} {l : List Int} (h : Lies w w.heap.size A l) (hb : Below w.heap.size w w') : Lies w' w'.heap.size A l := (h.below hb).mono hb.size
end Go.Proofs.YtpoemflclbhekaaGreat
