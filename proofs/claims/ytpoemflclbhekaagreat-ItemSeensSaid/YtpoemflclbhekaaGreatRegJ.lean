/- A drawn region walked with an invariant: what holds of each operation's value, and until when. -/
import Derived.Test.YtpoemflclbhekaaGreatBase
namespace Go.Proofs.YtpoemflclbhekaaGreat
open Go.RowKit
set_option linter.unusedVariables false
set_option linter.unusedSimpArgs false

/-- of operation i's value, until operation u was done: C -/
abbrev EJ := List (Option Nat × (World → Value → Prop))
/-- P: which operations come ahead of which; E: what holds of each one's value; G: what holds of the world -/
def GJ (P : List (List Nat)) (E : EJ) (G : World → Prop) (f : Nat → Bool) (vs : List Value) (X : World) : Prop :=
  G X ∧ (∀ (i : Nat) p, P[i]? = some p → f i = true → ∀ j ∈ p, f j = true) ∧ ∀ (i : Nat) u C, E[i]? = some (u, C) → f i = true → (∀ k, u = some k → f k = false) → C X (vs.getD i undef)
/-- what lies in blocks that are there stays so -/
def StE (E : EJ) : Prop := ∀ p ∈ E, ∀ X X' v, Below X.heap.size X X' → p.2 X v → p.2 X' v
section
variable {P : List (List Nat)} {E : EJ} {G : World → Prop} {f : Nat → Bool} {vs : List Value} {X : World}
theorem GJ.get (h : GJ P E G f vs X) {i : Nat} {u : Option Nat} {C : World → Value → Prop} (hE : E[i]? = some (u, C)) (hf : f i = true) (hu : ∀ k, u = some k → f k = false) : C X (vs.getD i undef) := h.2.2 i u C hE hf hu
theorem GJ.pre (h : GJ P E G f vs X) {i j : Nat} {p : List Nat} (hP : P[i]? = some p) (hf : f i = true) (hj : j ∈ p) : f j = true := h.2.1 i p hP hf j hj
theorem GJ.start (hG : G X) : GJ P E G (fun _ => false) vs X := ⟨hG, (fun i p _ h => by cases h), (fun i u C _ h => by cases h)⟩
theorem GJ.congr {g : Nat → Bool} {n : Nat} (hP : P.length ≤ n) (hPn : ∀ p ∈ P, ∀ j ∈ p, j < n) (hE : E.length ≤ n) (hu : ∀ p ∈ E, ∀ k, p.1 = some k → k < n) (hfg : ∀ k, k < n → f k = g k) (h : GJ P E G f vs X) : GJ P E G g vs X :=
  ⟨h.1, fun i p he hi j hj => (hfg j (hPn p (List.mem_of_getElem? he) j hj)) ▸ h.2.1 i p he ((hfg i (by have := (List.getElem?_eq_some_iff.1 he).1; omega)).trans hi) j hj,
   fun i u C he hi hk => h.2.2 i u C he ((hfg i (by have := (List.getElem?_eq_some_iff.1 he).1; omega)).trans hi) fun k e => (hfg k (hu (u, C) (List.mem_of_getElem? he) k e)).trans (hk k e)⟩
/-- an operation that makes another world of it -/
theorem GJ.move (h : GJ P E G f vs X) {i : Nat} {p : List Nat} (hP : P[i]? = some p) (hp : ∀ j ∈ p, f j = true) (hi : i < vs.length) (v : Value) {X' : World} (hG : G X') {u0 : Option Nat} {C0 : World → Value → Prop} (hE : E[i]? = some (u0, C0)) (hv : C0 X' v)
    (hst : ∀ (j : Nat) u C y, E[j]? = some (u, C) → f j = true → j ≠ i → u ≠ some i → (∀ k, u = some k → f k = false) → C X y → C X' y) : GJ P E G (fun j => if j = i then true else f j) (vs.set i v) X' := by
  refine ⟨hG, fun j q he hj k hk => ?_, fun j u C he hj hk => ?_⟩
  · by_cases e : k = i
    · simp [e]
    · simp only [if_neg e]
      by_cases e2 : j = i
      · subst e2
        rw [hP] at he; cases he
        exact hp k hk
      · exact h.2.1 j q he (by simpa [e2] using hj) k hk
  · by_cases e : j = i
    · subst e
      rw [List.getD_eq_getElem?_getD, List.getElem?_set_self hi]
      rw [hE] at he; cases he
      exact hv
    · rw [List.getD_eq_getElem?_getD, List.getElem?_set_ne (fun g => e g.symm), ← List.getD_eq_getElem?_getD]
      have hk' : ∀ k, u = some k → f k = false := fun k g => by
        have := hk k g
        simp only at this
        split at this
        · cases this
        · exact this
      have hj' : f j = true := by simpa [e] using hj
      refine hst j u C _ he hj' e (fun g => ?_) hk' (h.2.2 j u C he hj' hk')
      have := hk i g
      simp at this
/-- an operation that leaves the world alone -/
theorem GJ.step (h : GJ P E G f vs X) {i : Nat} {p : List Nat} (hP : P[i]? = some p) (hp : ∀ j ∈ p, f j = true) (hi : i < vs.length) (v : Value) {u : Option Nat} {C : World → Value → Prop} (hE : E[i]? = some (u, C)) (hv : C X v) : GJ P E G (fun j => if j = i then true else f j) (vs.set i v) X :=
  h.move hP hp hi v h.1 hE hv fun j u C y _ _ _ _ _ hc => hc
theorem GJ.below (h : GJ P E G f vs X) {i : Nat} {p : List Nat} (hP : P[i]? = some p) (hp : ∀ j ∈ p, f j = true) (hi : i < vs.length) (v : Value) {X' : World} (hG : G X') {u : Option Nat} {C : World → Value → Prop} (hE : E[i]? = some (u, C)) (hv : C X' v) (hS : StE E) (hb : Below X.heap.size X X') : GJ P E G (fun j => if j = i then true else f j) (vs.set i v) X' :=
  h.move hP hp hi v hG hE hv fun j u C y he _ _ _ _ hc => hS (u, C) (List.mem_of_getElem? he) X X' y hb hc
end
theorem box_ne {X : World} {a b : Nat} {cs cs' : Array Value} {t t' : TypeId} (h : Box X a cs t) (h' : Box X b cs' t') (hs : cs.size ≠ cs'.size) : a ≠ b := by
  rintro rfl
  have e := h.symm.trans h'
  cases e
  exact hs rfl
theorem len7 {vs : List Value} (h : vs.length = 7) : ∃ y0 y1 y2 y3 y4 y5 y6, vs = [y0, y1, y2, y3, y4, y5, y6] := by
  match vs, h with
  | [y0, y1, y2, y3, y4, y5, y6], _ => exact ⟨_, _, _, _, _, _, _, rfl⟩
end Go.Proofs.YtpoemflclbhekaaGreat
