/- Text: what stays over the builder's writes and over the stack's. -/
import Derived.Test.YtndofhcnjmbfeaaDoorFauU
import Derived.Test.YtndofhcnjmbfeaaDoorFauS
namespace Go.Proofs.YtndofhcnjmbfeaaDoor
open Go.RowKit
set_option linter.unusedVariables false
set_option linter.unusedSimpArgs false

theorem box_kept {w w' : World} {e T : TypeId} {b : Option Nat} {g : Nat} {cs : Array Value} (h : Box w g cs T) (hk : Lib.OthersKept e b w w') (hT : T ≠ e) (hb : some g ≠ b) : Box w' g cs T :=
  hk g _ h hb (fun c fz he => by cases he; exact hT rfl)
theorem bld_block {w : World} {T e : TypeId} {B b : Nat} {bs : List Value} (h : Lib.IsBuilderF T e B b bs w) : ∃ cs, w.heap[b]? = some (.cells cs T (0, 0)) := by
  rcases h with ⟨_, v, hb, _⟩ | ⟨_, v, hb, _⟩ <;> exact ⟨_, hb⟩
theorem bld_ne {w : World} {T e T2 : TypeId} {B b g : Nat} {bs : List Value} {cs : Array Value} (h : Lib.IsBuilderF T e B b bs w) (hx : Box w g cs T2) (hT : T2 ≠ T) : g ≠ b := by
  rintro rfl
  obtain ⟨cs', hb⟩ := bld_block h
  unfold Box at hx
  rw [hx] at hb
  cases hb
  exact hT rfl
/-- a write into the builder lets the faults be -/
theorem same_write {w w' : World} {e : TypeId} {B b : Nat} {bs : List Value} {T : TypeId} (h : Lib.IsBuilderF T e B b bs w) (hk : Lib.OthersKept e (some b) w w') (h1 : 74 ≠ e) (h2 : 74 ≠ T) : Same w w' := fun g cs hx =>
  box_kept hx hk h1 (fun he => bld_ne h hx h2 (Option.some.inj he))
/-- .. and the stack of pieces -/
theorem own_write {w w' : World} {e E T : TypeId} {B B' b s n : Nat} {bs xs : List Value} {v : Value} (h : Lib.IsBuilderF T e B b bs w) (hk : Lib.OthersKept e (some b) w w') (ho : w.ownsRow B' E s v n xs) (h1 : E ≠ e) (h2 : E ≠ T) : w'.ownsRow B' E s v n xs := by
  refine ⟨ho.1, ?_⟩
  rcases ho.2 with h0 | ⟨g, cap, cur, rfl, hb, hh, hr⟩
  · exact .inl h0
  · refine .inr ⟨g, cap, cur, rfl, hb, ?_, hr⟩
    exact box_kept (T := E) hh hk h1 (fun he => bld_ne h hh h2 (Option.some.inj he))
/-- what turns no row of the builder's leaves it -/
theorem bld_kept {w w' : World} {T e e' : TypeId} {B b : Nat} {bs : List Value} (h : Lib.IsBuilderF T e B b bs w) (hk : Lib.OthersKept e' none w w') (h1 : T ≠ e') (h2 : e ≠ e') : Lib.IsBuilderF T e B b bs w' := by
  have key : ∀ p, Lib.BuilderAtF T e B b p bs w → Lib.BuilderAtF T e B b p bs w' := fun p ⟨hB, v, hb, hown, hne⟩ => by
    refine ⟨hB, v, hk b _ hb (by simp) (fun c fz he => by cases he; exact h1 rfl), ?_, hne⟩
    refine ⟨hown.1, ?_⟩
    rcases hown.2 with h0 | hr
    · exact .inl h0
    · right
      obtain ⟨g, cap, cur, fz, e1, e2, hh, hr⟩ := hr
      exact ⟨g, cap, cur, fz, e1, e2, hk g _ hh (by simp) (fun c fz he => by cases he; exact h2 rfl), hr⟩
  rcases h with h | h
  · exact .inl (key _ h)
  · exact .inr (key _ h)
/-- the size of all pieces' trees, and how many they are -/
def stkS : List Piece → Nat
  | [] => 0
  | (_, none) :: l => stkS l + 1
  | (_, some x) :: l => stkS l + 4 * size x.1 + 1
theorem stkS_append (l m : List Piece) : stkS (l ++ m) = stkS l + stkS m := by
  induction l with
  | nil => simp [stkS]
  | cons p l ih =>
    obtain ⟨q, _ | x⟩ := p <;> (simp only [List.cons_append, stkS, ih]; omega)
end Go.Proofs.YtndofhcnjmbfeaaDoor
