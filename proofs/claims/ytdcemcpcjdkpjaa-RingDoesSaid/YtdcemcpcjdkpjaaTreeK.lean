import Derived.Test.YtdcemcpcjdkpjaaTreeJ

/-! Layer 10: down to a leaf: numbers. -/
namespace Go.Proofs.Ytdcemcpcjdkpjaa
open Go.RowKit
set_option linter.unusedVariables false
set_option linter.unusedSimpArgs false

/-- where x goes from an inner node -/
def toT (n : TN) (x : List Int) : Int := if lefB n.co n.lv x = true then n.lf else n.rt
/-- the leaf that x reaches from node i, and how many steps that is, in at most so many -/
def dnT (N : List TN) (x : List Int) : Nat → Nat → Nat × Nat
  | 0, i => (i, 0)
  | f + 1, i => if (N.getD i tn0).lf = 0 then (i, 0) else ((dnT N x f (toT (N.getD i tn0) x).toNat).1, (dnT N x f (toT (N.getD i tn0) x).toNat).2 + 1)
theorem dnT_leaf {N : List TN} {x : List Int} {i : Nat} (h : (N.getD i tn0).lf = 0) : ∀ f, dnT N x f i = (i, 0)
  | 0 => rfl
  | f + 1 => by rw [dnT, if_pos h]
theorem dnT_step {N : List TN} {x : List Int} {i f : Nat} (h : ¬ (N.getD i tn0).lf = 0) : dnT N x (f + 1) i = ((dnT N x f (toT (N.getD i tn0) x).toNat).1, (dnT N x f (toT (N.getD i tn0) x).toNat).2 + 1) := by rw [dnT, if_neg h]
/-- an inner node of a tree: x goes to a node of a subtree, and no error comes of it -/
theorem Sub.go {N : List TN} {dim : Int} {i e d : Nat} (h : Sub N dim i e d) (x : List Int) (hx : isV x dim = true) (hlf : ¬ (N.getD i tn0).lf = 0) :
    ∃ t e' d' : Nat, toT (N.getD i tn0) x = (t : Int) ∧ Sub N dim t e' d' ∧ d' < d ∧ t < N.length ∧ lefC (N.getD i tn0).co (N.getD i tn0).lv x = 0 := by
  cases h with
  | leaf hi hl => exact absurd hl.1 hlf
  | @inner _ m _ d1 d2 hi hl hr hc h1 h2 hs =>
    have l1 := h1.lt
    have l2 := h2.lt
    have hE : lefC (N.getD i tn0).co (N.getD i tn0).lv x = 0 := by
      have hp : partsV (N.getD i tn0).co dim = true := by
        unfold isC at hc
        rw [Bool.and_eq_true] at hc
        exact hc.1
      obtain ⟨p1, p2, p3, p4, p5⟩ := partsV_iff.1 hp
      obtain ⟨v1, v2, v3, v4⟩ := isV_iff.1 hx
      unfold lefC
      rw [p3, if_pos hc]
      unfold dotC dotE
      rw [p3, hp, hx]
      rfl
    unfold toT
    by_cases hb : lefB (N.getD i tn0).co (N.getD i tn0).lv x = true
    · rw [if_pos hb]
      exact ⟨i + 1, m, d1, by rw [hl]; rfl, h1, by omega, by omega, hE⟩
    · rw [if_neg hb]
      exact ⟨m, e, d2, hr, h2, by omega, by omega, hE⟩
end Go.Proofs.Ytdcemcpcjdkpjaa
