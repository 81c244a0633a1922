import Derived.Test.YtdcemcpcjdkpjaaTreeA

/-! Layer 10: the reference's End. -/
namespace Go.Proofs.Ytdcemcpcjdkpjaa
open Go.RowKit
set_option linter.unusedVariables false
set_option linter.unusedSimpArgs false

theorem Sub.most {N : List TN} {dim : Int} {i e d : Nat} (h : Sub N dim i e d) : (N.getD i tn0).sz ≤ 64 * ((e : Int) - i) := by
  induction h with
  | leaf hi hl => have := hl.2.2.2.2; omega
  | inner hi hl hr hc h1 h2 hs ih1 ih2 => omega
theorem endR_out {N : List TN} {dim : Int} {f i : Nat} (h : ¬ i < N.length) : endR N dim (f + 1) i = -1 := by rw [endR, if_pos h]
theorem endR_lf {N : List TN} {dim : Int} {f i : Nat} (h : i < N.length) (h2 : (N.getD i tn0).lf = 0 ∧ (N.getD i tn0).rt = 0) : endR N dim (f + 1) i = if leafN (N.getD i tn0) then (i : Int) + 1 else -1 := by rw [endR, if_neg (by omega), if_pos h2]
theorem endR_bad {N : List TN} {dim : Int} {f i : Nat} (h : i < N.length) (h2 : ¬ ((N.getD i tn0).lf = 0 ∧ (N.getD i tn0).rt = 0)) (h3 : ¬ ((N.getD i tn0).lf = (i : Int) + 1 ∧ isC (N.getD i tn0).co (N.getD i tn0).lv dim = true)) : endR N dim (f + 1) i = -1 := by
  rw [endR, if_neg (by omega), if_neg h2, if_pos h3]
theorem endR_in {N : List TN} {dim : Int} {f i : Nat} (h : i < N.length) (h2 : ¬ ((N.getD i tn0).lf = 0 ∧ (N.getD i tn0).rt = 0)) (h3 : (N.getD i tn0).lf = (i : Int) + 1 ∧ isC (N.getD i tn0).co (N.getD i tn0).lv dim = true) :
    endR N dim (f + 1) i = if endR N dim f (i + 1) < 0 ∨ ¬ (N.getD i tn0).rt = endR N dim f (i + 1) then -1
      else if endR N dim f (endR N dim f (i + 1)).toNat < 0 ∨ ¬ (N.getD i tn0).sz = (N.getD (i + 1) tn0).sz + (N.getD (endR N dim f (i + 1)).toNat tn0).sz then -1
      else endR N dim f (endR N dim f (i + 1)).toNat := by
  rw [endR, if_neg (by omega), if_neg h2, if_neg (fun g => g h3)]
/-- a subtree's root is there, and its size is not great -/
theorem endR_at {N : List TN} {dim : Int} {f i : Nat} (hl : N.length ≤ 100000) (h : 0 ≤ endR N dim f i) : i < N.length ∧ (endR N dim f i ≤ N.length) ∧ 1 ≤ (N.getD i tn0).sz ∧ (N.getD i tn0).sz ≤ 6400000 := by
  obtain ⟨d, _, s⟩ := endR_sub f i h
  have h1 := s.lt
  have h2 := s.most
  have h3 := s.count
  omega
/-- a node's block -/
theorem box5 {w : World} {g : Nat} {a b c d e : Value} {t : TypeId} (h : Box w g #[a, b, c, d, e] t) : w.cell? ⟨g, 0, none⟩ = some a ∧ w.cell? ⟨g, 1, none⟩ = some b ∧ w.cell? ⟨g, 2, none⟩ = some c ∧ w.cell? ⟨g, 3, none⟩ = some d ∧ w.cell? ⟨g, 4, none⟩ = some e :=
  ⟨h.cell 0, h.cell 1, h.cell 2, h.cell 3, h.cell 4⟩
end Go.Proofs.Ytdcemcpcjdkpjaa
