import Derived.Test.YtdcemcpcjdkpjaaTreeV
import Derived.WalkMore
import Derived.ScopeJumps
import Derived.Outline

/-! Layer 10: tree.Grow: its walk. -/
namespace Go.Proofs.Ytdcemcpcjdkpjaa
open Go.RowKit
set_option linter.unusedVariables false
set_option linter.unusedSimpArgs false

theorem len_snoc (N : List TN) (x : TN) : (N ++ [x]).length = N.length + 1 := by simp
theorem map_getD_cnt (N : List TN) (j : Nat) : (N.map cnt).getD j tn0 = cnt (N.getD j tn0) := by
  rw [List.getD_eq_getElem?_getD, List.getD_eq_getElem?_getD, List.getElem?_map]
  cases N[j]? <;> rfl
theorem setR_map (ro x : Int) (N : List TN) : (setR ro x N).map cnt = setR ro x (N.map cnt) := by
  unfold setR setRt
  split
  · rfl
  · rw [List.map_set, map_getD_cnt]
    rfl
theorem setR_nat (m : Nat) (x : Int) (N : List TN) : setR (m : Int) x N = setRt N m x := by
  unfold setR
  rw [if_neg (by omega), Int.toNat_natCast]
theorem setR_snoc (ro : Int) (N : List TN) (n : Nat) : (setR ro N.length N ++ [lfN n]).map cnt = setR ro (N.map cnt).length (N.map cnt) ++ [lfN n] := by
  rw [List.map_append, setR_map, List.length_map]
  rfl
theorem setR_head (ro : Int) (N : List TN) (n : Nat) (Ac : Option Addr) (cc : Nat) (Z : DZ) : (setR ro N.length N ++ [(⟨Ac, cc, Z.1, Z.2.1, (N.length : Int) + 1, 0, n⟩ : TN)]).map cnt = setR ro (N.map cnt).length (N.map cnt) ++ [headN Z n (N.map cnt).length] := by
  rw [List.map_append, setR_map, List.length_map]
  rfl
def lenV : Value → Nat
  | .slice _ n _ => n
  | _ => 0
end Go.Proofs.Ytdcemcpcjdkpjaa
