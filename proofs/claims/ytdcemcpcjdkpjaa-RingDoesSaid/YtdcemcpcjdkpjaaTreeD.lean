import Derived.Test.YtdcemcpcjdkpjaaTreeC

/-! Layer 10: how many draws may be taken at most. -/
namespace Go.Proofs.Ytdcemcpcjdkpjaa
open Go.RowKit
set_option linter.unusedVariables false
set_option linter.unusedSimpArgs false

def nearN (n m : Int) : Int := if n < 0 then 0 else if n > m then m else n
theorem nearN_bd {n m : Int} (h : 0 ≤ m) : 0 ≤ nearN n m ∧ nearN n m ≤ m := by unfold nearN; split <;> (try split) <;> omega
/-- the draws for each cut -/
def eachN (k d t : Int) : Int := if k = 2 then 3 * t + t * t * d else 2 * t
def mostT (k d p t : Int) : Int := max (nearN p 64 - 1) 0 * eachN k (nearN d 8) (nearN t 64)
theorem eachN_bd {k d t : Int} (h : 0 ≤ d ∧ d ≤ 8) (h2 : 0 ≤ t ∧ t ≤ 64) : (0 ≤ t * t ∧ t * t ≤ 4096) ∧ (0 ≤ t * t * d ∧ t * t * d ≤ 32768) ∧ 0 ≤ eachN k d t ∧ eachN k d t ≤ 32960 := by
  have h3 : 0 ≤ t * t := Int.mul_nonneg (by omega) (by omega)
  have h4 : t * t ≤ 64 * 64 := Int.mul_le_mul (by omega) (by omega) (by omega) (by omega)
  have h5 : 0 ≤ t * t * d := Int.mul_nonneg h3 (by omega)
  have h6 : t * t * d ≤ 4096 * 8 := Int.mul_le_mul (by omega) (by omega) (by omega) (by omega)
  refine ⟨⟨h3, by omega⟩, ⟨h5, by omega⟩, ?_⟩
  unfold eachN
  split <;> omega
theorem mostT_bd (k d p t : Int) : 0 ≤ mostT k d p t ∧ mostT k d p t ≤ 2076480 := by
  have h1 := nearN_bd (n := p) (m := 64) (by omega)
  have h2 := (eachN_bd (k := k) (nearN_bd (n := d) (m := 8) (by omega)) (nearN_bd (n := t) (m := 64) (by omega))).2.2
  unfold mostT
  have h3 : 0 ≤ max (nearN p 64 - 1) 0 ∧ max (nearN p 64 - 1) 0 ≤ 63 := by omega
  refine ⟨Int.mul_nonneg h3.1 h2.1, ?_⟩
  have := Int.mul_le_mul h3.2 h2.2 h2.1 (by omega)
  omega
theorem near_less (p : Int) : nearN (nearN p 64 - 1) 64 = max (nearN p 64 - 1) 0 := by
  have := nearN_bd (n := p) (m := 64) (by omega)
  generalize nearN p 64 = P at *
  unfold nearN
  split <;> (try split) <;> omega
end Go.Proofs.Ytdcemcpcjdkpjaa
