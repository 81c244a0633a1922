/- Contracts of package score: Sort, Oddest; the reference's Oddest, Same. -/
import Derived.Test.YtaeodkpkgbjaeaaScoQ
import Derived.BigQuiet
import Derived.Deep.QuietTactic
namespace Go.Proofs.Ytaeodkpkgbjaeaa
open Go.RowKit
set_option linter.unusedVariables false
set_option linter.unusedSimpArgs false
set_option maxRecDepth 100000

theorem chkE_ok {l : List PQ} (h : allS l = true) : chkE l = 0 := by unfold chkE; rw [if_pos h]
theorem chkE_no {l : List PQ} (h : allS l = false) : chkE l = 130 := by unfold chkE; rw [h]; rfl
/-- what Sort gives -/
def SortT (l : List PQ) (w : World) (e : Ending) (w' : World) : Prop := ∃ s A c, e = .returned (.tuple #[.slice A l.length c, .int .i64 0]) ∧ LiesS w' w'.heap.size A s ∧ Below w.heap.size w w' ∧ IsSort l s
theorem sco_sort_ok (A : Option Addr) (l : List PQ) (N c : Nat) (w : World) (hN : l.length = N) (hn : N ≤ 100000) (hc : N ≤ c) (hz : A = none → c = 0) (hL : LiesS w w.heap.size A l) (hI : okS l) (hok : allS l = true) :
    Calls Try.prog 96 #[.slice A N c] w (SortT l w) := by
  have KC := Lib.hid (sco_check A l c w hL hI (by omega))
  rw [chkE_ok hok, hN] at KC
  have KS : Hid (∀ W, Below w.heap.size w W → Calls Try.prog 158 #[.slice A N c, ordV] W (SortS l W)) := fun W hb =>
    sco_sorted N A l N c W (Nat.le_refl _) hN hn hc hz ((hL.below hb).mono hb.size) hI (all_okP hok)
  have HN := Lib.hid hN
  clear hL hI hok hz hN
  go_enter Try.func96, Try.ntmps96
  go_wp2_with fail
  refine KC.out.mono ?_
  rintro e w1 ⟨rfl, b⟩
  have HB := Lib.hid b
  clear b
  go_wp2_with fail
  refine (KS.out _ HB.out).mono ?_
  rintro e w2 ⟨s, A2, c2, rfl, hc2, hL2, hb2, hs⟩
  have HL2 := Lib.hid hL2
  have HB2 := Lib.hid (HB.out.trans (hb2.mono HB.out.size))
  have HS := Lib.hid hs
  clear hc2 hL2 hb2 hs
  go_wp2
  go_ret2
  exact ⟨s, A2, c2, rfl, HL2.out, HB2.out, HS.out⟩
theorem sco_sort_no (A : Option Addr) (l : List PQ) (N c : Nat) (w : World) (hN : l.length = N) (hn : N ≤ 100000) (hL : LiesS w w.heap.size A l) (hI : okS l) (hok : allS l = false) :
    Calls Try.prog 96 #[.slice A N c] w fun e w' => e = .returned (.tuple #[.slice none 0 0, .int .i64 130]) ∧ Below w.heap.size w w' := by
  have KC := Lib.hid (sco_check A l c w hL hI (by omega))
  rw [chkE_no hok, hN] at KC
  clear hL hI hok hN
  go_enter Try.func96, Try.ntmps96
  go_wp2_with fail
  refine KC.out.mono ?_
  rintro e w1 ⟨rfl, b⟩
  have HB := Lib.hid b
  clear b
  go_wp2
  go_ret2
  exact ⟨rfl, HB.out⟩
/-- the place of the oddest one of the first k -/
def odAt (l : List PQ) : Nat → Nat
  | 0 => 0
  | k + 1 => if 0 < oddC (l.getD k pq0).1 (l.getD k pq0).2 (l.getD (odAt l k) pq0).1 (l.getD (odAt l k) pq0).2 then k else odAt l k
theorem odAt_lt (l : List PQ) : ∀ k, 0 < k → odAt l k < k := by
  intro k
  induction k with
  | zero => intro h; omega
  | succ k ih =>
    intro _
    unfold odAt
    split
    · omega
    · rcases Nat.eq_zero_or_pos k with rfl | h
      · exact Nat.lt_succ_self _
      · have := ih h; omega
theorem odAt_le (l : List PQ) (k : Nat) (h : 0 < l.length) (hk : k ≤ l.length) : odAt l k < l.length := by
  rcases Nat.eq_zero_or_pos k with rfl | h1
  · exact h
  · have := odAt_lt l k h1; omega
def odE (l : List PQ) : Int := if l.length = 0 then 4 else if allS l = true then 0 else 130
def odN (l : List PQ) : Int := if l.length = 0 then 0 else if allS l = true then odAt l l.length else 0
abbrev odV (l : List PQ) : Value := .tuple #[.int .i64 (odN l), .int .i64 (odE l)]
theorem odV_none {l : List PQ} (h : l.length = 0) : Ending.returned (.tuple #[.int .i64 0, .int .i64 4]) = .returned (odV l) := by
  unfold odV odN odE; rw [if_pos h, if_pos h]
theorem odV_no {l : List PQ} (h : ¬ l.length = 0) (g : allS l = false) : Ending.returned (.tuple #[.int .i64 0, .int .i64 130]) = .returned (odV l) := by
  unfold odV odN odE; rw [if_neg h, if_neg h, g]; rfl
theorem odV_ok {l : List PQ} (h : ¬ l.length = 0) (g : allS l = true) : Ending.returned (.tuple #[.int .i64 (odAt l l.length), .int .i64 0]) = .returned (odV l) := by
  unfold odV odN odE; rw [if_neg h, if_neg h, if_pos g, if_pos g]
end Go.Proofs.Ytaeodkpkgbjaeaa
