/- The contract of copseref01.Fits. -/
import Derived.Test.YtbnpbflndnjmcaaBigI
namespace Go.Proofs.Ytbnpbflndnjmcaa
open Go.RowKit

def top : Int := 9223372036854775808
theorem order_at (r : Int) (A A2 : Option Addr) (x y : Int) (ca cb B : Nat) (w : World) (hx : 0 ≤ x) (hy : 0 ≤ y) (hA : Lies w B A (digs x)) (hB : Lies w B A2 (digs y)) (hl : (digs x).length ≤ 100000000) (hr : cmpI x y = r) :
    Calls Try.prog 23 #[.slice A (digs x).length ca, .slice A2 (digs y).length cb] w fun e w' => e = .returned (.int .i64 r) ∧ ∃ n, w' = w.drewN n :=
  (ref_order A A2 x y ca cb B w hx hy hA hB hl).mono fun _ _ h => by rw [← hr]; exact h
theorem val_drop_le {l : List Int} (h : Dig l) (k : Nat) : val (l.drop k) ≤ val l := by
  induction k generalizing l with
  | zero => rw [List.drop_zero]; exact Int.le_refl _
  | succ k ih =>
    cases l with
    | nil => simp
    | cons d l =>
      have hl : Dig l := fun x hx => h x (List.mem_cons_of_mem _ hx)
      have h1 := ih hl
      have h2 := (h d List.mem_cons_self).1
      have h3 := val_nonneg hl
      rw [List.drop_succ_cons, val]; omega

end Go.Proofs.Ytbnpbflndnjmcaa
