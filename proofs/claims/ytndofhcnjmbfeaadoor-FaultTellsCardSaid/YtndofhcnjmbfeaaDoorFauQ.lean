/- strconv.Itoa and stepText. -/
import Derived.Test.YtndofhcnjmbfeaaDoorFauP
import Derived.Test.YtndofhcnjmbfeaaDoorShelf
import Derived.Lib.AppendIntMem
import Derived.Lib.ItoaLen
import Derived.WalkSmall
import Derived.Deep.QuietTactic
import Derived.BigQuiet
namespace Go.Proofs.YtndofhcnjmbfeaaDoor
open Go.RowKit
set_option linter.unusedVariables false
set_option linter.unusedSimpArgs false

/-- the table of the library's own is as the text lays it -/
def Tab4 (w : World) : Prop := Lib.TabIs Tryd.prog w "internal/strconv.uint64pow10" .u64 Lib.pow10Tab ∧ 0 < w.heap.size
theorem glob_tab4 : Tryd.prog.globalNamed "internal/strconv.uint64pow10" = some 1 := by kernel_rfl
theorem Tab4.below {w w' : World} (h : Tab4 w) (hb : Below w.heap.size w w') (h3 : 1 < w.heap.size) : Tab4 w' :=
  ⟨var?_below hb glob_tab4 h3 h.1, Nat.lt_of_lt_of_le h.2 hb.size⟩
theorem fau_itoa (n : Int) (hn : I64 n) (w : World) (ht : Tab4 w) :
    Calls Tryd.prog 26 #[.int .i64 n] w fun e w' => e = .returned (.string ⟨(Lib.itoa n).toArray⟩) ∧ Below w.heap.size w w' := by
  refine (Tryd.strconv_Itoa n hn.1 hn.2 w ht.1).mono fun e w' h => ?_
  obtain ⟨he, k, os, rfl⟩ := h
  exact ⟨he, Lib.below_grow _ w (Nat.le_refl _) k os⟩
/-- a step's text -/
def stepT (op : ByteArray) (n : Int) : ByteArray := if n < 0 then op else op ++ ⟨#[32]⟩ ++ ⟨(Lib.itoa n).toArray⟩
set_option maxRecDepth 100000 in
theorem fau_stepText (op : ByteArray) (n : Int) (hn : I64 n) (hop : op.size ≤ 1099511627776) (w : World) (ht : Tab4 w) (h1 : 1 < w.heap.size) :
    Calls Tryd.prog 25 #[.agg #[.string op, .int .i64 n]] w fun e w' => e = .returned (.string (stepT op n)) ∧ Below w.heap.size w w' := by
  by_cases hneg : n < 0
  · have hb : decide (n < 0) = true := decide_eq_true hneg
    have HR : Hid (stepT op n = op) := by show _ = _; unfold stepT; rw [if_pos hneg]
    go_enter Tryd.func25, Tryd.ntmps25
    go_wp2
    go_ret
    exact ⟨by rw [HR.out]; rfl, (Below.refl _ _).alloc (Nat.le_refl _) _⟩
  · have hb : decide (n < 0) = false := decide_eq_false hneg
    have HR : Hid (stepT op n = (op ++ ⟨#[32]⟩) ++ ⟨(Lib.itoa n).toArray⟩) := by show _ = _; unfold stepT; rw [if_neg hneg]
    have sq : (⟨(Lib.itoa n).toArray⟩ : ByteArray).size ≤ 21 := by show (Lib.itoa n).toArray.size ≤ 21; simpa using Lib.itoa_length_le n hn.1 hn.2
    have s1 : (op ++ (⟨#[32]⟩ : ByteArray)).size = op.size + 1 := by rw [ByteArray.size_append]; rfl
    have c1 : ∀ W : World, (Op.stringOp .add op ⟨#[32]⟩).run Tryd.prog W = .ok (.string (op ++ ⟨#[32]⟩)) W := fun W => run_string_add_sum _ _ _ (by have : (⟨#[32]⟩ : ByteArray).size = 1 := rfl; omega)
    have c2 : ∀ W : World, (Op.stringOp .add (op ++ ⟨#[32]⟩) ⟨(Lib.itoa n).toArray⟩).run Tryd.prog W = .ok (.string ((op ++ ⟨#[32]⟩) ++ ⟨(Lib.itoa n).toArray⟩)) W := fun W => run_string_add_sum _ _ _ (by omega)
    have KI := Lib.hid (fun W hT => fau_itoa n hn W hT)
    have J0 := Lib.hid ((Keeps.start w).alloc #[.string op, .int .i64 n] 40)
    have T0 := Lib.hid (ht.below ((Below.refl w.heap.size w).alloc (Nat.le_refl _) (.cells #[.string op, .int .i64 n] 40)) h1)
    clear sq s1
    generalize (⟨(Lib.itoa n).toArray⟩ : ByteArray) = tq at *
    go_enter Tryd.func25, Tryd.ntmps25
    go_wp2
    have J1 := Lib.hid J0.out.drew
    have T1 := Lib.hid (T0.out.below (Below.refl _ _).drew (by rw [alloc_size']; omega))
    obtain ⟨x0, x1, _, _⟩ := J1.out.head.two
    go_region_held3 (fun wr => wr.cell? ⟨w.heap.size, 0, none⟩ = some (.string op) ∧ wr.cell? ⟨w.heap.size, 1, none⟩ = some (.int .i64 n)) (go_keep)
      (first
          | (go_at_call 26; ((with_reducible refine (KI.out _ T1.out).mono ?_); rintro e w2 ⟨rfl, b2⟩; have J1 := Lib.hid (J1.out.below b2); obtain ⟨x0, x1, _, _⟩ := J1.out.head.two; clear b2)))
    all_goals
      go_wp2
      go_ret
      exact ⟨by rw [HR.out]; rfl, J1.out.2.1⟩
end Go.Proofs.YtndofhcnjmbfeaaDoor
