/- Layer 18 (bag): upTo. -/
import Derived.Test.YtaeodkpkgbjaeaaBagD
namespace Go.Proofs.Ytaeodkpkgbjaeaa
open Go.RowKit
set_option linter.unusedVariables false
set_option linter.unusedSimpArgs false

/-- how many scores the first i blocks hold -/
def sumA (bs : List Blk) (i : Nat) : Nat := ((List.range i).map (lnA bs)).sum
theorem sumA_succ (bs : List Blk) (i : Nat) : sumA bs (i + 1) = sumA bs i + lnA bs i := by
  unfold sumA; simp [List.range_succ]
theorem sumA_le {bs : List Blk} (h : OkB bs) : ∀ i, i ≤ bs.length → sumA bs i ≤ 64 * i
  | 0, _ => by simp [sumA]
  | i + 1, hi => by
    have h1 := sumA_le h i (by omega)
    have h2 := h.room i (by omega)
    rw [sumA_succ]; omega
set_option maxRecDepth 100000 in
set_option maxHeartbeats 4000000 in
theorem bag_upto (gB c k B : Nat) (caps : Array Value) (Q : PQ → Bool) (bs : List Blk) (w : World) (eg : ∀ args w, (callFunc k args).run Try.prog w = .ok (.enter k args) w) (hB : B ≤ w.heap.size)
    (hL : LiesB w B gB bs) (hO : OkB bs) (hc : bs.length ≤ c) (hT : Tells k caps Q B w)
    (m1 : ∀ i j : Nat, i ≤ j → j + 1 < bs.length → Q (scA bs (i + 1) 0) = true → Q (scA bs (j + 1) 0) = true)
    (m2 : ∀ d i j : Nat, d < bs.length → i ≤ j → j < lnA bs d → Q (scA bs d i) = true → Q (scA bs d j) = true) :
    Calls Try.prog 86 #[.slice (some ⟨gB, 0, none⟩) bs.length c, .func (.func k) #[] caps] w fun e w' => ∃ d r : Nat, e = .returned (.int .i64 ((sumA bs d + r : Nat) : Int)) ∧ d < bs.length ∧ r ≤ lnA bs d ∧
      (∀ i, i < d → Q (scA bs (i + 1) 0) = false) ∧ (∀ i, d ≤ i → i + 1 < bs.length → Q (scA bs (i + 1) 0) = true) ∧ (∀ j, j < r → Q (scA bs d j) = false) ∧ (∀ j, r ≤ j → j < lnA bs d → Q (scA bs d j) = true) ∧ Below w.heap.size w w' := by
  have K := Lib.hid (bag_find gB c k B caps Q bs w eg hB hL hO hT m1 m2)
  have HL := Lib.hid hL
  have HO := Lib.hid hO
  clear hL hO hT m1 m2 eg
  generalize hN : bs.length = N at *
  have HN := Lib.hid hN
  clear hN
  go_enter Try.func86, Try.ntmps86
  go_wp2_with fail
  refine K.out.mono ?_
  rintro e w1 ⟨d, r, rfl, hd, hr, F1, T1, F2, T2, b1⟩
  have HR : Hid (d < N ∧ r ≤ lnA bs d ∧ (∀ i, i < d → Q (scA bs (i + 1) 0) = false) ∧ (∀ i, d ≤ i → i + 1 < N → Q (scA bs (i + 1) 0) = true) ∧ (∀ j, j < r → Q (scA bs d j) = false) ∧ (∀ j, r ≤ j → j < lnA bs d → Q (scA bs d j) = true)) := ⟨hd, hr, F1, T1, F2, T2⟩
  have HB1 := Lib.hid b1
  have hdc : d ≤ c := by omega
  have hdn : d ≤ N := by omega
  have hr64 : r ≤ 64 := Nat.le_trans hr (HO.out.room d (by rw [HN.out]; exact hd))
  have hN6 : N ≤ 1000000 := by have := HO.out.few; rw [HN.out] at this; exact this
  clear F1 T1 F2 T2 b1 K hr
  go_wp2
  go_loopw [6, 19] (fun nv iv wr => ∃ i : Nat, i ≤ d ∧ nv = .int .i64 ((sumA bs i + r : Nat) : Int) ∧ iv = .int .i64 i ∧ wr = w1) (fun _ iv _ => d - (intOf iv).toNat)
  case atStart => exact ⟨0, by omega, by simp [sumA], rfl, rfl⟩
  case round =>
    obtain ⟨i, hi, rfl, rfl, rfl⟩ := hrel
    by_cases hlt : i < d
    · have hin : i < bs.length := by rw [HN.out]; omega
      have c1 := ((HL.out.below (HB1.out.mono hB)).hd i hin)
      have hs := sumA_le HO.out i (by omega)
      have h64 := HO.out.room i hin
      have HS := Lib.hid (sumA_succ bs i)
      unfold blkV at c1
      rw [show (bs.getD i bk0).2.length = lnA bs i from rfl] at c1
      generalize (bs.getD i bk0).1 = g at *
      generalize hS1 : sumA bs (i + 1) = s1 at *
      have HS1 := Lib.hid hS1
      clear hS1
      generalize sumA bs i = s at *
      generalize lnA bs i = m at *
      have hid : (i : Int) < (d : Int) := by omega
      clear hin
      go_wp2
      refine ⟨⟨i + 1, by omega, ?_, by go_num, trivial⟩, by simp only [intOf]; omega⟩
      rw [HS1.out, HS.out]
      refine congrArg (Value.int .i64) ?_
      omega
    · obtain rfl : i = d := by omega
      go_wp2
      go_ret
      refine ⟨i, r, ?_, HR.out.1, HR.out.2.1, HR.out.2.2.1, HR.out.2.2.2.1, HR.out.2.2.2.2.1, HR.out.2.2.2.2.2, HB1.out⟩
      refine congrArg (fun z => Ending.returned (Value.int .i64 z)) ?_
      first | rfl | (simp; done) | omega
end Go.Proofs.Ytaeodkpkgbjaeaa
