/- Layer 18 (bag): the blocks in memory; what find's closures tell. -/
import Derived.Test.YtaeodkpkgbjaeaaBagB
import Derived.StillTailTactics
namespace Go.Proofs.Ytaeodkpkgbjaeaa
open Go.RowKit
set_option linter.unusedVariables false
set_option linter.unusedSimpArgs false

abbrev Blk := Nat × List PQ
def bk0 : Blk := (0, [])
def blkV (b : Blk) : Value := .slice (some ⟨b.1, 0, none⟩) b.2.length 64
/-- the row of blocks in block gB; all below B -/
structure LiesB (w : World) (B gB : Nat) (bs : List Blk) : Prop where
  lt : gB < B
  hd : ∀ i, i < bs.length → w.cell? ⟨gB, i, none⟩ = some (blkV (bs.getD i bk0))
  sc : ∀ i, i < bs.length → LiesS w B (some ⟨(bs.getD i bk0).1, 0, none⟩) (bs.getD i bk0).2
theorem LiesB.below {w w' : World} {B gB : Nat} {bs : List Blk} (h : LiesB w B gB bs) (hb : Below B w w') : LiesB w' B gB bs :=
  ⟨h.lt, fun i hi => (hb.cell (p := ⟨gB, i, none⟩) h.lt).trans (h.hd i hi), fun i hi => (h.sc i hi).below hb⟩
theorem LiesB.score {w : World} {B gB : Nat} {bs : List Blk} (h : LiesB w B gB bs) {i j : Nat} (hi : i < bs.length) (hj : j < (bs.getD i bk0).2.length) :
    w.cell? ⟨(bs.getD i bk0).1, j * 2, none⟩ = some (.int .i64 ((bs.getD i bk0).2.getD j pq0).1) ∧ w.cell? ⟨(bs.getD i bk0).1, j * 2 + 1, none⟩ = some (.int .i64 ((bs.getD i bk0).2.getD j pq0).2) := by
  obtain ⟨ad, e, hb, c0, c1⟩ := (h.sc i hi).at hj
  injection e with e
  subst e
  have e1 : (⟨(bs.getD i bk0).1, 0, none⟩ : Addr).add (j * 2) = ⟨(bs.getD i bk0).1, j * 2, none⟩ := by unfold Addr.add; split <;> simp_all
  rw [e1] at c0 c1
  exact ⟨c0, c1⟩
/-- what a function of scores tells, in whatever world that has grown of w -/
def Tells (k : Nat) (caps : Array Value) (Q : PQ → Bool) (B : Nat) (w : World) : Prop :=
  ∀ (p q : Int), I64 p → I64 q → ∀ wr : World, Below B w wr → Calls Try.prog k (#[.agg #[.int .i64 p, .int .i64 q]] ++ caps) wr fun e w' => e = .returned (.bool (Q (p, q))) ∧ Below wr.heap.size wr w'
theorem Tells.below {k : Nat} {caps : Array Value} {Q : PQ → Bool} {B : Nat} {w w' : World} (h : Tells k caps Q B w) (hb : Below B w w') : Tells k caps Q B w' :=
  fun p q hp hq wr h2 => h p q hp hq wr (hb.trans h2)
set_option maxRecDepth 100000 in
set_option maxHeartbeats 4000000 in
theorem bag_find2 (i gB c d ga gb gc k B : Nat) (caps : Array Value) (Q : PQ → Bool) (bs : List Blk) (w : World) (eg : ∀ args w, (callFunc k args).run Try.prog w = .ok (.enter k args) w) (hB : B ≤ w.heap.size)
    (ca : w.cell? ⟨ga, 0, none⟩ = some (.func (.func k) #[] caps)) (cb : w.cell? ⟨gb, 0, none⟩ = some (.slice (some ⟨gB, 0, none⟩) bs.length c)) (cc : w.cell? ⟨gc, 0, none⟩ = some (.int .i64 d))
    (hL : LiesB w B gB bs) (hd : d < bs.length) (hi : i < (bs.getD d bk0).2.length) (hI : I64 ((bs.getD d bk0).2.getD i pq0).1 ∧ I64 ((bs.getD d bk0).2.getD i pq0).2) (hT : Tells k caps Q B w) :
    Calls Try.prog 149 #[.int .i64 i, .pointer (some ⟨ga, 0, none⟩), .pointer (some ⟨gb, 0, none⟩), .pointer (some ⟨gc, 0, none⟩)] w fun e w' => e = .returned (.bool (Q ((bs.getD d bk0).2.getD i pq0))) ∧ Below w.heap.size w w' := by
  have c1 := hL.hd d hd
  obtain ⟨s0, s1⟩ := hL.score hd hi
  have K := Lib.hid (hT _ _ hI.1 hI.2)
  have h1 : (i : Int) < ((bs.getD d bk0).2.length : Int) := by omega
  have h2 : (d : Int) < (bs.length : Int) := by omega
  rw [show ((bs.getD d bk0).2.getD i pq0) = (((bs.getD d bk0).2.getD i pq0).1, ((bs.getD d bk0).2.getD i pq0).2) from rfl]
  unfold blkV at c1
  generalize ((bs.getD d bk0).2.getD i pq0).1 = p at *
  generalize ((bs.getD d bk0).2.getD i pq0).2 = q at *
  generalize (bs.getD d bk0).2.length = m at *
  generalize (bs.getD d bk0).1 = g at *
  generalize bs.length = N at *
  clear hL hI hT
  go_enter Try.func149, Try.ntmps149
  go_wp2
  go_still_tail 8, (by kernel_rfl)
  go_wp2_with fail
  refine (K.out w.drew ((Below.refl _ _).drew)).mono ?_
  rintro e w1 ⟨rfl, b1⟩
  go_wp2
  go_ret
  exact ⟨rfl, (Below.refl _ _).drew.trans b1⟩
set_option maxRecDepth 100000 in
set_option maxHeartbeats 4000000 in
theorem bag_find1 (i gB c ga gb k B : Nat) (caps : Array Value) (Q : PQ → Bool) (bs : List Blk) (w : World) (eg : ∀ args w, (callFunc k args).run Try.prog w = .ok (.enter k args) w) (hB : B ≤ w.heap.size)
    (ca : w.cell? ⟨ga, 0, none⟩ = some (.func (.func k) #[] caps)) (cb : w.cell? ⟨gb, 0, none⟩ = some (.slice (some ⟨gB, 0, none⟩) bs.length c))
    (hL : LiesB w B gB bs) (hbs : bs.length ≤ 1000000) (hd : i + 1 < bs.length) (hi : 0 < (bs.getD (i + 1) bk0).2.length) (hI : I64 ((bs.getD (i + 1) bk0).2.getD 0 pq0).1 ∧ I64 ((bs.getD (i + 1) bk0).2.getD 0 pq0).2) (hT : Tells k caps Q B w) :
    Calls Try.prog 148 #[.int .i64 i, .pointer (some ⟨ga, 0, none⟩), .pointer (some ⟨gb, 0, none⟩)] w fun e w' => e = .returned (.bool (Q ((bs.getD (i + 1) bk0).2.getD 0 pq0))) ∧ Below w.heap.size w w' := by
  have c1 := hL.hd (i + 1) hd
  obtain ⟨s0, s1⟩ := hL.score hd hi
  have K := Lib.hid (hT _ _ hI.1 hI.2)
  have h1 : (0 : Int) < ((bs.getD (i + 1) bk0).2.length : Int) := by omega
  have h2 : ((i + 1 : Nat) : Int) < (bs.length : Int) := by omega
  rw [show ((bs.getD (i + 1) bk0).2.getD 0 pq0) = (((bs.getD (i + 1) bk0).2.getD 0 pq0).1, ((bs.getD (i + 1) bk0).2.getD 0 pq0).2) from rfl]
  unfold blkV at c1
  generalize ((bs.getD (i + 1) bk0).2.getD 0 pq0).1 = p at *
  generalize ((bs.getD (i + 1) bk0).2.getD 0 pq0).2 = q at *
  generalize (bs.getD (i + 1) bk0).2.length = m at *
  generalize (bs.getD (i + 1) bk0).1 = g at *
  have hwr : IntKind.i64.wrap ((i : Int) + 1) = ((i + 1 : Nat) : Int) := by
    simp [IntKind.wrap, IntKind.bits, IntKind.signed]; omega
  generalize bs.length = N at *
  generalize i + 1 = i1 at *
  clear hL hI hT
  go_enter Try.func148, Try.ntmps148
  go_wp2
  go_still_tail 8, (by kernel_rfl)
  go_wp2_with fail
  refine (K.out w.drew ((Below.refl _ _).drew)).mono ?_
  rintro e w1 ⟨rfl, b1⟩
  go_wp2
  go_ret
  exact ⟨rfl, (Below.refl _ _).drew.trans b1⟩
end Go.Proofs.Ytaeodkpkgbjaeaa
