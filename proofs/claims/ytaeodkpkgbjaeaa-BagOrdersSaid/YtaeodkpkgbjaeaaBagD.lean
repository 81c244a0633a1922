/- Layer 18 (bag): find. -/
import Derived.Test.YtaeodkpkgbjaeaaBagC
import Derived.Deep.RegionHeld3
namespace Go.Proofs.Ytaeodkpkgbjaeaa
open Go.RowKit
set_option linter.unusedVariables false
set_option linter.unusedSimpArgs false

/-- the i-th block's j-th score -/
def scA (bs : List Blk) (i j : Nat) : PQ := (bs.getD i bk0).2.getD j pq0
def lnA (bs : List Blk) (i : Nat) : Nat := (bs.getD i bk0).2.length
/-- blocks as they stand: some, few, none empty behind the first, none too long, their scores numbers -/
structure OkB (bs : List Blk) : Prop where
  some : 0 < bs.length
  few : bs.length ≤ 1000000
  full : ∀ i, 0 < i → i < bs.length → 0 < lnA bs i
  room : ∀ i, i < bs.length → lnA bs i ≤ 64
  nums : ∀ i j, i < bs.length → j < lnA bs i → I64 (scA bs i j).1 ∧ I64 (scA bs i j).2
set_option maxRecDepth 100000 in
set_option maxHeartbeats 4000000 in
theorem bag_find (gB c k B : Nat) (caps : Array Value) (Q : PQ → Bool) (bs : List Blk) (w : World) (eg : ∀ args w, (callFunc k args).run Try.prog w = .ok (.enter k args) w) (hB : B ≤ w.heap.size)
    (hL : LiesB w B gB bs) (hO : OkB bs) (hT : Tells k caps Q B w)
    (m1 : ∀ i j : Nat, i ≤ j → j + 1 < bs.length → Q (scA bs (i + 1) 0) = true → Q (scA bs (j + 1) 0) = true)
    (m2 : ∀ d i j : Nat, d < bs.length → i ≤ j → j < lnA bs d → Q (scA bs d i) = true → Q (scA bs d j) = true) :
    Calls Try.prog 88 #[.slice (some ⟨gB, 0, none⟩) bs.length c, .func (.func k) #[] caps] w fun e w' => ∃ d r : Nat, e = .returned (.tuple #[.int .i64 d, .int .i64 r]) ∧ d < bs.length ∧ r ≤ lnA bs d ∧
      (∀ i, i < d → Q (scA bs (i + 1) 0) = false) ∧ (∀ i, d ≤ i → i + 1 < bs.length → Q (scA bs (i + 1) 0) = true) ∧ (∀ j, j < r → Q (scA bs d j) = false) ∧ (∀ j, r ≤ j → j < lnA bs d → Q (scA bs d j) = true) ∧ Below w.heap.size w w' := by
  have J0 := Lib.hid (((Keeps.start w).alloc #[.slice (some ⟨gB, 0, none⟩) bs.length c] 124).alloc #[.func (.func k) #[] caps] 44)
  have ca := (J0.out.head.cell 0).trans rfl
  have cb := (J0.out.tail.head.cell 0).trans rfl
  obtain ⟨n1, hn1⟩ : ∃ n1 : Nat, n1 + 1 = bs.length := ⟨bs.length - 1, by have := hO.some; omega⟩
  have hfew := hO.few
  have hwr : IntKind.i64.wrap ((bs.length : Int) - 1) = (n1 : Int) := by simp [IntKind.wrap, IntKind.bits, IntKind.signed]; omega
  have K1 := Lib.hid (bag_first n1 148 #[.pointer (some ⟨w.heap.size + 1, 0, none⟩), .pointer (some ⟨w.heap.size, 0, none⟩)] (fun i => Q (scA bs (i + 1) 0)) _ (by omega) (enters_of Try.func148 (by kernel_rfl) rfl)
    (fun i hi wr hb => by
      have hb0 : Below w.heap.size w wr := J0.out.2.1.trans (hb.mono J0.out.2.1.size)
      have hq := (J0.out.below hb)
      have hb1 := hb0.mono hB
      exact bag_find1 i gB c (w.heap.size + 1) w.heap.size k B caps Q bs wr eg (by have := hb0.size; omega) (by have := (hq.head.cell 0).trans rfl; simpa using this) ((hq.tail.head.cell 0).trans rfl) (hL.below hb1) hfew (by omega) (hO.full (i + 1) (by omega) (by omega)) (hO.nums (i + 1) 0 (by omega) (hO.full (i + 1) (by omega) (by omega))) (hT.below hb1))
    (fun i j hij hj h => m1 i j hij (by omega) h))
  go_enter Try.func88, Try.ntmps88
  go_wp2_with fail
  refine K1.out.mono ?_
  rintro e w1 ⟨d, rfl, hd, F1, T1, b1⟩
  have X := Lib.hid (J0.out.below b1)
  have hx1 := X.out.head.lt
  have hx0 := X.out.tail.head.lt
  simp only [alloc_size'] at hx1
  have J1 := Lib.hid (X.out.alloc #[.int .i64 d] 3)
  have hdn : d < bs.length := by omega
  have HN := Lib.hid (fun j (hj : j < lnA bs d) => hO.nums d j hdn hj)
  have hb2 := J1.out.2.1.mono hB
  have K2 := Lib.hid (fun (W : World) (h : Below (w1.alloc (.cells #[.int .i64 d] 3)).heap.size (w1.alloc (.cells #[.int .i64 d] 3)) W) => bag_first (lnA bs d) 149 #[.pointer (some ⟨w.heap.size + 1, 0, none⟩), .pointer (some ⟨w.heap.size, 0, none⟩), .pointer (some ⟨w1.heap.size, 0, none⟩)] (fun j => Q (scA bs d j)) W (by have := hO.room d hdn; omega) (enters_of Try.func149 (by kernel_rfl) rfl)
    (fun j hj wr hb => by
      have hq := J1.out.below (Below.trans h (hb.mono h.size))
      have hb1 := hq.2.1.mono hB
      have hsz := hq.2.1.size
      exact bag_find2 j gB c d (w.heap.size + 1) w.heap.size w1.heap.size k B caps Q bs wr eg (by omega) (by have := (hq.tail.head.cell 0).trans rfl; simpa using this) ((hq.tail.tail.head.cell 0).trans rfl) ((hq.head.cell 0).trans rfl) (hL.below hb1) hdn hj (HN.out j hj) (hT.below hb1))
    (fun i j hij hj h => m2 d i j hdn hij hj h))
  have K3 : Hid (∀ W : World, Below (w1.alloc (.cells #[.int .i64 d] 3)).heap.size (w1.alloc (.cells #[.int .i64 d] 3)) W → Calls Try.prog 147 #[.int .i64 (lnA bs d : Nat), .func (.func 149) #[] #[.pointer (some ⟨w.heap.size + 1, 0, none⟩), .pointer (some ⟨w.heap.size, 0, none⟩), .pointer (some ⟨w1.heap.size, 0, none⟩)]] W fun e w' => ∃ r : Nat, e = .returned (.int .i64 r) ∧ (w'.cell? ⟨w1.heap.size, 0, none⟩ = some (.int .i64 d) ∧ w'.cell? ⟨w.heap.size, 0, none⟩ = some (.slice (some ⟨gB, 0, none⟩) bs.length c) ∧ w'.cell? ⟨gB, d, none⟩ = some (.slice (some ⟨(bs.getD d bk0).1, 0, none⟩) (lnA bs d) 64)) ∧ Hid (r ≤ lnA bs d ∧ (∀ j, j < r → Q (scA bs d j) = false) ∧ (∀ j, r ≤ j → j < lnA bs d → Q (scA bs d j) = true) ∧ Below w.heap.size w w')) := fun W h => by
    refine Calls.mono (K2.out W h) ?_
    rintro e w2 ⟨r, rfl, hr, F2, T2, b2⟩
    have hq := J1.out.below (h.trans (b2.mono h.size))
    exact ⟨r, rfl, ⟨(hq.head.cell 0).trans rfl, (hq.tail.tail.head.cell 0).trans rfl, (hL.below (hq.2.1.mono hB)).hd d hdn⟩, hr, F2, T2, hq.2.1⟩
  clear K2
  have ca2 := (J1.out.tail.head.cell 0).trans rfl
  have cb2 := (J1.out.tail.tail.head.cell 0).trans rfl
  have cc2 := (J1.out.head.cell 0).trans rfl
  have c1 := (hL.below hb2).hd d hdn
  have hdi : (d : Int) < (bs.length : Int) := by omega
  unfold blkV at c1
  have HLN : Hid ((bs.getD d bk0).2.length = lnA bs d) := rfl
  clear ca cb
  go_wp2
  generalize hW : w1.alloc (.cells #[.int .i64 d] 3) = W2 at *
  simp only [alloc_size'] at ca2 cb2 cc2
  rw [HLN.out] at c1
  generalize (bs.getD d bk0).1 = g at *
  clear HLN HN J0 K1 J1 X
  go_region_held3 (fun w3 => w3.cell? ⟨w1.heap.size, 0, none⟩ = some (.int .i64 d) ∧ w3.cell? ⟨w.heap.size, 0, none⟩ = some (.slice (some ⟨gB, 0, none⟩) bs.length c) ∧ w3.cell? ⟨gB, d, none⟩ = some (.slice (some ⟨g, 0, none⟩) (lnA bs d) 64)) (go_keep)
    (first | (go_at_call 147; refine Calls.mono (K3.out _ ?_) ?_; (first | exact Below.refl _ _ | exact (Below.refl _ _).drew | exact below_drewN (Below.refl _ _) _); rintro e w2 ⟨r, rfl, ⟨cc3, cb3, c3⟩, HR⟩))
  go_wp2
  go_ret2
  exact ⟨d, r, rfl, hdn, HR.out.1, F1, fun i h1 h2 => T1 i h1 (by omega), HR.out.2.1, HR.out.2.2.1, HR.out.2.2.2⟩
end Go.Proofs.Ytaeodkpkgbjaeaa
