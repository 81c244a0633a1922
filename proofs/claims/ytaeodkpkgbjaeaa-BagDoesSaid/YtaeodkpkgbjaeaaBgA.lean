/- BagA BagB BagC BagD BagE BagF BagG BagI BagL -/
import Derived.Test.YtaeodkpkgbjaeaaScoC
import Derived.Shelf.Abstract
import Derived.StillTailTactics
import Derived.Deep.RegionHeld3
import Derived.Test.YtaeodkpkgbjaeaaScoN

/-! Layer 18 (bag): the closure of beyond, check, first. -/
namespace Go.Proofs.Ytaeodkpkgbjaeaa
open Go.RowKit
set_option linter.unusedVariables false
set_option linter.unusedSimpArgs false

/-- whether the first of two scores is odder -/
def byB (a b c d : Int) : Bool := decide (0 < cpN a b c d)
set_option maxRecDepth 100000 in
set_option maxHeartbeats 4000000 in
theorem bag_more (a b c d : Int) (ha : I64 a) (hb : I64 b) (hc : I64 c) (hd : I64 d) (gl : Nat) (w : World) (hl : Box w gl #[.int .i64 c, .int .i64 d] 24) :
    Calls Try.prog 145 #[.agg #[.int .i64 a, .int .i64 b], .pointer (some ⟨gl, 0, none⟩)] w fun e w' => e = .returned (.bool (byB a b c d)) ∧ Below w.heap.size w w' := by
  have J0 := Lib.hid ((Keeps.start w).alloc #[.int .i64 a, .int .i64 b] 24)
  obtain ⟨x0, x1, _, _⟩ := J0.out.head.two
  have HL := Lib.hid (hl.below J0.out.2.1 hl.lt)
  obtain ⟨l0, l1, _, _⟩ := HL.out.two
  have K := Lib.hid (fun W => sco_cmp a b c d ha hb hc hd W)
  unfold byB
  unfold cpV at K
  generalize cpE a b c d = e0 at *
  generalize cpN a b c d = n at *
  clear hl
  go_enter Try.func145, Try.ntmps145
  go_wp2_with fail
  refine (K.out _).mono ?_
  rintro e w1 ⟨rfl, b1⟩
  have J1 := Lib.hid (J0.out.below b1)
  clear b1 x0 x1 l0 l1
  go_wp2
  go_ret
  exact ⟨by trivial, J1.out.2.1⟩
def bcE (p q : Int) : Int := if scoB p q = true then 0 else 130
set_option maxRecDepth 100000 in
set_option maxHeartbeats 4000000 in
theorem bag_check (o : Option Addr) (p q : Int) (hp : I64 p) (hq : I64 q) (w : World) :
    Calls Try.prog 84 #[.pointer o, .agg #[.int .i64 p, .int .i64 q]] w fun e w' => e = .returned (.int .i64 (if o = none then 7 else bcE p q)) ∧ Below w.heap.size w w' := by
  have J0 := Lib.hid ((Keeps.start w).alloc #[.int .i64 p, .int .i64 q] 24)
  have K := Lib.hid (fun W => sco_is p q hp hq W)
  unfold bcE
  generalize scoB p q = B at *
  cases o with
  | none =>
    go_enter Try.func84, Try.ntmps84
    go_wp2
    go_ret
    exact ⟨by trivial, J0.out.2.1⟩
  | some A =>
    cases B
    all_goals
      obtain ⟨x0, x1, _, _⟩ := J0.out.head.two
      go_enter Try.func84, Try.ntmps84
      go_wp2_with fail
      refine (K.out _).mono ?_
      rintro e w1 ⟨rfl, b1⟩
      have J1 := Lib.hid (J0.out.below b1)
      clear b1 x0 x1
      go_wp2
      go_ret
      exact ⟨by trivial, J1.out.2.1⟩
end Go.Proofs.Ytaeodkpkgbjaeaa

/-! Layer 18 (bag): first, at any closure. -/
namespace Go.Proofs.Ytaeodkpkgbjaeaa
open Go.RowKit
set_option linter.unusedVariables false
set_option linter.unusedSimpArgs false

set_option maxRecDepth 100000 in
set_option maxHeartbeats 4000000 in
theorem bag_first (n f : Nat) (caps : Array Value) (P : Nat → Bool) (w : World) (hn : n ≤ 1000000000) (eg : ∀ args w, (callFunc f args).run Try.prog w = .ok (.enter f args) w)
    (hP : ∀ i : Nat, i < n → ∀ wr : World, Below w.heap.size w wr → Calls Try.prog f (#[.int .i64 i] ++ caps) wr fun e w' => e = .returned (.bool (P i)) ∧ Below wr.heap.size wr w')
    (hM : ∀ i j : Nat, i ≤ j → j < n → P i = true → P j = true) :
    Calls Try.prog 147 #[.int .i64 n, .func (.func f) #[] caps] w fun e w' => ∃ r : Nat, e = .returned (.int .i64 r) ∧ r ≤ n ∧ (∀ i, i < r → P i = false) ∧ (∀ i, r ≤ i → i < n → P i = true) ∧ Below w.heap.size w w' := by
  have HP := Lib.hid hP
  have HM := Lib.hid hM
  clear hP hM
  go_enter Try.func147, Try.ntmps147
  go_wp2
  go_loopw [5, 6] (fun lv hv wr => ∃ lo hi : Nat, lv = .int .i64 lo ∧ hv = .int .i64 hi ∧ lo ≤ hi ∧ hi ≤ n ∧ Hid (∀ i, i < lo → P i = false) ∧ Hid (∀ i, hi ≤ i → i < n → P i = true) ∧ Hid (Below w.heap.size w wr)) (fun lv hv _ => (intOf hv - intOf lv).toNat)
  case atStart => exact ⟨0, n, rfl, rfl, by omega, by omega, fun i h => absurd h (by omega), fun i h g => absurd h (by omega), Below.refl _ _⟩
  case round =>
    obtain ⟨lo, hi, rfl, rfl, h1, h2, HF, HT, HW⟩ := hrel
    by_cases hlt : lo < hi
    · obtain ⟨m, hm1, hm2, hmI⟩ : ∃ m : Nat, lo ≤ m ∧ m < hi ∧ ((lo : Int) + (hi : Int)) / 2 = (m : Int) := ⟨(lo + hi) / 2, by omega, by omega, by omega⟩
      have K := Lib.hid (HP.out m (by omega) wr HW.out)
      have HMT : Hid (P m = true → ∀ i, m ≤ i → i < n → P i = true) := fun h i h1 h2 => HM.out m i h1 h2 h
      have HMF : Hid (P m = false → ∀ i, i < m + 1 → P i = false) := fun h i h1 => by
        rcases Bool.eq_false_or_eq_true (P i) with g | g
        · exact absurd (HM.out i m (by omega) (by omega) g) (by rw [h]; simp)
        · exact g
      generalize P m = B at *
      cases B
      · have HX := Lib.hid (HMF.out rfl)
        clear HMF HMT HF
        go_wp2_with fail
        refine K.out.mono ?_
        rintro e w1 ⟨rfl, b1⟩
        have HW1 := Lib.hid (HW.out.trans (b1.mono HW.out.size))
        clear b1
        go_wp2
        refine ⟨⟨m + 1, hi, by go_num, rfl, by omega, h2, HX, HT, HW1⟩, ?_⟩
        simp only [intOf]
        omega
      · have HX := Lib.hid (HMT.out rfl)
        clear HMF HMT HT
        go_wp2_with fail
        refine K.out.mono ?_
        rintro e w1 ⟨rfl, b1⟩
        have HW1 := Lib.hid (HW.out.trans (b1.mono HW.out.size))
        clear b1
        go_wp2
        refine ⟨⟨lo, m, rfl, rfl, hm1, by omega, HF, HX, HW1⟩, ?_⟩
        simp only [intOf]
        omega
    · obtain rfl : lo = hi := by omega
      go_wp2
      go_ret
      exact ⟨lo, rfl, h2, HF.out, HT.out, HW.out⟩
end Go.Proofs.Ytaeodkpkgbjaeaa

/-! Layer 18 (bag): the blocks in memory; what find's closures tell. -/
namespace Go.Proofs.Ytaeodkpkgbjaeaa
open Go.RowKit
set_option linter.unusedVariables false
set_option linter.unusedSimpArgs false

abbrev Blk := Nat × List PQ
def bk0 : Blk := (0, [])
def blkV (b : Blk) : Value := .slice (some ⟨b.1, 0, none⟩) b.2.length 64
/-- the row of blocks in block gB; all below B -/
structure LiesB (w : World) (B gB : Nat) (bs : List Blk) : Prop where
  lt : gB < B
  hd : ∀ i, i < bs.length → w.cell? ⟨gB, i, none⟩ = some (blkV (bs.getD i bk0))
  sc : ∀ i, i < bs.length → LiesS w B (some ⟨(bs.getD i bk0).1, 0, none⟩) (bs.getD i bk0).2
theorem LiesB.below {w w' : World} {B gB : Nat} {bs : List Blk} (h : LiesB w B gB bs) (hb : Below B w w') : LiesB w' B gB bs :=
  ⟨h.lt, fun i hi => (hb.cell (p := ⟨gB, i, none⟩) h.lt).trans (h.hd i hi), fun i hi => (h.sc i hi).below hb⟩
theorem LiesB.score {w : World} {B gB : Nat} {bs : List Blk} (h : LiesB w B gB bs) {i j : Nat} (hi : i < bs.length) (hj : j < (bs.getD i bk0).2.length) :
    w.cell? ⟨(bs.getD i bk0).1, j * 2, none⟩ = some (.int .i64 ((bs.getD i bk0).2.getD j pq0).1) ∧ w.cell? ⟨(bs.getD i bk0).1, j * 2 + 1, none⟩ = some (.int .i64 ((bs.getD i bk0).2.getD j pq0).2) := by
  obtain ⟨ad, e, hb, c0, c1⟩ := (h.sc i hi).at hj
  injection e with e
  subst e
  have e1 : (⟨(bs.getD i bk0).1, 0, none⟩ : Addr).add (j * 2) = ⟨(bs.getD i bk0).1, j * 2, none⟩ := by unfold Addr.add; split <;> simp_all
  rw [e1] at c0 c1
  exact ⟨c0, c1⟩
/-- what a function of scores tells, in whatever world that has grown of w -/
def Tells (k : Nat) (caps : Array Value) (Q : PQ → Bool) (B : Nat) (w : World) : Prop :=
  ∀ (p q : Int), I64 p → I64 q → ∀ wr : World, Below B w wr → Calls Try.prog k (#[.agg #[.int .i64 p, .int .i64 q]] ++ caps) wr fun e w' => e = .returned (.bool (Q (p, q))) ∧ Below wr.heap.size wr w'
theorem Tells.below {k : Nat} {caps : Array Value} {Q : PQ → Bool} {B : Nat} {w w' : World} (h : Tells k caps Q B w) (hb : Below B w w') : Tells k caps Q B w' :=
  fun p q hp hq wr h2 => h p q hp hq wr (hb.trans h2)
set_option maxRecDepth 100000 in
set_option maxHeartbeats 4000000 in
theorem bag_find2 (i gB c d ga gb gc k B : Nat) (caps : Array Value) (Q : PQ → Bool) (bs : List Blk) (w : World) (eg : ∀ args w, (callFunc k args).run Try.prog w = .ok (.enter k args) w) (hB : B ≤ w.heap.size)
    (ca : w.cell? ⟨ga, 0, none⟩ = some (.func (.func k) #[] caps)) (cb : w.cell? ⟨gb, 0, none⟩ = some (.slice (some ⟨gB, 0, none⟩) bs.length c)) (cc : w.cell? ⟨gc, 0, none⟩ = some (.int .i64 d))
    (hL : LiesB w B gB bs) (hd : d < bs.length) (hi : i < (bs.getD d bk0).2.length) (hI : I64 ((bs.getD d bk0).2.getD i pq0).1 ∧ I64 ((bs.getD d bk0).2.getD i pq0).2) (hT : Tells k caps Q B w) :
    Calls Try.prog 149 #[.int .i64 i, .pointer (some ⟨ga, 0, none⟩), .pointer (some ⟨gb, 0, none⟩), .pointer (some ⟨gc, 0, none⟩)] w fun e w' => e = .returned (.bool (Q ((bs.getD d bk0).2.getD i pq0))) ∧ Below w.heap.size w w' := by
  have c1 := hL.hd d hd
  obtain ⟨s0, s1⟩ := hL.score hd hi
  have K := Lib.hid (hT _ _ hI.1 hI.2)
  have h1 : (i : Int) < ((bs.getD d bk0).2.length : Int) := by omega
  have h2 : (d : Int) < (bs.length : Int) := by omega
  rw [show ((bs.getD d bk0).2.getD i pq0) = (((bs.getD d bk0).2.getD i pq0).1, ((bs.getD d bk0).2.getD i pq0).2) from rfl]
  unfold blkV at c1
  generalize ((bs.getD d bk0).2.getD i pq0).1 = p at *
  generalize ((bs.getD d bk0).2.getD i pq0).2 = q at *
  generalize (bs.getD d bk0).2.length = m at *
  generalize (bs.getD d bk0).1 = g at *
  generalize bs.length = N at *
  clear hL hI hT
  go_enter Try.func149, Try.ntmps149
  go_wp2
  go_still_tail 8, (by kernel_rfl)
  go_wp2_with fail
  refine (K.out w.drew ((Below.refl _ _).drew)).mono ?_
  rintro e w1 ⟨rfl, b1⟩
  go_wp2
  go_ret
  exact ⟨rfl, (Below.refl _ _).drew.trans b1⟩
set_option maxRecDepth 100000 in
set_option maxHeartbeats 4000000 in
theorem bag_find1 (i gB c ga gb k B : Nat) (caps : Array Value) (Q : PQ → Bool) (bs : List Blk) (w : World) (eg : ∀ args w, (callFunc k args).run Try.prog w = .ok (.enter k args) w) (hB : B ≤ w.heap.size)
    (ca : w.cell? ⟨ga, 0, none⟩ = some (.func (.func k) #[] caps)) (cb : w.cell? ⟨gb, 0, none⟩ = some (.slice (some ⟨gB, 0, none⟩) bs.length c))
    (hL : LiesB w B gB bs) (hbs : bs.length ≤ 1000000) (hd : i + 1 < bs.length) (hi : 0 < (bs.getD (i + 1) bk0).2.length) (hI : I64 ((bs.getD (i + 1) bk0).2.getD 0 pq0).1 ∧ I64 ((bs.getD (i + 1) bk0).2.getD 0 pq0).2) (hT : Tells k caps Q B w) :
    Calls Try.prog 148 #[.int .i64 i, .pointer (some ⟨ga, 0, none⟩), .pointer (some ⟨gb, 0, none⟩)] w fun e w' => e = .returned (.bool (Q ((bs.getD (i + 1) bk0).2.getD 0 pq0))) ∧ Below w.heap.size w w' := by
  have c1 := hL.hd (i + 1) hd
  obtain ⟨s0, s1⟩ := hL.score hd hi
  have K := Lib.hid (hT _ _ hI.1 hI.2)
  have h1 : (0 : Int) < ((bs.getD (i + 1) bk0).2.length : Int) := by omega
  have h2 : ((i + 1 : Nat) : Int) < (bs.length : Int) := by omega
  rw [show ((bs.getD (i + 1) bk0).2.getD 0 pq0) = (((bs.getD (i + 1) bk0).2.getD 0 pq0).1, ((bs.getD (i + 1) bk0).2.getD 0 pq0).2) from rfl]
  unfold blkV at c1
  generalize ((bs.getD (i + 1) bk0).2.getD 0 pq0).1 = p at *
  generalize ((bs.getD (i + 1) bk0).2.getD 0 pq0).2 = q at *
  generalize (bs.getD (i + 1) bk0).2.length = m at *
  generalize (bs.getD (i + 1) bk0).1 = g at *
  have hwr : IntKind.i64.wrap ((i : Int) + 1) = ((i + 1 : Nat) : Int) := by
    simp [IntKind.wrap, IntKind.bits, IntKind.signed]; omega
  generalize bs.length = N at *
  generalize i + 1 = i1 at *
  clear hL hI hT
  go_enter Try.func148, Try.ntmps148
  go_wp2
  go_still_tail 8, (by kernel_rfl)
  go_wp2_with fail
  refine (K.out w.drew ((Below.refl _ _).drew)).mono ?_
  rintro e w1 ⟨rfl, b1⟩
  go_wp2
  go_ret
  exact ⟨rfl, (Below.refl _ _).drew.trans b1⟩
end Go.Proofs.Ytaeodkpkgbjaeaa

/-! Layer 18 (bag): find. -/
namespace Go.Proofs.Ytaeodkpkgbjaeaa
open Go.RowKit
set_option linter.unusedVariables false
set_option linter.unusedSimpArgs false

/-- the i-th block's j-th score -/
def scA (bs : List Blk) (i j : Nat) : PQ := (bs.getD i bk0).2.getD j pq0
def lnA (bs : List Blk) (i : Nat) : Nat := (bs.getD i bk0).2.length
/-- blocks as they stand: some, few, none empty behind the first, none too long, their scores numbers -/
structure OkB (bs : List Blk) : Prop where
  some : 0 < bs.length
  few : bs.length ≤ 1000000
  full : ∀ i, 0 < i → i < bs.length → 0 < lnA bs i
  room : ∀ i, i < bs.length → lnA bs i ≤ 64
  nums : ∀ i j, i < bs.length → j < lnA bs i → I64 (scA bs i j).1 ∧ I64 (scA bs i j).2
set_option maxRecDepth 100000 in
set_option maxHeartbeats 4000000 in
theorem bag_find (gB c k B : Nat) (caps : Array Value) (Q : PQ → Bool) (bs : List Blk) (w : World) (eg : ∀ args w, (callFunc k args).run Try.prog w = .ok (.enter k args) w) (hB : B ≤ w.heap.size)
    (hL : LiesB w B gB bs) (hO : OkB bs) (hT : Tells k caps Q B w)
    (m1 : ∀ i j : Nat, i ≤ j → j + 1 < bs.length → Q (scA bs (i + 1) 0) = true → Q (scA bs (j + 1) 0) = true)
    (m2 : ∀ d i j : Nat, d < bs.length → i ≤ j → j < lnA bs d → Q (scA bs d i) = true → Q (scA bs d j) = true) :
    Calls Try.prog 88 #[.slice (some ⟨gB, 0, none⟩) bs.length c, .func (.func k) #[] caps] w fun e w' => ∃ d r : Nat, e = .returned (.tuple #[.int .i64 d, .int .i64 r]) ∧ d < bs.length ∧ r ≤ lnA bs d ∧
      (∀ i, i < d → Q (scA bs (i + 1) 0) = false) ∧ (∀ i, d ≤ i → i + 1 < bs.length → Q (scA bs (i + 1) 0) = true) ∧ (∀ j, j < r → Q (scA bs d j) = false) ∧ (∀ j, r ≤ j → j < lnA bs d → Q (scA bs d j) = true) ∧ Below w.heap.size w w' := by
  have J0 := Lib.hid (((Keeps.start w).alloc #[.slice (some ⟨gB, 0, none⟩) bs.length c] 124).alloc #[.func (.func k) #[] caps] 44)
  have ca := (J0.out.head.cell 0).trans rfl
  have cb := (J0.out.tail.head.cell 0).trans rfl
  obtain ⟨n1, hn1⟩ : ∃ n1 : Nat, n1 + 1 = bs.length := ⟨bs.length - 1, by have := hO.some; omega⟩
  have hfew := hO.few
  have hwr : IntKind.i64.wrap ((bs.length : Int) - 1) = (n1 : Int) := by simp [IntKind.wrap, IntKind.bits, IntKind.signed]; omega
  have K1 := Lib.hid (bag_first n1 148 #[.pointer (some ⟨w.heap.size + 1, 0, none⟩), .pointer (some ⟨w.heap.size, 0, none⟩)] (fun i => Q (scA bs (i + 1) 0)) _ (by omega) (enters_of Try.func148 (by kernel_rfl) rfl)
    (fun i hi wr hb => by
      have hb0 : Below w.heap.size w wr := J0.out.2.1.trans (hb.mono J0.out.2.1.size)
      have hq := (J0.out.below hb)
      have hb1 := hb0.mono hB
      exact bag_find1 i gB c (w.heap.size + 1) w.heap.size k B caps Q bs wr eg (by have := hb0.size; omega) (by have := (hq.head.cell 0).trans rfl; simpa using this) ((hq.tail.head.cell 0).trans rfl) (hL.below hb1) hfew (by omega) (hO.full (i + 1) (by omega) (by omega)) (hO.nums (i + 1) 0 (by omega) (hO.full (i + 1) (by omega) (by omega))) (hT.below hb1))
    (fun i j hij hj h => m1 i j hij (by omega) h))
  go_enter Try.func88, Try.ntmps88
  go_wp2_with fail
  refine K1.out.mono ?_
  rintro e w1 ⟨d, rfl, hd, F1, T1, b1⟩
  have X := Lib.hid (J0.out.below b1)
  have hx1 := X.out.head.lt
  have hx0 := X.out.tail.head.lt
  simp only [alloc_size'] at hx1
  have J1 := Lib.hid (X.out.alloc #[.int .i64 d] 3)
  have hdn : d < bs.length := by omega
  have HN := Lib.hid (fun j (hj : j < lnA bs d) => hO.nums d j hdn hj)
  have hb2 := J1.out.2.1.mono hB
  have K2 := Lib.hid (fun (W : World) (h : Below (w1.alloc (.cells #[.int .i64 d] 3)).heap.size (w1.alloc (.cells #[.int .i64 d] 3)) W) => bag_first (lnA bs d) 149 #[.pointer (some ⟨w.heap.size + 1, 0, none⟩), .pointer (some ⟨w.heap.size, 0, none⟩), .pointer (some ⟨w1.heap.size, 0, none⟩)] (fun j => Q (scA bs d j)) W (by have := hO.room d hdn; omega) (enters_of Try.func149 (by kernel_rfl) rfl)
    (fun j hj wr hb => by
      have hq := J1.out.below (Below.trans h (hb.mono h.size))
      have hb1 := hq.2.1.mono hB
      have hsz := hq.2.1.size
      exact bag_find2 j gB c d (w.heap.size + 1) w.heap.size w1.heap.size k B caps Q bs wr eg (by omega) (by have := (hq.tail.head.cell 0).trans rfl; simpa using this) ((hq.tail.tail.head.cell 0).trans rfl) ((hq.head.cell 0).trans rfl) (hL.below hb1) hdn hj (HN.out j hj) (hT.below hb1))
    (fun i j hij hj h => m2 d i j hdn hij hj h))
  have K3 : Hid (∀ W : World, Below (w1.alloc (.cells #[.int .i64 d] 3)).heap.size (w1.alloc (.cells #[.int .i64 d] 3)) W → Calls Try.prog 147 #[.int .i64 (lnA bs d : Nat), .func (.func 149) #[] #[.pointer (some ⟨w.heap.size + 1, 0, none⟩), .pointer (some ⟨w.heap.size, 0, none⟩), .pointer (some ⟨w1.heap.size, 0, none⟩)]] W fun e w' => ∃ r : Nat, e = .returned (.int .i64 r) ∧ (w'.cell? ⟨w1.heap.size, 0, none⟩ = some (.int .i64 d) ∧ w'.cell? ⟨w.heap.size, 0, none⟩ = some (.slice (some ⟨gB, 0, none⟩) bs.length c) ∧ w'.cell? ⟨gB, d, none⟩ = some (.slice (some ⟨(bs.getD d bk0).1, 0, none⟩) (lnA bs d) 64)) ∧ Hid (r ≤ lnA bs d ∧ (∀ j, j < r → Q (scA bs d j) = false) ∧ (∀ j, r ≤ j → j < lnA bs d → Q (scA bs d j) = true) ∧ Below w.heap.size w w')) := fun W h => by
    refine Calls.mono (K2.out W h) ?_
    rintro e w2 ⟨r, rfl, hr, F2, T2, b2⟩
    have hq := J1.out.below (h.trans (b2.mono h.size))
    exact ⟨r, rfl, ⟨(hq.head.cell 0).trans rfl, (hq.tail.tail.head.cell 0).trans rfl, (hL.below (hq.2.1.mono hB)).hd d hdn⟩, hr, F2, T2, hq.2.1⟩
  clear K2
  have ca2 := (J1.out.tail.head.cell 0).trans rfl
  have cb2 := (J1.out.tail.tail.head.cell 0).trans rfl
  have cc2 := (J1.out.head.cell 0).trans rfl
  have c1 := (hL.below hb2).hd d hdn
  have hdi : (d : Int) < (bs.length : Int) := by omega
  unfold blkV at c1
  have HLN : Hid ((bs.getD d bk0).2.length = lnA bs d) := rfl
  clear ca cb
  go_wp2
  generalize hW : w1.alloc (.cells #[.int .i64 d] 3) = W2 at *
  simp only [alloc_size'] at ca2 cb2 cc2
  rw [HLN.out] at c1
  generalize (bs.getD d bk0).1 = g at *
  clear HLN HN J0 K1 J1 X
  go_region_held3 (fun w3 => w3.cell? ⟨w1.heap.size, 0, none⟩ = some (.int .i64 d) ∧ w3.cell? ⟨w.heap.size, 0, none⟩ = some (.slice (some ⟨gB, 0, none⟩) bs.length c) ∧ w3.cell? ⟨gB, d, none⟩ = some (.slice (some ⟨g, 0, none⟩) (lnA bs d) 64)) (go_keep)
    (first | (go_at_call 147; refine Calls.mono (K3.out _ ?_) ?_; (first | exact Below.refl _ _ | exact (Below.refl _ _).drew | exact below_drewN (Below.refl _ _) _); rintro e w2 ⟨r, rfl, ⟨cc3, cb3, c3⟩, HR⟩))
  go_wp2
  go_ret2
  exact ⟨d, r, rfl, hdn, HR.out.1, F1, fun i h1 h2 => T1 i h1 (by omega), HR.out.2.1, HR.out.2.2.1, HR.out.2.2.2⟩
end Go.Proofs.Ytaeodkpkgbjaeaa

/-! Layer 18 (bag): upTo. -/
namespace Go.Proofs.Ytaeodkpkgbjaeaa
open Go.RowKit
set_option linter.unusedVariables false
set_option linter.unusedSimpArgs false

/-- how many scores the first i blocks hold -/
def sumA (bs : List Blk) (i : Nat) : Nat := ((List.range i).map (lnA bs)).sum
theorem sumA_succ (bs : List Blk) (i : Nat) : sumA bs (i + 1) = sumA bs i + lnA bs i := by
  unfold sumA; simp [List.range_succ]
theorem sumA_le {bs : List Blk} (h : OkB bs) : ∀ i, i ≤ bs.length → sumA bs i ≤ 64 * i
  | 0, _ => by simp [sumA]
  | i + 1, hi => by
    have h1 := sumA_le h i (by omega)
    have h2 := h.room i (by omega)
    rw [sumA_succ]; omega
set_option maxRecDepth 100000 in
set_option maxHeartbeats 4000000 in
theorem bag_upto (gB c k B : Nat) (caps : Array Value) (Q : PQ → Bool) (bs : List Blk) (w : World) (eg : ∀ args w, (callFunc k args).run Try.prog w = .ok (.enter k args) w) (hB : B ≤ w.heap.size)
    (hL : LiesB w B gB bs) (hO : OkB bs) (hc : bs.length ≤ c) (hT : Tells k caps Q B w)
    (m1 : ∀ i j : Nat, i ≤ j → j + 1 < bs.length → Q (scA bs (i + 1) 0) = true → Q (scA bs (j + 1) 0) = true)
    (m2 : ∀ d i j : Nat, d < bs.length → i ≤ j → j < lnA bs d → Q (scA bs d i) = true → Q (scA bs d j) = true) :
    Calls Try.prog 86 #[.slice (some ⟨gB, 0, none⟩) bs.length c, .func (.func k) #[] caps] w fun e w' => ∃ d r : Nat, e = .returned (.int .i64 ((sumA bs d + r : Nat) : Int)) ∧ d < bs.length ∧ r ≤ lnA bs d ∧
      (∀ i, i < d → Q (scA bs (i + 1) 0) = false) ∧ (∀ i, d ≤ i → i + 1 < bs.length → Q (scA bs (i + 1) 0) = true) ∧ (∀ j, j < r → Q (scA bs d j) = false) ∧ (∀ j, r ≤ j → j < lnA bs d → Q (scA bs d j) = true) ∧ Below w.heap.size w w' := by
  have K := Lib.hid (bag_find gB c k B caps Q bs w eg hB hL hO hT m1 m2)
  have HL := Lib.hid hL
  have HO := Lib.hid hO
  clear hL hO hT m1 m2 eg
  generalize hN : bs.length = N at *
  have HN := Lib.hid hN
  clear hN
  go_enter Try.func86, Try.ntmps86
  go_wp2_with fail
  refine K.out.mono ?_
  rintro e w1 ⟨d, r, rfl, hd, hr, F1, T1, F2, T2, b1⟩
  have HR : Hid (d < N ∧ r ≤ lnA bs d ∧ (∀ i, i < d → Q (scA bs (i + 1) 0) = false) ∧ (∀ i, d ≤ i → i + 1 < N → Q (scA bs (i + 1) 0) = true) ∧ (∀ j, j < r → Q (scA bs d j) = false) ∧ (∀ j, r ≤ j → j < lnA bs d → Q (scA bs d j) = true)) := ⟨hd, hr, F1, T1, F2, T2⟩
  have HB1 := Lib.hid b1
  have hdc : d ≤ c := by omega
  have hdn : d ≤ N := by omega
  have hr64 : r ≤ 64 := Nat.le_trans hr (HO.out.room d (by rw [HN.out]; exact hd))
  have hN6 : N ≤ 1000000 := by have := HO.out.few; rw [HN.out] at this; exact this
  clear F1 T1 F2 T2 b1 K hr
  go_wp2
  go_loopw [6, 19] (fun nv iv wr => ∃ i : Nat, i ≤ d ∧ nv = .int .i64 ((sumA bs i + r : Nat) : Int) ∧ iv = .int .i64 i ∧ wr = w1) (fun _ iv _ => d - (intOf iv).toNat)
  case atStart => exact ⟨0, by omega, by simp [sumA], rfl, rfl⟩
  case round =>
    obtain ⟨i, hi, rfl, rfl, rfl⟩ := hrel
    by_cases hlt : i < d
    · have hin : i < bs.length := by rw [HN.out]; omega
      have c1 := ((HL.out.below (HB1.out.mono hB)).hd i hin)
      have hs := sumA_le HO.out i (by omega)
      have h64 := HO.out.room i hin
      have HS := Lib.hid (sumA_succ bs i)
      unfold blkV at c1
      rw [show (bs.getD i bk0).2.length = lnA bs i from rfl] at c1
      generalize (bs.getD i bk0).1 = g at *
      generalize hS1 : sumA bs (i + 1) = s1 at *
      have HS1 := Lib.hid hS1
      clear hS1
      generalize sumA bs i = s at *
      generalize lnA bs i = m at *
      have hid : (i : Int) < (d : Int) := by omega
      clear hin
      go_wp2
      refine ⟨⟨i + 1, by omega, ?_, by go_num, trivial⟩, by simp only [intOf]; omega⟩
      rw [HS1.out, HS.out]
      refine congrArg (Value.int .i64) ?_
      omega
    · obtain rfl : i = d := by omega
      go_wp2
      go_ret
      refine ⟨i, r, ?_, HR.out.1, HR.out.2.1, HR.out.2.2.1, HR.out.2.2.2.1, HR.out.2.2.2.2.1, HR.out.2.2.2.2.2, HB1.out⟩
      refine congrArg (fun z => Ending.returned (Value.int .i64 z)) ?_
      first | rfl | (simp; done) | omega
end Go.Proofs.Ytaeodkpkgbjaeaa

/-! Layer 18 (bag): Len; beyond; what beyond's closure tells. -/
namespace Go.Proofs.Ytaeodkpkgbjaeaa
open Go.RowKit
set_option linter.unusedVariables false
set_option linter.unusedSimpArgs false

set_option maxRecDepth 100000 in
theorem bag_len (g : Nat) (v : Value) (n : Int) (w : World) (hb : Box w g #[v, .int .i64 n] 126) :
    Calls Try.prog 19 #[.pointer (some ⟨g, 0, none⟩)] w fun e w' => e = .returned (.int .i64 n) ∧ w = w' := by
  obtain ⟨x0, x1, _, _⟩ := hb.two
  go_enter Try.func19, Try.ntmps19
  go_wp2
  go_ret
  exact ⟨rfl, rfl⟩
set_option maxRecDepth 100000 in
theorem bag_len0 (w : World) :
    Calls Try.prog 19 #[.pointer none] w fun e w' => e = .returned (.int .i64 0) ∧ w = w' := by
  go_enter Try.func19, Try.ntmps19
  go_wp2
  go_ret
  exact ⟨rfl, rfl⟩
set_option maxRecDepth 100000 in
theorem bag_beyond (a b : Int) (w : World) :
    Calls Try.prog 85 #[.agg #[.int .i64 a, .int .i64 b]] w fun e w' => e = .returned (.func (.func 145) #[] #[.pointer (some ⟨w.heap.size, 0, none⟩)]) ∧ w' = w.alloc (.cells #[.int .i64 a, .int .i64 b] 24) := by
  go_enter Try.func85, Try.ntmps85
  go_wp2
  go_ret
  exact ⟨rfl, rfl⟩
/-- beyond's closure tells of any score whether it is odder than the one in block gl -/
theorem bag_tells (c d : Int) (hc : I64 c) (hd : I64 d) (gl B : Nat) (w : World) (hl : Box w gl #[.int .i64 c, .int .i64 d] 24) (hB : gl < B) :
    Tells 145 #[.pointer (some ⟨gl, 0, none⟩)] (fun x => byB x.1 x.2 c d) B w := fun p q hp hq wr hb =>
  bag_more p q c d hp hq hc hd gl wr (hl.below hb hB)
end Go.Proofs.Ytaeodkpkgbjaeaa

/-! Layer 18 (bag): the blocks' scores in one row; what find tells of it. -/
namespace Go.Proofs.Ytaeodkpkgbjaeaa
open Go.RowKit
set_option linter.unusedVariables false
set_option linter.unusedSimpArgs false

/-- all scores, one block's behind the other's -/
def flat (bs : List Blk) : List PQ := bs.flatMap (fun b => b.2)
theorem flat_cons (b : Blk) (bs : List Blk) : flat (b :: bs) = b.2 ++ flat bs := rfl
theorem flat_app (a b : List Blk) : flat (a ++ b) = flat a ++ flat b := by simp [flat]
theorem sumA_zero (bs : List Blk) : sumA bs 0 = 0 := rfl
theorem sumA_cons (b : Blk) (bs : List Blk) : ∀ i, sumA (b :: bs) (i + 1) = b.2.length + sumA bs i
  | 0 => by rw [sumA_succ, sumA_zero, sumA_zero]; simp [lnA]
  | i + 1 => by
    rw [sumA_succ, sumA_cons b bs i, sumA_succ]
    have : lnA (b :: bs) (i + 1) = lnA bs i := by simp [lnA]
    omega
theorem sumA_all (bs : List Blk) : sumA bs bs.length = (flat bs).length := by
  induction bs with
  | nil => rfl
  | cons b bs ih => rw [List.length_cons, sumA_cons, flat_cons, List.length_append, ih]
theorem sumA_mono (bs : List Blk) {i j : Nat} (h : i ≤ j) : sumA bs i ≤ sumA bs j := by
  induction j with
  | zero => obtain rfl : i = 0 := by omega
            exact Nat.le_refl _
  | succ j ih =>
    rcases Nat.lt_or_ge i (j + 1) with g | g
    · have := ih (by omega); rw [sumA_succ]; omega
    · obtain rfl : i = j + 1 := by omega
      exact Nat.le_refl _
theorem flat_at : ∀ (bs : List Blk) (d r : Nat), d < bs.length → r < lnA bs d → (flat bs).getD (sumA bs d + r) pq0 = scA bs d r ∧ sumA bs d + r < (flat bs).length
  | [], d, r, h, _ => absurd h (by simp)
  | b :: bs, 0, r, h, hr => by
    have hr : r < b.2.length := by simpa [lnA] using hr
    rw [sumA_zero, flat_cons, Nat.zero_add]
    refine ⟨?_, by rw [List.length_append]; omega⟩
    simp [scA, List.getElem?_append_left hr]
  | b :: bs, d + 1, r, h, hr => by
    have hr : r < lnA bs d := by simpa [lnA] using hr
    obtain ⟨h1, h2⟩ := flat_at bs d r (by simpa using h) hr
    rw [sumA_cons, flat_cons]
    refine ⟨?_, by rw [List.length_append]; omega⟩
    rw [show b.2.length + sumA bs d + r = b.2.length + (sumA bs d + r) by omega]
    have e : scA (b :: bs) (d + 1) r = scA bs d r := by simp [scA]
    rw [e, ← h1, List.getD_eq_getElem?_getD, List.getElem?_append_right (by omega)]
    simp
/-- once told, told of all that follow -/
def MonoQ (Q : PQ → Bool) (l : List PQ) : Prop := ∀ i j, i ≤ j → j < l.length → Q (l.getD i pq0) = true → Q (l.getD j pq0) = true
/-- the first p are not told, all others are -/
structure CutQ (Q : PQ → Bool) (l : List PQ) (p : Nat) : Prop where
  le : p ≤ l.length
  no : ∀ i, i < p → Q (l.getD i pq0) = false
  yes : ∀ i, p ≤ i → i < l.length → Q (l.getD i pq0) = true
theorem MonoQ.m1 {Q : PQ → Bool} {bs : List Blk} (h : MonoQ Q (flat bs)) (hO : OkB bs) : ∀ i j : Nat, i ≤ j → j + 1 < bs.length → Q (scA bs (i + 1) 0) = true → Q (scA bs (j + 1) 0) = true := by
  intro i j hij hj hq
  obtain ⟨a1, a2⟩ := flat_at bs (i + 1) 0 (by omega) (hO.full _ (by omega) (by omega))
  obtain ⟨b1, b2⟩ := flat_at bs (j + 1) 0 hj (hO.full _ (by omega) hj)
  rw [← a1] at hq
  rw [← b1]
  exact h _ _ (by have := sumA_mono bs (show i + 1 ≤ j + 1 by omega); omega) b2 hq
theorem MonoQ.m2 {Q : PQ → Bool} {bs : List Blk} (h : MonoQ Q (flat bs)) : ∀ d i j : Nat, d < bs.length → i ≤ j → j < lnA bs d → Q (scA bs d i) = true → Q (scA bs d j) = true := by
  intro d i j hd hij hj hq
  obtain ⟨a1, a2⟩ := flat_at bs d i hd (by omega)
  obtain ⟨b1, b2⟩ := flat_at bs d j hd hj
  rw [← a1] at hq
  rw [← b1]
  exact h _ _ (by omega) b2 hq
theorem CutQ.of {Q : PQ → Bool} {bs : List Blk} (h : MonoQ Q (flat bs)) (hO : OkB bs) {d r : Nat} (hd : d < bs.length) (hr : r ≤ lnA bs d)
    (F1 : ∀ i, i < d → Q (scA bs (i + 1) 0) = false) (T1 : ∀ i, d ≤ i → i + 1 < bs.length → Q (scA bs (i + 1) 0) = true) (F2 : ∀ j, j < r → Q (scA bs d j) = false) (T2 : ∀ j, r ≤ j → j < lnA bs d → Q (scA bs d j) = true) :
    CutQ Q (flat bs) (sumA bs d + r) := by
  have hle : sumA bs d + r ≤ (flat bs).length := by
    rw [← sumA_all]
    have := sumA_mono bs (show d + 1 ≤ bs.length by omega)
    rw [sumA_succ] at this; omega
  refine ⟨hle, fun i hi => ?_, fun i h1 h2 => ?_⟩
  · have hr0 : 0 < r ∨ d = 0 := by
      rcases Nat.eq_zero_or_pos r with h0 | h0
      · right
        rcases Nat.eq_zero_or_pos d with g | g
        · exact g
        · have f := F1 (d - 1) (by omega)
          rw [show d - 1 + 1 = d by omega] at f
          rw [T2 0 (by omega) (hO.full d g hd)] at f
          cases f
      · exact Or.inl h0
    rcases hr0 with h0 | h0
    · obtain ⟨a1, a2⟩ := flat_at bs d (r - 1) hd (by omega)
      have f := F2 (r - 1) (by omega)
      rw [← a1] at f
      cases hq : Q ((flat bs).getD i pq0) with
      | false => rfl
      | true => rw [h i (sumA bs d + (r - 1)) (by omega) a2 hq] at f; cases f
    · subst h0
      rw [sumA_zero] at hi
      obtain ⟨a1, a2⟩ := flat_at bs 0 i hd (by omega)
      rw [sumA_zero, Nat.zero_add] at a1
      rw [a1]; exact F2 i (by omega)
  · rcases Nat.lt_or_ge r (lnA bs d) with g | g
    · obtain ⟨a1, a2⟩ := flat_at bs d r hd g
      have t := T2 r (Nat.le_refl _) g
      rw [← a1] at t
      exact h _ i h1 h2 t
    · rcases Nat.lt_or_ge (d + 1) bs.length with k | k
      · obtain ⟨a1, a2⟩ := flat_at bs (d + 1) 0 k (hO.full _ (by omega) k)
        have t := T1 d (Nat.le_refl _) k
        rw [← a1] at t
        refine h _ i ?_ h2 t
        rw [sumA_succ]; omega
      · have e : bs.length = d + 1 := by omega
        rw [← sumA_all, e, sumA_succ] at h2
        omega
theorem CutQ.count {Q : PQ → Bool} {l : List PQ} {p : Nat} (h : CutQ Q l p) : l.countP (fun x => !Q x) = p := by
  have e : l = l.take p ++ l.drop p := (List.take_append_drop p l).symm
  have hle := h.le
  have h1 : (l.take p).countP (fun x => !Q x) = p := by
    rw [List.countP_eq_length.2]
    · rw [List.length_take]; omega
    · intro x hx
      obtain ⟨i, hi, rfl⟩ := List.getElem_of_mem hx
      rw [List.length_take] at hi
      have := h.no i (by omega)
      rw [List.getElem_take]
      have e : l.getD i pq0 = l[i]'(by omega) := by simp [List.getElem?_eq_getElem (show i < l.length by omega)]
      rw [e] at this
      rw [this]; rfl
  have h2 : (l.drop p).countP (fun x => !Q x) = 0 := by
    rw [List.countP_eq_zero]
    intro x hx
    obtain ⟨i, hi, rfl⟩ := List.getElem_of_mem hx
    rw [List.length_drop] at hi
    have := h.yes (p + i) (by omega) (by omega)
    rw [List.getElem_drop]
    have e : l.getD (p + i) pq0 = l[p + i]'(by omega) := by simp [List.getElem?_eq_getElem (show p + i < l.length by omega)]
    rw [e] at this
    rw [this]; simp
  rw [e, List.countP_append, h1, h2]; rfl
/-- scores that are right, each no odder than those behind it -/
structure UpS (l : List PQ) : Prop where
  ok : ∀ x ∈ l, okP x
  up : l.Pairwise leS
theorem UpS.at {l : List PQ} (h : UpS l) {i j : Nat} (hij : i ≤ j) (hj : j < l.length) : leS (l.getD i pq0) (l.getD j pq0) := by
  have e1 : l.getD i pq0 = l[i]'(by omega) := by simp [List.getElem?_eq_getElem (show i < l.length by omega)]
  have e2 : l.getD j pq0 = l[j] := by simp [List.getElem?_eq_getElem hj]
  rw [e1, e2]
  rcases Nat.lt_or_ge i j with g | g
  · exact List.pairwise_iff_getElem.1 h.up i j (by omega) hj g
  · obtain rfl : i = j := by omega
    rw [leS_iff]; omega
theorem UpS.okAt {l : List PQ} (h : UpS l) {j : Nat} (hj : j < l.length) : okP (l.getD j pq0) := by
  have e2 : l.getD j pq0 = l[j] := by simp [List.getElem?_eq_getElem hj]
  rw [e2]
  exact h.ok _ (List.getElem_mem hj)
theorem byB_iff {x s : PQ} (hx : okP x) (hs : okP s) : byB x.1 x.2 s.1 s.2 = true ↔ ¬ leS x s := by
  unfold byB cpN leS
  have : ScoOk x.1 x.2 ∧ ScoOk s.1 s.2 := ⟨hx, hs⟩
  rw [if_pos this, decide_eq_true_iff]; omega
theorem UpS.mono2 {l : List PQ} (h : UpS l) {s : PQ} (hs : okP s) : MonoQ (fun x => byB x.1 x.2 s.1 s.2) l := by
  intro i j hij hj hq
  have oi := h.okAt (show i < l.length by omega)
  have oj := h.okAt hj
  have := (byB_iff oi hs).1 hq
  exact (byB_iff oj hs).2 fun hle => this (leS_trans oi oj hs (h.at hij hj) hle)
/-- s itself, or odder -/
def upB (s x : PQ) : Bool := decide (x = s) || byB x.1 x.2 s.1 s.2
theorem UpS.mono1 {l : List PQ} (h : UpS l) {s : PQ} (hs : okP s) : MonoQ (upB s) l := by
  intro i j hij hj hq
  have oi := h.okAt (show i < l.length by omega)
  have oj := h.okAt hj
  have hle := h.at hij hj
  unfold upB at *
  rw [Bool.or_eq_true, decide_eq_true_iff] at *
  by_cases hb : byB (l.getD j pq0).1 (l.getD j pq0).2 s.1 s.2 = true
  · exact Or.inr hb
  · left
    have h2 : leS (l.getD j pq0) s := by
      by_cases g : leS (l.getD j pq0) s
      · exact g
      · exact absurd ((byB_iff oj hs).2 g) hb
    rcases hq with e | e
    · rw [e] at hle
      exact leS_anti oj hs h2 hle
    · exact absurd (leS_trans oi oj hs hle h2) ((byB_iff oi hs).1 e)
/-- how many are less odd than s -/
def lessN (l : List PQ) (s : PQ) : Nat := l.countP fun x => decide (oddC x.1 x.2 s.1 s.2 < 0)
def sameN (l : List PQ) (s : PQ) : Nat := l.countP fun x => decide (x = s)
theorem UpS.less {l : List PQ} (h : UpS l) {s : PQ} (hs : okP s) : l.countP (fun x => !upB s x) = lessN l s := by
  unfold lessN
  refine List.countP_congr fun x hx => ?_
  have ox := h.ok x hx
  have z := oddC_zero (a := x.1) (b := x.2) (c := s.1) (d := s.2) ox hs
  have b := byB_iff ox hs
  unfold upB
  rw [Bool.not_eq_true', Bool.or_eq_false_iff, decide_eq_false_iff_not, decide_eq_true_iff]
  unfold leS at b
  constructor
  · rintro ⟨g1, g2⟩
    have n1 : ¬ oddC x.1 x.2 s.1 s.2 = 0 := fun e => g1 (Prod.ext (z.1 e).1 (z.1 e).2)
    have n2 : oddC x.1 x.2 s.1 s.2 ≤ 0 := by
      by_cases g : oddC x.1 x.2 s.1 s.2 ≤ 0
      · exact g
      · rw [b.2 g] at g2; cases g2
    omega
  · intro g
    refine ⟨fun e => ?_, ?_⟩
    · rw [e] at g
      have := (oddC_zero hs hs).2 ⟨rfl, rfl⟩
      omega
    · cases hq : byB x.1 x.2 s.1 s.2 with
      | false => rfl
      | true => exact absurd (by omega) (b.1 hq)
theorem UpS.both {l : List PQ} (h : UpS l) {s : PQ} (hs : okP s) : l.countP (fun x => !byB x.1 x.2 s.1 s.2) = lessN l s + sameN l s := by
  rw [← h.less hs]
  have ok := h.ok
  clear h
  induction l with
  | nil => rfl
  | cons x l ih =>
    have ih := ih fun y hy => ok y (List.mem_cons_of_mem _ hy)
    have ox := ok x List.mem_cons_self
    have b := byB_iff ox hs
    unfold sameN at *
    rw [List.countP_cons, List.countP_cons, List.countP_cons, ih]
    have key : (if (!byB x.1 x.2 s.1 s.2) = true then 1 else 0) = (if (!upB s x) = true then 1 else 0) + (if decide (x = s) = true then 1 else 0) := by
      unfold upB
      by_cases e : x = s
      · subst e
        have : byB x.1 x.2 x.1 x.2 = false := by
          cases hq : byB x.1 x.2 x.1 x.2 with
          | false => rfl
          | true => exact absurd (by rw [leS_iff]; omega) (b.1 hq)
        simp [this]
      · simp [e]
    omega
end Go.Proofs.Ytaeodkpkgbjaeaa

/-! Layer 18 (bag): rows of blocks: one score more, one less, two blocks as one, one as two. -/
namespace Go.Proofs.Ytaeodkpkgbjaeaa
open Go.RowKit
set_option linter.unusedVariables false
set_option linter.unusedSimpArgs false

theorem cut_at {α : Type} (l : List α) (d : Nat) (h : d < l.length) : ∃ A b C, l = A ++ b :: C ∧ A.length = d :=
  ⟨l.take d, l[d], l.drop (d + 1), by rw [← List.drop_eq_getElem_cons h, List.take_append_drop], by rw [List.length_take]; omega⟩
theorem getD_mid {α : Type} (A : List α) (b z : α) (C : List α) : (A ++ b :: C).getD A.length z = b := by simp
theorem getD_mid1 {α : Type} (A : List α) (b c z : α) (C : List α) : (A ++ b :: c :: C).getD (A.length + 1) z = c := by
  rw [List.getD_eq_getElem?_getD, List.getElem?_append_right (by omega)]; simp
theorem sumA_app : ∀ (A C : List Blk), sumA (A ++ C) A.length = (flat A).length
  | [], C => by simp [flat, sumA_zero]
  | a :: A, C => by
    rw [List.cons_append, List.length_cons, sumA_cons, flat_cons, List.length_append, sumA_app A C]
theorem lnA_mid (A : List Blk) (b : Blk) (C : List Blk) : lnA (A ++ b :: C) A.length = b.2.length := by unfold lnA; rw [getD_mid]
/-- blocks as they stand behind each call -/
structure OkL (bs : List Blk) : Prop where
  ne : 0 < bs.length
  full : ∀ b ∈ bs.drop 1, 0 < b.2.length
  room : ∀ b ∈ bs, b.2.length ≤ 64
  nums : ∀ b ∈ bs, ∀ x ∈ b.2, okP x
theorem okP_I64 {x : PQ} (h : okP x) : I64 x.1 ∧ I64 x.2 := by
  obtain ⟨h1, h2, h3, h4, _⟩ := h
  unfold I64
  constructor <;> constructor <;> omega
theorem full_len : ∀ bs : List Blk, (∀ b ∈ bs, 0 < b.2.length) → bs.length ≤ (flat bs).length
  | [], _ => by simp
  | b :: bs, h => by
    have := full_len bs fun x hx => h x (List.mem_cons_of_mem _ hx)
    have := h b List.mem_cons_self
    rw [flat_cons, List.length_append, List.length_cons]; omega
theorem OkL.few {bs : List Blk} (h : OkL bs) : bs.length ≤ (flat bs).length + 1 := by
  cases bs with
  | nil => simp
  | cons b bs =>
    have := full_len bs h.full
    rw [flat_cons, List.length_append, List.length_cons]; omega
theorem OkL.okB {bs : List Blk} (h : OkL bs) (hn : (flat bs).length ≤ 900000) : OkB bs := by
  refine ⟨h.ne, by have := h.few; omega, fun i h0 hi => ?_, fun i hi => ?_, fun i j hi hj => ?_⟩
  · have e : bs.getD i bk0 = bs[i] := by simp [List.getElem?_eq_getElem hi]
    unfold lnA
    rw [e]
    refine h.full _ ?_
    rw [List.mem_iff_getElem]
    exact ⟨i - 1, by rw [List.length_drop]; omega, by rw [List.getElem_drop]; congr 1; omega⟩
  · have e : bs.getD i bk0 = bs[i] := by simp [List.getElem?_eq_getElem hi]
    unfold lnA; rw [e]; exact h.room _ (List.getElem_mem hi)
  · have e : bs.getD i bk0 = bs[i] := by simp [List.getElem?_eq_getElem hi]
    unfold lnA at hj; unfold scA; rw [e] at hj ⊢
    have e2 : bs[i].2.getD j pq0 = bs[i].2[j] := by simp [List.getElem?_eq_getElem hj]
    rw [e2]
    exact okP_I64 (h.nums _ (List.getElem_mem hi) _ (List.getElem_mem hj))
/-- what follows the first one -/
theorem drop1_mid (A : List Blk) (b : Blk) (C : List Blk) (x : Blk) : x ∈ (A ++ b :: C).drop 1 ↔ (x ∈ A.drop 1 ∨ (A ≠ [] ∧ x = b) ∨ x ∈ C) := by
  cases A with
  | nil => simp
  | cons a A => simp
theorem OkL.put {A C : List Blk} {b b' : Blk} (h : OkL (A ++ b :: C)) (h0 : 0 < b'.2.length) (h1 : b'.2.length ≤ 64) (h2 : ∀ x ∈ b'.2, okP x) : OkL (A ++ b' :: C) := by
  refine ⟨by simp only [List.length_append, List.length_cons]; omega, fun x hx => ?_, fun x hx => ?_, fun x hx => ?_⟩
  · rcases (drop1_mid A b' C x).1 hx with g | ⟨_, rfl⟩ | g
    · exact h.full x ((drop1_mid A b C x).2 (Or.inl g))
    · exact h0
    · exact h.full x ((drop1_mid A b C x).2 (Or.inr (Or.inr g)))
  · rcases List.mem_append.1 hx with g | g
    · exact h.room x (List.mem_append_left _ g)
    · rcases List.mem_cons.1 g with rfl | g
      · exact h1
      · exact h.room x (List.mem_append_right _ (List.mem_cons_of_mem _ g))
  · rcases List.mem_append.1 hx with g | g
    · exact h.nums x (List.mem_append_left _ g)
    · rcases List.mem_cons.1 g with rfl | g
      · exact h2
      · exact h.nums x (List.mem_append_right _ (List.mem_cons_of_mem _ g))
theorem OkL.split {A C : List Blk} {b b1 b2 : Blk} (h : OkL (A ++ b :: C)) (h0 : 0 < b1.2.length) (g0 : 0 < b2.2.length) (e : b1.2 ++ b2.2 = b.2) : OkL (A ++ b1 :: b2 :: C) := by
  have hb : b ∈ A ++ b :: C := by simp
  have hr := h.room b hb
  have hn := h.nums b hb
  rw [← e, List.length_append] at hr
  rw [← e] at hn
  have h3 := h.put (b' := b1) h0 (by omega) (fun x hx => hn x (List.mem_append_left _ hx))
  refine ⟨by simp only [List.length_append, List.length_cons]; omega, fun x hx => ?_, fun x hx => ?_, fun x hx => ?_⟩
  · rcases (drop1_mid A b1 (b2 :: C) x).1 hx with g | ⟨k, rfl⟩ | g
    · exact h3.full x ((drop1_mid A b1 C x).2 (Or.inl g))
    · exact h0
    · rcases List.mem_cons.1 g with rfl | g
      · exact g0
      · exact h3.full x ((drop1_mid A b1 C x).2 (Or.inr (Or.inr g)))
  · rcases List.mem_append.1 hx with g | g
    · exact h.room x (List.mem_append_left _ g)
    · rcases List.mem_cons.1 g with rfl | g
      · omega
      · rcases List.mem_cons.1 g with rfl | g
        · omega
        · exact h.room x (List.mem_append_right _ (List.mem_cons_of_mem _ g))
  · rcases List.mem_append.1 hx with g | g
    · exact h.nums x (List.mem_append_left _ g)
    · rcases List.mem_cons.1 g with rfl | g
      · exact fun y hy => hn y (List.mem_append_left _ hy)
      · rcases List.mem_cons.1 g with rfl | g
        · exact fun y hy => hn y (List.mem_append_right _ hy)
        · exact h.nums x (List.mem_append_right _ (List.mem_cons_of_mem _ g))
/-- what join makes of blocks -/
def JoinR (bs : List Blk) (k : Int) (bs' : List Blk) : Prop :=
  (bs' = bs ∧ ∀ A b c C, bs = A ++ b :: c :: C → k = (A.length : Int) → 64 < b.2.length + c.2.length) ∨
  (∃ A b c C, bs = A ++ b :: c :: C ∧ k = (A.length : Int) ∧ b.2.length + c.2.length ≤ 64 ∧ bs' = A ++ (b.1, b.2 ++ c.2) :: C)
theorem JoinR.flat {bs bs' : List Blk} {k : Int} (h : JoinR bs k bs') : flat bs' = flat bs := by
  rcases h with ⟨rfl, _⟩ | ⟨A, b, c, C, rfl, _, _, rfl⟩
  · rfl
  · simp [flat_app, flat_cons]
theorem OkL.join {A C : List Blk} {b c : Blk} (h : OkL (A ++ b :: c :: C)) (hl : b.2.length + c.2.length ≤ 64) : OkL (A ++ (b.1, b.2 ++ c.2) :: C) := by
  have hc : 0 < c.2.length := h.full c ((drop1_mid A b (c :: C) c).2 (Or.inr (Or.inr List.mem_cons_self)))
  have hb : b ∈ A ++ b :: c :: C := by simp
  have hcm : c ∈ A ++ b :: c :: C := by simp
  have g : OkL (A ++ b :: C) := by
    refine ⟨by simp only [List.length_append, List.length_cons]; omega, fun x hx => h.full x ?_, fun x hx => h.room x ?_, fun x hx => h.nums x ?_⟩
    · rcases (drop1_mid A b C x).1 hx with g | g | g
      · exact (drop1_mid A b (c :: C) x).2 (Or.inl g)
      · exact (drop1_mid A b (c :: C) x).2 (Or.inr (Or.inl g))
      · exact (drop1_mid A b (c :: C) x).2 (Or.inr (Or.inr (List.mem_cons_of_mem _ g)))
    all_goals
      rcases List.mem_append.1 hx with g | g
      · exact List.mem_append_left _ g
      · refine List.mem_append_right _ ?_
        rcases List.mem_cons.1 g with rfl | g
        · exact List.mem_cons_self
        · exact List.mem_cons_of_mem _ (List.mem_cons_of_mem _ g)
  refine g.put (by rw [List.length_append]; omega) (by rw [List.length_append]; exact hl) fun x hx => ?_
  rcases List.mem_append.1 hx with k | k
  · exact h.nums b hb x k
  · exact h.nums c hcm x k
/-- a block is shorter, may be empty: joined on both sides all is well again -/
theorem OkL.cut {A C : List Blk} {b b' : Blk} {X Y : List Blk} (h : OkL (A ++ b :: C)) (h1 : b'.2.length ≤ 64) (h2 : ∀ x ∈ b'.2, okP x)
    (hX : JoinR (A ++ b' :: C) (A.length : Int) X) (hY : JoinR X ((A.length : Int) - 1) Y) : OkL Y := by
  -- behind the first joining: a block that is not empty, or the last one
  have key : OkL X ∨ (C = [] ∧ X = A ++ [b']) := by
    cases C with
    | nil =>
      refine Or.inr ⟨rfl, ?_⟩
      rcases hX with ⟨e, _⟩ | ⟨A2, b2, c2, C2, e, k, _, _⟩
      · exact e
      · have := congrArg List.length e
        simp at this; omega
    | cons c C =>
      left
      have hc : 0 < c.2.length := h.full c ((drop1_mid A b (c :: C) c).2 (Or.inr (Or.inr List.mem_cons_self)))
      have hcr : c.2.length ≤ 64 := h.room c (by simp)
      rcases hX with ⟨rfl, e⟩ | ⟨A2, b2, c2, C2, e, k, hl, rfl⟩
      · have := e A b' c C rfl rfl
        exact h.put (by omega) h1 h2
      · have hA : A2.length = A.length := by omega
        obtain ⟨e1, e2⟩ := List.append_inj e hA.symm
        injection e2 with e2 e3
        injection e3 with e3 e4
        subst e1; subst e2; subst e3; subst e4
        have g : OkL (A ++ (b'.1, b'.2 ++ c.2) :: c :: C) := h.put (by rw [List.length_append]; omega) (by rw [List.length_append]; exact hl) (fun x hx => by
          rcases List.mem_append.1 hx with k | k
          · exact h2 x k
          · exact h.nums c (by simp) x k)
        refine ⟨by simp only [List.length_append, List.length_cons]; omega, fun x hx => g.full x ?_, fun x hx => g.room x ?_, fun x hx => g.nums x ?_⟩
        · rcases (drop1_mid _ _ C x).1 hx with k | k | k
          · exact (drop1_mid _ _ _ x).2 (Or.inl k)
          · exact (drop1_mid _ _ _ x).2 (Or.inr (Or.inl k))
          · exact (drop1_mid _ _ _ x).2 (Or.inr (Or.inr (List.mem_cons_of_mem _ k)))
        all_goals
          rcases List.mem_append.1 hx with k | k
          · exact List.mem_append_left _ k
          · refine List.mem_append_right _ ?_
            rcases List.mem_cons.1 k with rfl | k
            · exact List.mem_cons_self
            · exact List.mem_cons_of_mem _ (List.mem_cons_of_mem _ k)
  rcases key with hO | ⟨rfl, rfl⟩
  · rcases hY with ⟨rfl, _⟩ | ⟨A2, b2, c2, C2, rfl, _, hl, rfl⟩
    · exact hO
    · exact hO.join hl
  · -- the last block, may be empty
    rcases List.eq_nil_or_concat A with rfl | ⟨A', a, rfl⟩
    · have e : Y = [b'] := by
        rcases hY with ⟨e, _⟩ | ⟨A2, b2, c2, C2, e, k, _, _⟩
        · simpa using e
        · simp at k; first | done | omega
      subst e
      exact ⟨by simp, by simp, by simpa using h1, by simpa using h2⟩
    · have hm : a ∈ A'.concat a ++ b :: [] := by simp
      have ha := h.room a hm
      have hk : (((A'.concat a).length : Nat) : Int) - 1 = (A'.length : Int) := by simp
      rw [hk] at hY
      have e0 : A'.concat a ++ [b'] = A' ++ a :: b' :: [] := by simp
      rw [e0] at hY
      rcases hY with ⟨rfl, e⟩ | ⟨A2, b2, c2, C2, e, k, hl, rfl⟩
      · have := e A' a b' [] rfl rfl
        have g := h.put (b' := b') (by omega) h1 h2
        simpa using g
      · have hA : A2.length = A'.length := by omega
        obtain ⟨e1, e2⟩ := List.append_inj e hA.symm
        injection e2 with e2 e3
        injection e3 with e3 e4
        subst e1; subst e2; subst e3; subst e4
        have g : OkL (A' ++ [a]) := by
          refine ⟨by simp only [List.length_append, List.length_cons]; omega, fun x hx => h.full x ?_, fun x hx => h.room x ?_, fun x hx => h.nums x ?_⟩
          · have := (drop1_mid A' a [] x).1 hx
            rw [show A'.concat a ++ b :: [] = A' ++ a :: [b] by simp, drop1_mid]
            rcases this with k | k | k
            · exact Or.inl k
            · exact Or.inr (Or.inl k)
            · cases k
          all_goals
            rw [show A'.concat a ++ b :: [] = (A' ++ [a]) ++ [b] by simp]
            exact List.mem_append_left _ hx
        have gj : OkL (A' ++ (a.1, a.2 ++ b'.2) :: []) := by
          refine ⟨by simp only [List.length_append, List.length_cons]; omega, fun x hx => ?_, fun x hx => ?_, fun x hx => ?_⟩
          · rcases (drop1_mid A' _ [] x).1 hx with k | ⟨k, rfl⟩ | k
            · exact g.full x ((drop1_mid A' a [] x).2 (Or.inl k))
            · have := g.full a ((drop1_mid A' a [] a).2 (Or.inr (Or.inl ⟨k, rfl⟩)))
              rw [List.length_append]; omega
            · cases k
          · rcases List.mem_append.1 hx with k | k
            · exact g.room x (List.mem_append_left _ k)
            · rw [List.mem_singleton] at k; subst k
              rw [List.length_append]; exact hl
          · rcases List.mem_append.1 hx with k | k
            · exact g.nums x (List.mem_append_left _ k)
            · rw [List.mem_singleton] at k; subst k
              intro y hy
              rcases List.mem_append.1 hy with q | q
              · exact g.nums a (by simp) y q
              · exact h2 y q
        exact gj
/-- one more -/
theorem flat_put {A C : List Blk} {b : Blk} {r : Nat} {s : PQ} (hr : r ≤ b.2.length) : flat (A ++ (b.1, insS b.2 r s) :: C) = insS (flat (A ++ b :: C)) ((flat A).length + r) s := by
  unfold insS
  rw [flat_app, flat_cons, flat_app, flat_cons, List.take_length_add_append, List.drop_length_add_append, List.take_append_of_le_length hr, List.drop_append_of_le_length hr]
  simp
/-- one less -/
theorem flat_cut {A C : List Blk} {b : Blk} {r : Nat} (hr : r < b.2.length) : flat (A ++ (b.1, b.2.eraseIdx r) :: C) = (flat (A ++ b :: C)).eraseIdx ((flat A).length + r) := by
  rw [flat_app, flat_cons, flat_app, flat_cons, List.eraseIdx_append_of_length_le (by omega), List.eraseIdx_append_of_lt_length (by omega)]
  simp
end Go.Proofs.Ytaeodkpkgbjaeaa

/-! Layer 18 (bag): one score more, one less: lists in their order. -/
namespace Go.Proofs.Ytaeodkpkgbjaeaa
open Go.RowKit
set_option linter.unusedVariables false
set_option linter.unusedSimpArgs false

theorem insS_at (l : List PQ) (k : Nat) (s : PQ) (hk : k ≤ l.length) (m : Nat) : (insS l k s)[m]? = if m < k then l[m]? else if m = k then some s else l[m - 1]? := by
  unfold insS
  rw [List.append_assoc, List.getElem?_append, List.length_take, Nat.min_eq_left hk]
  by_cases h : m < k
  · rw [if_pos h, if_pos h, List.getElem?_take, if_pos h]
  · rw [if_neg h, if_neg h]
    by_cases h2 : m = k
    · subst h2; simp
    · rw [if_neg h2]
      obtain ⟨j, rfl⟩ : ∃ j, m = k + 1 + j := ⟨m - k - 1, by omega⟩
      rw [show k + 1 + j - k = j + 1 by omega, List.singleton_append, List.getElem?_cons_succ, List.getElem?_drop]
      congr 1; omega
theorem insS_len (l : List PQ) (k : Nat) (s : PQ) (hk : k ≤ l.length) : (insS l k s).length = l.length + 1 := by unfold insS; simp; omega
theorem insS_mem {l : List PQ} {k : Nat} {s x : PQ} (h : x ∈ insS l k s) : x = s ∨ x ∈ l := by
  unfold insS at h
  rcases List.mem_append.1 h with h | h
  · rcases List.mem_append.1 h with h | h
    · exact Or.inr (List.mem_of_mem_take h)
    · exact Or.inl (List.mem_singleton.1 h)
  · exact Or.inr (List.mem_of_mem_drop h)
theorem getD_some {l : List PQ} {i : Nat} (h : i < l.length) : l[i]? = some (l.getD i pq0) := by simp [List.getElem?_eq_getElem h]
theorem ins_same {l : List PQ} {s : PQ} {k p : Nat} (hk : k ≤ p) (hp : p ≤ l.length) (h : ∀ i, k ≤ i → i < p → l.getD i pq0 = s) : insS l k s = insS l p s := by
  apply List.ext_getElem?
  intro m
  rw [insS_at l k s (by omega), insS_at l p s hp]
  by_cases h1 : m < k
  · rw [if_pos h1, if_pos (by omega)]
  rw [if_neg h1]
  by_cases h2 : m < p
  · rw [if_pos h2, getD_some (show m < l.length by omega), h m (by omega) h2]
    split
    · rfl
    · rw [getD_some (by omega), h (m - 1) (by omega) (by omega)]
  rw [if_neg h2]
  by_cases h3 : m = p
  · rw [if_pos h3]
    split
    · rfl
    · rw [getD_some (by omega), h (m - 1) (by omega) (by omega)]
  · rw [if_neg h3, if_neg (by omega)]
theorem del_same {l : List PQ} {s : PQ} {i j : Nat} (hij : i ≤ j) (hj : j < l.length) (h : ∀ m, i ≤ m → m ≤ j → l.getD m pq0 = s) : l.eraseIdx i = l.eraseIdx j := by
  apply List.ext_getElem?
  intro m
  rw [List.getElem?_eraseIdx, List.getElem?_eraseIdx]
  by_cases h1 : m < i
  · rw [if_pos h1, if_pos (by omega)]
  rw [if_neg h1]
  by_cases h2 : m < j
  · rw [if_pos h2, getD_some (by omega), getD_some (by omega), h m (by omega) (by omega), h (m + 1) (by omega) (by omega)]
  · rw [if_neg h2]
theorem UpS.nil : UpS [] := ⟨by simp, List.Pairwise.nil⟩
theorem UpS.del {l : List PQ} (h : UpS l) (i : Nat) : UpS (l.eraseIdx i) :=
  ⟨fun x hx => h.ok x (List.mem_of_mem_eraseIdx hx), h.up.sublist (List.eraseIdx_sublist l i)⟩
theorem UpS.ins {l : List PQ} (h : UpS l) {s : PQ} (hs : okP s) {p : Nat} (hp : CutQ (fun x => byB x.1 x.2 s.1 s.2) l p) : UpS (insS l p s) := by
  have e : l.take p ++ l.drop p = l := List.take_append_drop p l
  have hup := h.up
  rw [← e, List.pairwise_append] at hup
  obtain ⟨u1, u2, u3⟩ := hup
  have hlt : ∀ x ∈ l.take p, leS x s := by
    intro x hx
    obtain ⟨i, hi, rfl⟩ := List.getElem_of_mem hx
    rw [List.length_take] at hi
    have n := hp.no i (by omega)
    have ed : l.getD i pq0 = l[i]'(by omega) := by simp [List.getElem?_eq_getElem (show i < l.length by omega)]
    rw [ed] at n
    rw [List.getElem_take]
    have ox := h.ok (l[i]'(by omega)) (List.getElem_mem _)
    by_cases g : leS (l[i]'(by omega)) s
    · exact g
    · rw [(byB_iff ox hs).2 g] at n; cases n
  have hge : ∀ x ∈ l.drop p, leS s x := by
    intro x hx
    obtain ⟨i, hi, rfl⟩ := List.getElem_of_mem hx
    rw [List.length_drop] at hi
    have n := hp.yes (p + i) (by omega) (by omega)
    have ed : l.getD (p + i) pq0 = l[p + i]'(by omega) := by simp [List.getElem?_eq_getElem (show p + i < l.length by omega)]
    rw [ed] at n
    rw [List.getElem_drop]
    have ox := h.ok (l[p + i]'(by omega)) (List.getElem_mem _)
    exact leS_total _ _ ((byB_iff ox hs).1 n)
  refine ⟨fun x hx => ?_, ?_⟩
  · rcases insS_mem hx with rfl | g
    · exact hs
    · exact h.ok x g
  · unfold insS
    rw [List.append_assoc, List.pairwise_append]
    refine ⟨u1, ?_, fun x hx y hy => ?_⟩
    · rw [List.singleton_append, List.pairwise_cons]
      exact ⟨hge, u2⟩
    · rw [List.singleton_append] at hy
      rcases List.mem_cons.1 hy with rfl | g
      · exact hlt x hx
      · exact u3 x hx y g
/-- the reference's place, in front of all that are not less odd, gives the same -/
theorem UpS.ins_ref {l : List PQ} (h : UpS l) {s : PQ} (hs : okP s) {p k : Nat} (hp : CutQ (fun x => byB x.1 x.2 s.1 s.2) l p) (hk : k ≤ l.length) (h1 : ∀ i, i < k → oddC (l.getD i pq0).1 (l.getD i pq0).2 s.1 s.2 < 0)
    (h2 : k < l.length → ¬ oddC (l.getD k pq0).1 (l.getD k pq0).2 s.1 s.2 < 0) : insS l k s = insS l p s := by
  have hkp : k ≤ p := by
    rcases Nat.lt_or_ge p k with g | g
    · have y := hp.yes p (Nat.le_refl _) (by omega)
      have := (byB_iff (h.okAt (show p < l.length by omega)) hs).1 y
      exact absurd (by have := h1 p g; unfold leS; omega) this
    · exact g
  refine ins_same hkp hp.le fun i hi hip => ?_
  have hil : i < l.length := by have := hp.le; omega
  have oi := h.okAt hil
  have n := hp.no i hip
  have l1 : leS (l.getD i pq0) s := by
    by_cases g : leS (l.getD i pq0) s
    · exact g
    · rw [(byB_iff oi hs).2 g] at n; cases n
  have ok := h.okAt (show k < l.length by omega)
  have l2 : leS s (l.getD k pq0) := by
    have := h2 (by omega)
    have e := oddC_neg (l.getD k pq0).1 (l.getD k pq0).2 s.1 s.2
    unfold leS; omega
  exact leS_anti oi hs l1 (leS_trans hs ok oi l2 (h.at hi hil))
/-- what stands last of those that are not odder is s, if s is there at all -/
theorem UpS.there {l : List PQ} (h : UpS l) {s : PQ} (hs : okP s) {p : Nat} (hp : CutQ (fun x => byB x.1 x.2 s.1 s.2) l p) {i : Nat} (hi : i < l.length) (hq : l.getD i pq0 = s) : i < p ∧ ∀ m, i ≤ m → m ≤ p - 1 → l.getD m pq0 = s := by
  have hip : i < p := by
    rcases Nat.lt_or_ge i p with g | g
    · exact g
    · have y := hp.yes i g hi
      have := (byB_iff (h.okAt hi) hs).1 y
      rw [hq] at this
      exact absurd (by rw [leS_iff]; omega) this
  refine ⟨hip, fun m hm hmp => ?_⟩
  have hml : m < l.length := by have := hp.le; omega
  have om := h.okAt hml
  have n := hp.no m (by omega)
  have l1 : leS (l.getD m pq0) s := by
    by_cases g : leS (l.getD m pq0) s
    · exact g
    · rw [(byB_iff om hs).2 g] at n; cases n
  have l2 := h.at hm hml
  rw [hq] at l2
  exact leS_anti om hs l1 l2
end Go.Proofs.Ytaeodkpkgbjaeaa
