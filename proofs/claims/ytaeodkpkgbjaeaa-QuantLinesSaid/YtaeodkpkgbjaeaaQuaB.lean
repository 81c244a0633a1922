/- Layer 19 (quant): Count and Share, of the code and of the reference. -/
import Derived.Test.YtaeodkpkgbjaeaaQuaA
import Derived.Deep.RegionWith
namespace Go.Proofs.Ytaeodkpkgbjaeaa
open Go.RowKit
set_option linter.unusedVariables false
set_option linter.unusedSimpArgs false

def ovI (a b c d : Int) : Int := if ovN a b c d = true then 1 else 0
set_option maxRecDepth 100000 in
set_option maxHeartbeats 4000000 in
theorem qua_take (a b c d : Int) (ha : I64 a) (hb : I64 b) (hc : I64 c) (hd : I64 d) (gl gc : Nat) (n : Int) (B : Nat) (w : World) (hl : Box w gl #[.int .i64 c, .int .i64 d] 24) (hx : Box w gc #[.int .i64 n] 3) (hn : 0 ≤ n) (hn2 : n ≤ 1000000000) (hB : B ≤ gc) (hne : gl ≠ gc) :
    Calls Try.prog 155 #[.agg #[.int .i64 a, .int .i64 b], .pointer (some ⟨gl, 0, none⟩), .pointer (some ⟨gc, 0, none⟩)] w fun e w' => e = .returned (.int .i64 (cpE a b c d)) ∧ Box w' gl #[.int .i64 c, .int .i64 d] 24 ∧ Box w' gc #[.int .i64 (n + ovI a b c d)] 3 ∧ Below B w w' := by
  have J0 := Lib.hid ((Keeps.start w).alloc #[.int .i64 a, .int .i64 b] 24)
  obtain ⟨x0, x1, _, _⟩ := J0.out.head.two
  have hgl := hl.lt
  have hgc := hx.lt
  have HL := Lib.hid (hl.below J0.out.2.1 hgl)
  have HC := Lib.hid (hx.below J0.out.2.1 hgc)
  have HBB := Lib.hid (J0.out.2.1.mono (show B ≤ w.heap.size by omega))
  obtain ⟨l0, l1, _, _⟩ := HL.out.two
  have K := Lib.hid (fun W => qua_over a b c d ha hb hc hd W)
  unfold ovV at K
  have HOV : Hid (ovI a b c d = if ovN a b c d = true then 1 else 0) := rfl
  generalize cpE a b c d = e0 at *
  generalize ovI a b c d = v at *
  generalize ovN a b c d = q at *
  clear hl hx
  have hs0 : (w.alloc (.cells #[.int .i64 a, .int .i64 b] 24)).heap.size = w.heap.size + 1 := by simp
  cases q
  · obtain rfl : v = 0 := HOV.out
    go_enter Try.func155, Try.ntmps155
    go_wp2_with fail
    refine (K.out _).mono ?_
    rintro e w1 ⟨rfl, b1⟩
    have HL1 := Lib.hid (HL.out.below b1 HL.out.lt)
    have HC1 := Lib.hid (HC.out.below b1 HC.out.lt)
    have HB1 := Lib.hid (HBB.out.trans (b1.mono (by rw [hs0]; omega)))
    clear b1 x0 x1 l0 l1
    go_wp2
    go_ret
    exact ⟨rfl, HL1.out, by rw [Int.add_zero]; exact HC1.out, HB1.out⟩
  · obtain rfl : v = 1 := HOV.out
    go_enter Try.func155, Try.ntmps155
    go_wp2_with fail
    refine (K.out _).mono ?_
    rintro e w1 ⟨rfl, b1⟩
    have HL1 := Lib.hid (HL.out.below b1 HL.out.lt)
    have HC1 := Lib.hid (HC.out.below b1 HC.out.lt)
    have HB1 := Lib.hid (HBB.out.trans (b1.mono (by rw [hs0]; omega)))
    have c0 := (HC1.out.cell 0).trans rfl
    have f0 := HC1.out.free 0
    clear b1 x0 x1 l0 l1
    go_wp2
    go_ret
    exact ⟨rfl, HL1.out.off (by show gc ≠ gl; omega) _, HC1.out.set 0 _, HB1.out.setCell (p := ⟨gc, 0, none⟩) hB _⟩
def cnOk (l : List PQ) (c d : Int) : Prop := ScoOk c d ∧ allS l = true
instance (l : List PQ) (c d : Int) : Decidable (cnOk l c d) := by unfold cnOk; infer_instance
def cnN (l : List PQ) (c d : Int) : Int := if cnOk l c d then (cntO l (c, d) : Nat) else 0
def cnE (l : List PQ) (c d : Int) : Int := if cnOk l c d then 0 else 130
abbrev cnV (l : List PQ) (c d : Int) : Value := .tuple #[.int .i64 (cnN l c d), .int .i64 (cnE l c d)]
theorem cn_ok {l : List PQ} {c d : Int} (h : cnOk l c d) : Ending.returned (.tuple #[.int .i64 ((cntO l (c, d) : Nat) : Int), .int .i64 0]) = .returned (cnV l c d) := by
  unfold cnV cnN cnE; rw [if_pos h, if_pos h]
theorem cn_no {l : List PQ} {c d : Int} (h : ¬ cnOk l c d) : Ending.returned (.tuple #[.int .i64 0, .int .i64 130]) = .returned (cnV l c d) := by
  unfold cnV cnN cnE; rw [if_neg h, if_neg h]
/-- those of the first k that are over the line -/
def cntK (l : List PQ) (y : PQ) (k : Nat) : Nat := cntO (l.take k) y
theorem cntK_succ {l : List PQ} {y : PQ} {k : Nat} (hk : k < l.length) : cntK l y (k + 1) = cntK l y k + (if ovB (l.getD k pq0) y = true then 1 else 0) := countP_step (fun x => ovB x y) hk
theorem cntK_all (l : List PQ) (y : PQ) : cntK l y l.length = cntO l y := by unfold cntK; rw [List.take_length]
theorem cntK_le (l : List PQ) (y : PQ) (k : Nat) : cntK l y k ≤ l.length := by
  unfold cntK
  exact Nat.le_trans (cntO_le _ _) (by rw [List.length_take]; omega)
theorem ovI_of {a b c d : Int} (h : ScoOk a b ∧ ScoOk c d) : ovI a b c d = ((if ovB (a, b) (c, d) = true then 1 else 0 : Nat) : Int) := by
  unfold ovI ovB
  rw [(ov_ok h).2.2]
  split <;> rfl
set_option maxRecDepth 100000 in
set_option maxHeartbeats 4000000 in
theorem qua_count (A : Option Addr) (l : List PQ) (ca : Nat) (c d : Int) (w : World) (hA : LiesS w w.heap.size A l) (hI : okS l) (hl : l.length ≤ 100000) (hc : I64 c) (hd : I64 d) :
    Calls Try.prog 94 #[.slice A l.length ca, .agg #[.int .i64 c, .int .i64 d]] w fun e w' => e = .returned (cnV l c d) ∧ Below w.heap.size w w' := by
  have J0 := Lib.hid ((Keeps.start w).alloc #[.int .i64 c, .int .i64 d] 24)
  obtain ⟨x0, x1, _, _⟩ := J0.out.head.two
  have K := Lib.hid (fun W => sco_is c d hc hd W)
  by_cases hk : ScoOk c d
  · rw [scoB_of hk] at K
    have HA := Lib.hid hA
    have HI := Lib.hid (fun k (hk : k < l.length) => hI.at hk)
    have KT := Lib.hid (fun k (hk : k < l.length) gl gc n B W h1 h2 h3 h4 h5 h6 => qua_take (l.getD k pq0).1 (l.getD k pq0).2 c d (hI.at hk).1 (hI.at hk).2 hc hd gl gc n B W h1 h2 h3 h4 h5 h6)
    have HBAD : Hid (∀ k, k < l.length → ¬ ScoOk (l.getD k pq0).1 (l.getD k pq0).2 → Ending.returned (.tuple #[.int .i64 0, .int .i64 130]) = .returned (cnV l c d)) := fun k hk hb => cn_no fun h => by
      have := allS_no hk (scoB_no hb)
      rw [h.2] at this; cases this
    have HGO : Hid ((∀ j, j < l.length → scoB (l.getD j pq0).1 (l.getD j pq0).2 = true) → Ending.returned (.tuple #[.int .i64 ((cntK l (c, d) l.length : Nat) : Int), .int .i64 0]) = .returned (cnV l c d)) := fun h => by
      rw [cntK_all]; exact cn_ok ⟨hk, allS_yes h⟩
    have HST : Hid (∀ k, k < l.length → ScoOk (l.getD k pq0).1 (l.getD k pq0).2 → ((cntK l (c, d) k : Nat) : Int) + ovI (l.getD k pq0).1 (l.getD k pq0).2 c d = ((cntK l (c, d) (k + 1) : Nat) : Int)) := fun k hk2 h => by
      rw [cntK_succ hk2, ovI_of ⟨h, hk⟩]; rfl
    have HLE := Lib.hid (cntK_le l (c, d))
    have HE : Hid (∀ k, ScoOk (l.getD k pq0).1 (l.getD k pq0).2 → cpE (l.getD k pq0).1 (l.getD k pq0).2 c d = 0) := fun k h => (ov_ok ⟨h, hk⟩).1
    have HE2 : Hid (∀ k, ¬ ScoOk (l.getD k pq0).1 (l.getD k pq0).2 → cpE (l.getD k pq0).1 (l.getD k pq0).2 c d = 130) := fun k h => (ov_no fun hh => h hh.1).1
    have H0 : Hid ((0 : Int) = ((cntK l (c, d) 0 : Nat) : Int)) := rfl
    clear hA hI hk
    generalize cnV l c d = R at *
    generalize hN : l.length = N at *
    have HN := Lib.hid hN
    clear hN
    go_enter Try.func94, Try.ntmps94
    go_wp2_with fail
    refine (K.out _).mono ?_
    rintro e w1 ⟨rfl, b1⟩
    have J1 := Lib.hid ((J0.out.below b1).alloc #[.int .i64 0] 3)
    have hw1 : w.heap.size < w1.heap.size := (J0.out.below b1).head.lt
    clear b1 x0 x1
    go_wp2
    go_loopw [17] (fun i wr => ∃ k : Nat, k ≤ N ∧ i = .int .i64 k ∧ Hid (∀ j, j < k → scoB (l.getD j pq0).1 (l.getD j pq0).2 = true) ∧ Hid (Box wr w.heap.size #[.int .i64 c, .int .i64 d] 24) ∧ Hid (Box wr w1.heap.size #[.int .i64 ((cntK l (c, d) k : Nat) : Int)] 3) ∧ Hid (Below w.heap.size w wr)) (fun i _ => N - (intOf i).toNat)
    case atStart => exact ⟨0, by omega, rfl, fun j hj => absurd hj (by omega), J1.out.tail.head, (by rw [← H0.out]; exact J1.out.head), J1.out.2.1⟩
    case round =>
      obtain ⟨k, hk, rfl, HS, HL, HC, HB⟩ := hrel
      clear J1 J0 K
      by_cases hlt : k < N
      · have HAr : Hid (LiesS wr w.heap.size A l) := HA.out.below HB.out
        obtain ⟨ad, rfl, hbk, c0, c1⟩ := HAr.out.at (k := k) (by have := HN.out; omega)
        have hki : (k : Int) < (N : Int) := by omega
        have hle := HLE.out k
        have KTk := Lib.hid (KT.out k hlt w.heap.size w1.heap.size ((cntK l (c, d) k : Nat) : Int) w.heap.size)
        have HB1 := Lib.hid (HBAD.out k hlt)
        have HS1 := Lib.hid (HST.out k hlt)
        have HE1 := Lib.hid (HE.out k)
        have HE3 := Lib.hid (HE2.out k)
        have HSX : Hid (ScoOk (l.getD k pq0).1 (l.getD k pq0).2 → ∀ j, j < k + 1 → scoB (l.getD j pq0).1 (l.getD j pq0).2 = true) := fun h j hj => by
          rcases Nat.lt_or_ge j k with g | g
          · exact HS.out j g
          · rw [show j = k from by omega]; exact scoB_of h
        clear KT HBAD HST HE HE2 HGO HLE HAr HS
        generalize hcn : cntK l (c, d) (k + 1) = m' at *
        have HCN := Lib.hid hcn
        clear hcn
        generalize cntK l (c, d) k = m at *
        generalize (l.getD k pq0).1 = p at *
        generalize (l.getD k pq0).2 = q at *
        have hsz := HB.out.size
        have J := Lib.hid ((Keeps.start wr).alloc #[.int .i64 p, .int .i64 q] 24)
        obtain ⟨r0, r1, r2, r3⟩ := J.out.head.two
        have HL2 := Lib.hid (HL.out.below J.out.2.1 HL.out.lt)
        have HC2 := Lib.hid (HC.out.below J.out.2.1 HC.out.lt)
        have HB2 := Lib.hid (HB.out.trans (J.out.2.1.mono hsz))
        by_cases hb : ScoOk p q
        · have he := HE1.out hb
          rw [he] at KTk
          have hS := Lib.hid (HS1.out hb)
          have hX := Lib.hid (HSX.out hb)
          clear HS1 HSX HE1 HE3 HB1 he hb
          go_wp2_with fail
          refine (KTk.out _ HL2.out HC2.out (by omega) (by omega) (by omega) (by omega)).mono ?_
          rintro e w3 ⟨rfl, b1, b2, b3⟩
          rw [hS.out] at b2
          have HL3 := Lib.hid b1
          have HC3 := Lib.hid b2
          have HB3 := Lib.hid (HB2.out.trans b3)
          clear b1 b2 b3 r0 r1 r2 r3
          go_wp2
          exact ⟨⟨k + 1, by omega, by go_num, hX, HL3, Lib.hid (by rw [HCN.out]; exact HC3.out), HB3⟩, by first | (simp [intOf]; done) | (simp [intOf]; omega)⟩
        · have he := HE3.out hb
          rw [he] at KTk
          have hS := Lib.hid (HB1.out hb)
          clear HS1 HSX HE1 HE3 HB1 he hb
          go_wp2_with fail
          refine (KTk.out _ HL2.out HC2.out (by omega) (by omega) (by omega) (by omega)).mono ?_
          rintro e w3 ⟨rfl, b1, b2, b3⟩
          have HB3 := Lib.hid (HB2.out.trans b3)
          clear b1 b2 b3 r0 r1 r2 r3
          go_wp2
          go_ret2
          exact ⟨hS.out, HB3.out⟩
      · obtain rfl : k = N := by omega
        have HX := Lib.hid (HGO.out HS.out)
        have c0 := (HC.out.cell 0).trans rfl
        clear KT HBAD HST HE HE2 HGO HLE HS
        go_wp2
        go_ret2
        exact ⟨HX.out, HB.out⟩
  · rw [scoB_no hk] at K
    have HR := Lib.hid (cn_no (l := l) (c := c) (d := d) fun h => hk h.1)
    clear hA hI hk
    generalize cnV l c d = R at *
    generalize l.length = N at *
    go_enter Try.func94, Try.ntmps94
    go_wp2_with fail
    refine (K.out _).mono ?_
    rintro e w1 ⟨rfl, b1⟩
    have HB1 := Lib.hid (J0.out.below b1).2.1
    clear b1 x0 x1
    go_wp2
    go_ret2
    exact ⟨HR.out, HB1.out⟩
end Go.Proofs.Ytaeodkpkgbjaeaa
