/- Contracts of package score and its reference: order, Odder, check, All. -/
import Derived.Test.YtaeodkpkgbjaeaaScoL
import Derived.Deep.RegionHeld3
namespace Go.Proofs.Ytaeodkpkgbjaeaa
open Go.RowKit
set_option linter.unusedVariables false
set_option linter.unusedSimpArgs false
set_option maxRecDepth 100000

theorem sco_order (a b c d : Int) (ha : I64 a) (hb : I64 b) (hc : I64 c) (hd : I64 d) (w : World) : Calls Try.prog 159 #[.agg #[.int .i64 a, .int .i64 b], .agg #[.int .i64 c, .int .i64 d]] w fun e w' => e = .returned (.int .i64 (oddC a b c d)) ∧ Below w.heap.size w w' := by
  have J0 := Lib.hid (((Keeps.start w).alloc #[.int .i64 a, .int .i64 b] 24).alloc #[.int .i64 c, .int .i64 d] 24)
  have K := Lib.hid (fun W => wide_prods c b a d hc hb ha hd W)
  unfold oddC
  generalize cmpI (c * b) (a * d) = R at *
  go_enter Try.func159, Try.ntmps159
  obtain ⟨r0, r1, r2, r3⟩ := J0.out.head.two
  obtain ⟨x0, x1, x2, x3⟩ := J0.out.tail.head.two
  go_wp2_with fail
  refine (K.out _).mono ?_
  rintro r w1 ⟨rfl, b⟩
  go_wp2
  go_ret
  exact ⟨rfl, (J0.out.below b).2.1⟩
theorem prod_fits {a b c d : Int} (h : ScoOk a b) (g : ScoOk c d) : 0 ≤ a * d ∧ a * d ≤ 4398046511104 := by
  obtain ⟨h1, h2, h3, h4, -⟩ := h
  obtain ⟨g1, g2, g3, g4, -⟩ := g
  have := Int.mul_le_mul h4 g2 (by omega) (by omega)
  exact ⟨Int.mul_nonneg h3 (by omega), by omega⟩
theorem oddR {a b c d r : Int} (h : r = oddC a b c d) : Ending.returned (.int .i64 r) = .returned (.int .i64 (oddC a b c d)) := by rw [h]
theorem ref13_odder (a b c d : Int) (h : ScoOk a b) (g : ScoOk c d) (w : World) : Calls Try.prog 28 #[.agg #[.int .i64 a, .int .i64 b], .agg #[.int .i64 c, .int .i64 d]] w fun e w' => e = .returned (.int .i64 (oddC a b c d)) ∧ Below w.heap.size w w' := by
  have J0 := Lib.hid (((Keeps.start w).alloc #[.int .i64 a, .int .i64 b] 24).alloc #[.int .i64 c, .int .i64 d] 24)
  obtain ⟨p1, p2⟩ := prod_fits h g
  obtain ⟨q1, q2⟩ := prod_fits g h
  have HC := Lib.hid (oddC_cases a b c d)
  have HR : Hid (∀ r, r = oddC a b c d → Ending.returned (.int .i64 r) = .returned (.int .i64 (oddC a b c d))) := fun r h => oddR h
  generalize oddC a b c d = R at *
  clear h g
  obtain ⟨M, hM⟩ : ∃ M, M = a * d := ⟨_, rfl⟩
  obtain ⟨N, hN⟩ : ∃ N, N = c * b := ⟨_, rfl⟩
  have hm1 : wrap64 (a * d) = M := by rw [← hM] at p1 p2 ⊢; unfold wrap64; omega
  have hm2 : wrap64 (c * b) = N := by rw [← hN] at q1 q2 ⊢; unfold wrap64; omega
  have HC := HC.out
  rw [← hM, ← hN] at HC
  clear hM hN p1 p2 q1 q2
  rcases HC with ⟨k, e⟩ | ⟨k, e⟩ | ⟨k, e⟩
  · have k1 : ¬ M < N := by omega
    have HQ := Lib.hid (HR.out _ e.symm)
    clear HR e
    go_enter Try.func28, Try.ntmps28
    obtain ⟨r0, r1, r2, r3⟩ := J0.out.head.two
    obtain ⟨x0, x1, x2, x3⟩ := J0.out.tail.head.two
    go_wp2
    go_ret
    exact ⟨HQ.out, J0.out.2.1⟩
  · have k1 : ¬ M < N := by omega
    have k2 : ¬ N < M := by omega
    have HQ := Lib.hid (HR.out _ e.symm)
    clear HR e k
    go_enter Try.func28, Try.ntmps28
    obtain ⟨r0, r1, r2, r3⟩ := J0.out.head.two
    obtain ⟨x0, x1, x2, x3⟩ := J0.out.tail.head.two
    go_wp2
    go_ret
    exact ⟨HQ.out, J0.out.2.1⟩
  · have HQ := Lib.hid (HR.out _ e.symm)
    clear HR e
    go_enter Try.func28, Try.ntmps28
    obtain ⟨r0, r1, r2, r3⟩ := J0.out.head.two
    obtain ⟨x0, x1, x2, x3⟩ := J0.out.tail.head.two
    go_wp2
    go_ret
    exact ⟨HQ.out, J0.out.2.1⟩
def chkE (l : List PQ) : Int := if allS l = true then 0 else 130
theorem chkR {l : List PQ} {r : Int} (h : r = chkE l) : Ending.returned (.int .i64 r) = .returned (.int .i64 (chkE l)) := by rw [h]
theorem allS_no {l : List PQ} {k : Nat} (hk : k < l.length) (h : scoB (l.getD k pq0).1 (l.getD k pq0).2 = false) : allS l = false := by
  unfold allS
  rw [List.all_eq_false]
  refine ⟨l.getD k pq0, ?_, by rw [h]; simp⟩
  rw [List.getD_eq_getElem?_getD, List.getElem?_eq_getElem hk]; exact List.getElem_mem hk
theorem allS_yes {l : List PQ} (h : ∀ j, j < l.length → scoB (l.getD j pq0).1 (l.getD j pq0).2 = true) : allS l = true := by
  unfold allS
  rw [List.all_eq_true]
  intro x hx
  obtain ⟨j, hj, rfl⟩ := List.mem_iff_getElem.1 hx
  have := h j hj
  rw [List.getD_eq_getElem?_getD, List.getElem?_eq_getElem hj] at this
  exact this
def okS (l : List PQ) : Prop := ∀ x ∈ l, I64 x.1 ∧ I64 x.2
theorem okS.at {l : List PQ} (h : okS l) {k : Nat} (hk : k < l.length) : I64 (l.getD k pq0).1 ∧ I64 (l.getD k pq0).2 :=
  h _ (by rw [List.getD_eq_getElem?_getD, List.getElem?_eq_getElem hk]; exact List.getElem_mem hk)
set_option maxHeartbeats 2000000 in
theorem sco_check (A : Option Addr) (l : List PQ) (c : Nat) (w : World) (hA : LiesS w w.heap.size A l) (hI : okS l) (hl : (l.length : Int) ≤ 9223372036854775807) :
    Calls Try.prog 157 #[.slice A l.length c] w fun e w' => e = .returned (.int .i64 (chkE l)) ∧ Below w.heap.size w w' := by
  have HA := Lib.hid hA
  have HI := Lib.hid (fun k (hk : k < l.length) => hI.at hk)
  have HNO := Lib.hid (fun k (hk : k < l.length) h => allS_no hk h)
  have HE := Lib.hid (@allS_yes l)
  have HY : Hid (allS l = true → Ending.returned (.int .i64 0) = .returned (.int .i64 (chkE l))) := fun h => by unfold chkE; rw [if_pos h]
  have HN : Hid (allS l = false → Ending.returned (.int .i64 130) = .returned (.int .i64 (chkE l))) := fun h => by unfold chkE; rw [h]; rfl
  generalize chkE l = R at *
  clear hA hI
  generalize hN : l.length = N at *
  have HL := Lib.hid hN
  clear hN
  go_enter Try.func157, Try.ntmps157
  go_wp2
  go_loopw [7] (fun i wr => ∃ k : Nat, k ≤ N ∧ i = .int .i64 k ∧ Hid (∀ j, j < k → scoB (l.getD j pq0).1 (l.getD j pq0).2 = true) ∧ Hid (Below w.heap.size w wr)) (fun i _ => N - (intOf i).toNat)
  case atStart => exact ⟨0, by omega, rfl, fun j hj => absurd hj (by omega), Below.refl _ _⟩
  case round =>
    obtain ⟨k, hk, rfl, HS, HW⟩ := hrel
    by_cases hlt : k < N
    · have HAr : Hid (LiesS wr w.heap.size A l) := HA.out.below HW.out
      obtain ⟨ad, rfl, hbk, c0, c1⟩ := HAr.out.at (k := k) (by have := HL.out; omega)
      obtain ⟨i1, i2⟩ := HI.out k hlt
      have K := Lib.hid (fun W => sco_is (l.getD k pq0).1 (l.getD k pq0).2 i1 i2 W)
      have HNk := Lib.hid (HNO.out k hlt)
      have HSX : Hid (scoB (l.getD k pq0).1 (l.getD k pq0).2 = true → ∀ j, j < k + 1 → scoB (l.getD j pq0).1 (l.getD j pq0).2 = true) := fun h j hj => by
        rcases Nat.lt_or_ge j k with g | g
        · exact HS.out j g
        · rw [show j = k from by omega]; exact h
      generalize (l.getD k pq0).1 = p at *
      generalize (l.getD k pq0).2 = q at *
      have hkg : (k : Int) < (N : Int) := by omega
      have hsz := HW.out.size
      have J := Lib.hid ((Keeps.start wr).alloc #[.int .i64 p, .int .i64 q] 24)
      clear i1 i2
      by_cases hb : scoB p q = true
      · rw [hb] at K
        have HX := Lib.hid (HSX.out hb)
        clear HSX HNk hb
        obtain ⟨r0, r1, r2, r3⟩ := J.out.head.two
        go_wp2_with fail
        refine (K.out _).mono ?_
        rintro e w1 ⟨rfl, b⟩
        have HW2 := Lib.hid (HW.out.trans ((J.out.below b).2.1.mono hsz))
        clear b
        go_wp2
        exact ⟨⟨k + 1, by omega, by go_num, HX, HW2⟩, by first | (simp [intOf]; done) | (simp [intOf]; omega)⟩
      · have hb : scoB p q = false := by simpa using hb
        rw [hb] at K
        have HX := Lib.hid (HN.out (HNk.out hb))
        clear HSX HNk hb
        obtain ⟨r0, r1, r2, r3⟩ := J.out.head.two
        go_wp2_with fail
        refine (K.out _).mono ?_
        rintro e w1 ⟨rfl, b⟩
        have HW2 := Lib.hid (HW.out.trans ((J.out.below b).2.1.mono hsz))
        clear b
        go_wp2
        go_ret
        exact ⟨HX.out, HW2.out⟩
    · obtain rfl : k = N := by omega
      have HX := Lib.hid (HY.out (HE.out HS.out))
      go_wp2
      go_ret
      exact ⟨HX.out, HW.out⟩
set_option maxHeartbeats 2000000 in
theorem ref13_all (A : Option Addr) (l : List PQ) (c : Nat) (w : World) (hA : LiesS w w.heap.size A l) (hI : okS l) (hl : (l.length : Int) ≤ 9223372036854775807) :
    Calls Try.prog 32 #[.slice A l.length c] w fun e w' => e = .returned (.bool (allS l)) ∧ Below w.heap.size w w' := by
  have HA := Lib.hid hA
  have HI := Lib.hid (fun k (hk : k < l.length) => hI.at hk)
  have HNO := Lib.hid (fun k (hk : k < l.length) h => allS_no hk h)
  have HE := Lib.hid (@allS_yes l)
  have HY : Hid (allS l = true → Ending.returned (.bool true) = .returned (.bool (allS l))) := fun h => by rw [h]
  have HN : Hid (allS l = false → Ending.returned (.bool false) = .returned (.bool (allS l))) := fun h => by rw [h]
  generalize allS l = R at *
  clear hA hI
  generalize hN : l.length = N at *
  have HL := Lib.hid hN
  clear hN
  go_enter Try.func32, Try.ntmps32
  go_wp2
  go_loopw [3] (fun i wr => ∃ k : Nat, k ≤ N ∧ i = .int .i64 k ∧ Hid (∀ j, j < k → scoB (l.getD j pq0).1 (l.getD j pq0).2 = true) ∧ Hid (Below w.heap.size w wr)) (fun i _ => N - (intOf i).toNat)
  case atStart => exact ⟨0, by omega, rfl, fun j hj => absurd hj (by omega), Below.refl _ _⟩
  case round =>
    obtain ⟨k, hk, rfl, HS, HW⟩ := hrel
    by_cases hlt : k < N
    · have HAr : Hid (LiesS wr w.heap.size A l) := HA.out.below HW.out
      obtain ⟨ad, rfl, hbk, c0, c1⟩ := HAr.out.at (k := k) (by have := HL.out; omega)
      obtain ⟨i1, i2⟩ := HI.out k hlt
      have K := Lib.hid (fun W => ref13_is (l.getD k pq0).1 (l.getD k pq0).2 W)
      have HNk := Lib.hid (HNO.out k hlt)
      have HSX : Hid (scoB (l.getD k pq0).1 (l.getD k pq0).2 = true → ∀ j, j < k + 1 → scoB (l.getD j pq0).1 (l.getD j pq0).2 = true) := fun h j hj => by
        rcases Nat.lt_or_ge j k with g | g
        · exact HS.out j g
        · rw [show j = k from by omega]; exact h
      generalize (l.getD k pq0).1 = p at *
      generalize (l.getD k pq0).2 = q at *
      have hkg : (k : Int) < (N : Int) := by omega
      have hsz := HW.out.size
      have J := Lib.hid ((Keeps.start wr).alloc #[.int .i64 p, .int .i64 q] 24)
      clear i1 i2
      by_cases hb : scoB p q = true
      · rw [hb] at K
        have HX := Lib.hid (HSX.out hb)
        clear HSX HNk hb
        obtain ⟨r0, r1, r2, r3⟩ := J.out.head.two
        go_wp2_with fail
        refine (K.out _).mono ?_
        rintro e w1 ⟨rfl, b⟩
        have HW2 := Lib.hid (HW.out.trans (b.mono hsz))
        clear b
        go_wp2
        exact ⟨⟨k + 1, by omega, by go_num, HX, HW2⟩, by first | (simp [intOf]; done) | (simp [intOf]; omega)⟩
      · have hb : scoB p q = false := by simpa using hb
        rw [hb] at K
        have HX := Lib.hid (HN.out (HNk.out hb))
        clear HSX HNk hb
        obtain ⟨r0, r1, r2, r3⟩ := J.out.head.two
        go_wp2_with fail
        refine (K.out _).mono ?_
        rintro e w1 ⟨rfl, b⟩
        have HW2 := Lib.hid (HW.out.trans (b.mono hsz))
        clear b
        go_wp2
        go_ret
        exact ⟨HX.out, HW2.out⟩
    · obtain rfl : k = N := by omega
      have HX := Lib.hid (HY.out (HE.out HS.out))
      go_wp2
      go_ret
      exact ⟨HX.out, HW.out⟩
end Go.Proofs.Ytaeodkpkgbjaeaa
