/- Layer 19 (quant): the line of any scores, of both; Of nobody's bag. -/
import Derived.Test.YtaeodkpkgbjaeaaQuaC
namespace Go.Proofs.Ytaeodkpkgbjaeaa
open Go.RowKit
set_option linter.unusedVariables false
set_option linter.unusedSimpArgs false

theorem sort_any : ∀ (n : Nat) (l : List PQ), l.length ≤ n → (∀ x ∈ l, okP x) → ∃ s, IsSort l s
  | 0, l, h, _ => ⟨l, IsSort.small (by omega)⟩
  | n + 1, l, h, hok => by
    by_cases h2 : l.length < 2
    · exact ⟨l, IsSort.small h2⟩
    · obtain ⟨s, hs⟩ := sort_any n (l.take 1) (by rw [List.length_take]; omega) fun x hx => hok x (List.mem_of_mem_take hx)
      obtain ⟨t, ht⟩ := sort_any n (l.drop 1) (by rw [List.length_drop]; omega) fun x hx => hok x (List.mem_of_mem_drop hx)
      exact ⟨_, IsSort.merge hok 1 hs ht⟩
/-- the line: which score, and why there is none -/
def lnE (l : List PQ) (p d : Int) : Int := if IdxOk (l.length : Nat) p d then (if allS l = true then 0 else 130) else 1
def lnS (l s : List PQ) (p d : Int) : PQ := if IdxOk (l.length : Nat) p d ∧ allS l = true then s.getD ((idN (l.length : Nat) p d).toNat - 1) pq0 else pq0
abbrev lnV (l s : List PQ) (p d : Int) : Value := .tuple #[.agg #[.int .i64 (lnS l s p d).1, .int .i64 (lnS l s p d).2], .int .i64 (lnE l p d)]
theorem ln_arg {l s : List PQ} {p d : Int} (h : ¬ IdxOk (l.length : Nat) p d) : lnS l s p d = pq0 ∧ lnE l p d = 1 := by
  unfold lnS lnE; rw [if_neg (fun hh => h hh.1), if_neg h]; exact ⟨rfl, rfl⟩
theorem ln_no {l s : List PQ} {p d : Int} (h : IdxOk (l.length : Nat) p d) (h2 : allS l = false) : lnS l s p d = pq0 ∧ lnE l p d = 130 := by
  unfold lnS lnE; rw [if_neg (fun hh => by rw [hh.2] at h2; cases h2), if_pos h, h2]; exact ⟨rfl, rfl⟩
theorem ln_ok {l s : List PQ} {p d : Int} (h : IdxOk (l.length : Nat) p d) (h2 : allS l = true) : lnS l s p d = s.getD ((idN (l.length : Nat) p d).toNat - 1) pq0 ∧ lnE l p d = 0 := by
  unfold lnS lnE; rw [if_pos ⟨h, h2⟩, if_pos h, if_pos h2]; exact ⟨rfl, rfl⟩
set_option maxRecDepth 100000 in
set_option maxHeartbeats 4000000 in
theorem qua_line (A : Option Addr) (l s : List PQ) (ca : Nat) (p d : Int) (w : World) (hA : LiesS w w.heap.size A l) (hI : okS l) (hl : l.length ≤ 100000) (hca : l.length ≤ ca) (hz : A = none → ca = 0) (hs : allS l = true → IsSort l s) :
    Calls Try.prog 30 #[.slice A l.length ca, .int .i64 p, .int .i64 d] w fun e w' => e = .returned (lnV l s p d) ∧ Below w.heap.size w w' := by
  have J0 := Lib.hid ((Keeps.start w).alloc #[.int .i64 0, .int .i64 0] 24)
  have K := Lib.hid (fun W => qua_index (l.length : Nat) p d W)
  have HA := Lib.hid (fun W (h : Below w.heap.size w W) => (hA.below h).mono h.size)
  unfold idV at K
  by_cases h : IdxOk (l.length : Nat) p d
  · have e1 : idE (l.length : Nat) p d = 0 := by unfold idE; rw [if_pos h]
    rw [e1] at K
    clear e1
    have hb := idN_bd h
    by_cases ha : allS l = true
    · have hv := ln_ok (s := s) h ha
      unfold lnV
      rw [hv.1, hv.2]
      have KS := Lib.hid (fun W (h : LiesS W W.heap.size A l) => sco_sort_ok A l l.length ca W rfl hl hca hz h hI ha)
      have hlen := (hs ha).len
      have HSS := Lib.hid (fun t (ht : IsSort l t) => (hs ha).same (all_okP ha) ht)
      unfold SortT at KS
      have hk : (idN (l.length : Nat) p d).toNat - 1 < s.length := by omega
      obtain ⟨k, hk2⟩ : ∃ k : Nat, idN (l.length : Nat) p d = (k : Int) + 1 := ⟨(idN (l.length : Nat) p d).toNat - 1, by omega⟩
      have hkk : (idN (l.length : Nat) p d).toNat - 1 = k := by omega
      rw [hkk] at hk ⊢
      rw [hk2] at K hb
      have hkl : (k : Int) < (l.length : Int) := by omega
      have hwk : wrap64 ((k : Int) + 1 - 1) = (k : Int) := by unfold wrap64; omega
      clear hA hI hs hv h ha hk2 hkk
      generalize hx : (s.getD k pq0).1 = x at *
      generalize hy : (s.getD k pq0).2 = y at *
      have HXY : Hid ((s.getD k pq0).1 = x ∧ (s.getD k pq0).2 = y) := ⟨hx, hy⟩
      clear hx hy
      generalize l.length = N at *
      go_enter Try.func30, Try.ntmps30
      go_wp2_with fail
      refine (K.out _).mono ?_
      rintro e w1 ⟨rfl, rfl⟩
      go_wp2_with fail
      refine (KS.out _ (HA.out _ J0.out.2.1)).mono ?_
      rintro e w2 ⟨s', A2, c2, rfl, L2, b2, hS⟩
      obtain rfl : s = s' := HSS.out _ hS
      obtain ⟨ad, rfl, hbk, c0, c1⟩ := L2.at hk
      rw [HXY.out.1] at c0
      rw [HXY.out.2] at c1
      have J2 := Lib.hid (J0.out.below b2)
      obtain ⟨r0, r1, r2, r3⟩ := J2.out.head.two
      have Z := J2.out.head.set2 (.int .i64 x) (.int .i64 y)
      obtain ⟨k0, k1, _, _⟩ := Z.two
      clear b2 L2 hS HXY HSS KS K
      go_wp2
      refine bodyPost_ret (v := .tuple #[.agg #[.int .i64 x, .int .i64 y], .int .i64 0]) ?_ rfl ⟨rfl, (J2.out.2.1.setCell (p := ⟨w.heap.size, 0, none⟩) (Nat.le_refl _) _).setCell (p := ⟨w.heap.size, 1, none⟩) (Nat.le_refl _) _⟩
      simp [results, Try.results30, go_sem, k0, k1]
    · have ha : allS l = false := by simpa using ha
      have hv := ln_no (s := s) h ha
      unfold lnV
      rw [hv.1, hv.2]
      have KS := Lib.hid (fun W (h : LiesS W W.heap.size A l) => sco_sort_no A l l.length ca W rfl hl h hI ha)
      clear hA hI hs hv h ha
      generalize idN (l.length : Nat) p d = kk at *
      generalize l.length = N at *
      go_enter Try.func30, Try.ntmps30
      go_wp2_with fail
      refine (K.out _).mono ?_
      rintro e w1 ⟨rfl, rfl⟩
      go_wp2_with fail
      refine (KS.out _ (HA.out _ J0.out.2.1)).mono ?_
      rintro e w2 ⟨rfl, b2⟩
      have J2 := Lib.hid (J0.out.below b2)
      obtain ⟨r0, r1, r2, r3⟩ := J2.out.head.two
      have Z := J2.out.head.set2 (.int .i64 0) (.int .i64 0)
      obtain ⟨k0, k1, _, _⟩ := Z.two
      clear b2 KS K
      go_wp2
      refine bodyPost_ret (v := .tuple #[.agg #[.int .i64 0, .int .i64 0], .int .i64 130]) ?_ rfl ⟨rfl, (J2.out.2.1.setCell (p := ⟨w.heap.size, 0, none⟩) (Nat.le_refl _) _).setCell (p := ⟨w.heap.size, 1, none⟩) (Nat.le_refl _) _⟩
      simp [results, Try.results30, go_sem, k0, k1]
  · have e1 : idE (l.length : Nat) p d = 1 := by unfold idE; rw [if_neg h]
    have e2 : idN (l.length : Nat) p d = 0 := by unfold idN; rw [if_neg h]
    rw [e1, e2] at K
    have hv := ln_arg (s := s) h
    unfold lnV
    rw [hv.1, hv.2]
    clear hA hI hs hv h e1 e2 HA
    generalize l.length = N at *
    obtain ⟨r0, r1, r2, r3⟩ := J0.out.head.two
    go_enter Try.func30, Try.ntmps30
    go_wp2_with fail
    refine (K.out _).mono ?_
    rintro e w1 ⟨rfl, rfl⟩
    go_wp2
    refine bodyPost_ret (v := .tuple #[.agg #[.int .i64 0, .int .i64 0], .int .i64 1]) ?_ rfl ⟨rfl, J0.out.2.1⟩
    simp [results, Try.results30, go_sem, r0, r1]
set_option maxRecDepth 100000 in
set_option maxHeartbeats 4000000 in
theorem ref19_line (A : Option Addr) (l s : List PQ) (ca : Nat) (p d : Int) (w : World) (hA : LiesS w w.heap.size A l) (hI : okS l) (hl : l.length ≤ 100000) (hca : l.length ≤ ca) (hz : A = none → ca = 0) (hs : allS l = true → IsSort l s) :
    Calls Try.prog 31 #[.slice A l.length ca, .int .i64 p, .int .i64 d] w fun e w' => e = .returned (lnV l s p d) ∧ Below w.heap.size w w' := by
  have J0 := Lib.hid ((Keeps.start w).alloc #[.int .i64 0, .int .i64 0] 24)
  have K := Lib.hid (fun W => ref19_index (l.length : Nat) p d W)
  have HA := Lib.hid (fun W (h : Below w.heap.size w W) => (hA.below h).mono h.size)
  unfold idV at K
  by_cases h : IdxOk (l.length : Nat) p d
  · have e1 : idE (l.length : Nat) p d = 0 := by unfold idE; rw [if_pos h]
    rw [e1] at K
    clear e1
    have hb := idN_bd h
    by_cases ha : allS l = true
    · have hv := ln_ok (s := s) h ha
      unfold lnV
      rw [hv.1, hv.2]
      have KS := Lib.hid (fun W (h : LiesS W W.heap.size A l) => ref13_sort_ok A l l.length ca W rfl hl  h hI ha)
      have hlen := (hs ha).len
      have HSS := Lib.hid (fun t (ht : IsSort l t) => (hs ha).same (all_okP ha) ht)
      unfold SortT at KS
      have hk : (idN (l.length : Nat) p d).toNat - 1 < s.length := by omega
      obtain ⟨k, hk2⟩ : ∃ k : Nat, idN (l.length : Nat) p d = (k : Int) + 1 := ⟨(idN (l.length : Nat) p d).toNat - 1, by omega⟩
      have hkk : (idN (l.length : Nat) p d).toNat - 1 = k := by omega
      rw [hkk] at hk ⊢
      rw [hk2] at K hb
      have hkl : (k : Int) < (l.length : Int) := by omega
      have hwk : wrap64 ((k : Int) + 1 - 1) = (k : Int) := by unfold wrap64; omega
      clear hA hI hs hv h ha hk2 hkk
      generalize hx : (s.getD k pq0).1 = x at *
      generalize hy : (s.getD k pq0).2 = y at *
      have HXY : Hid ((s.getD k pq0).1 = x ∧ (s.getD k pq0).2 = y) := ⟨hx, hy⟩
      clear hx hy
      generalize l.length = N at *
      go_enter Try.func31, Try.ntmps31
      go_wp2_with fail
      refine (K.out _).mono ?_
      rintro e w1 ⟨rfl, rfl⟩
      go_wp2_with fail
      refine (KS.out _ (HA.out _ J0.out.2.1)).mono ?_
      rintro e w2 ⟨s', A2, c2, rfl, L2, b2, hS⟩
      obtain rfl : s = s' := HSS.out _ hS
      obtain ⟨ad, rfl, hbk, c0, c1⟩ := L2.at hk
      rw [HXY.out.1] at c0
      rw [HXY.out.2] at c1
      have J2 := Lib.hid (J0.out.below b2)
      obtain ⟨r0, r1, r2, r3⟩ := J2.out.head.two
      have Z := J2.out.head.set2 (.int .i64 x) (.int .i64 y)
      obtain ⟨k0, k1, _, _⟩ := Z.two
      clear b2 L2 hS HXY HSS KS K
      go_wp2
      refine bodyPost_ret (v := .tuple #[.agg #[.int .i64 x, .int .i64 y], .int .i64 0]) ?_ rfl ⟨rfl, (J2.out.2.1.setCell (p := ⟨w.heap.size, 0, none⟩) (Nat.le_refl _) _).setCell (p := ⟨w.heap.size, 1, none⟩) (Nat.le_refl _) _⟩
      simp [results, Try.results31, go_sem, k0, k1]
    · have ha : allS l = false := by simpa using ha
      have hv := ln_no (s := s) h ha
      unfold lnV
      rw [hv.1, hv.2]
      have KS := Lib.hid (fun W (h : LiesS W W.heap.size A l) => ref13_sort_no A l l.length ca W rfl hl h hI ha)
      clear hA hI hs hv h ha
      generalize idN (l.length : Nat) p d = kk at *
      generalize l.length = N at *
      go_enter Try.func31, Try.ntmps31
      go_wp2_with fail
      refine (K.out _).mono ?_
      rintro e w1 ⟨rfl, rfl⟩
      go_wp2_with fail
      refine (KS.out _ (HA.out _ J0.out.2.1)).mono ?_
      rintro e w2 ⟨rfl, b2⟩
      have J2 := Lib.hid (J0.out.below b2)
      obtain ⟨r0, r1, r2, r3⟩ := J2.out.head.two
      have Z := J2.out.head.set2 (.int .i64 0) (.int .i64 0)
      obtain ⟨k0, k1, _, _⟩ := Z.two
      clear b2 KS K
      go_wp2
      refine bodyPost_ret (v := .tuple #[.agg #[.int .i64 0, .int .i64 0], .int .i64 130]) ?_ rfl ⟨rfl, (J2.out.2.1.setCell (p := ⟨w.heap.size, 0, none⟩) (Nat.le_refl _) _).setCell (p := ⟨w.heap.size, 1, none⟩) (Nat.le_refl _) _⟩
      simp [results, Try.results31, go_sem, k0, k1]
  · have e1 : idE (l.length : Nat) p d = 1 := by unfold idE; rw [if_neg h]
    have e2 : idN (l.length : Nat) p d = 0 := by unfold idN; rw [if_neg h]
    rw [e1, e2] at K
    have hv := ln_arg (s := s) h
    unfold lnV
    rw [hv.1, hv.2]
    clear hA hI hs hv h e1 e2 HA
    generalize l.length = N at *
    obtain ⟨r0, r1, r2, r3⟩ := J0.out.head.two
    go_enter Try.func31, Try.ntmps31
    go_wp2_with fail
    refine (K.out _).mono ?_
    rintro e w1 ⟨rfl, rfl⟩
    go_wp2
    refine bodyPost_ret (v := .tuple #[.agg #[.int .i64 0, .int .i64 0], .int .i64 1]) ?_ rfl ⟨rfl, J0.out.2.1⟩
    simp [results, Try.results31, go_sem, r0, r1]
set_option maxRecDepth 100000 in
set_option maxHeartbeats 4000000 in
theorem qua_of_nil (p d : Int) (w : World) : Calls Try.prog 33 #[.pointer none, .int .i64 p, .int .i64 d] w fun e w' => e = .returned (.tuple #[.agg #[.int .i64 0, .int .i64 0], .int .i64 7]) ∧ Below w.heap.size w w' := by
  have J0 := Lib.hid ((Keeps.start w).alloc #[.int .i64 0, .int .i64 0] 24)
  obtain ⟨r0, r1, r2, r3⟩ := J0.out.head.two
  go_enter Try.func33, Try.ntmps33
  go_wp2
  refine bodyPost_ret (v := .tuple #[.agg #[.int .i64 0, .int .i64 0], .int .i64 7]) ?_ rfl ⟨rfl, J0.out.2.1⟩
  simp [results, Try.results33, go_sem, r0, r1]
end Go.Proofs.Ytaeodkpkgbjaeaa
