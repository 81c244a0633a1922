/- The contract of copseref01.Fits. -/
import Derived.Test.YtbnpbflndnjmcaaDoorBigI
namespace Go.Proofs.YtbnpbflndnjmcaaDoor
open Go.RowKit

def top : Int := 9223372036854775808
theorem order_at (r : Int) (A A2 : Option Addr) (x y : Int) (ca cb B : Nat) (w : World) (hx : 0 ≤ x) (hy : 0 ≤ y) (hA : Lies w B A (digs x)) (hB : Lies w B A2 (digs y)) (hl : (digs x).length ≤ 100000000) (hr : cmpI x y = r) :
    Calls Tryd.prog 57 #[.slice A (digs x).length ca, .slice A2 (digs y).length cb] w fun e w' => e = .returned (.int .i64 r) ∧ ∃ n, w' = w.drewN n :=
  (ref_order A A2 x y ca cb B w hx hy hA hB hl).mono fun _ _ h => by rw [← hr]; exact h
theorem val_drop_le {l : List Int} (h : Dig l) (k : Nat) : val (l.drop k) ≤ val l := by
  induction k generalizing l with
  | zero => rw [List.drop_zero]; exact Int.le_refl _
  | succ k ih =>
    cases l with
    | nil => simp
    | cons d l =>
      have hl : Dig l := fun x hx => h x (List.mem_cons_of_mem _ hx)
      have h1 := ih hl
      have h2 := (h d List.mem_cons_self).1
      have h3 := val_nonneg hl
      rw [List.drop_succ_cons, val]; omega

theorem fits_gt (neg : Bool) (m : Int) (A : Option Addr) (c : Nat) (w : World) (hm : 0 ≤ m) (hA : Lies w w.heap.size A (digs m)) (hl : (digs m).length ≤ 100000) (ho : top < m) :
    Calls Tryd.prog 49 #[.agg #[.bool neg, .slice A (digs m).length c]] w fun e w' => e = .returned (.tuple #[.int .i64 0, .int .i64 10]) ∧ Below w.heap.size w w' := by
  have hX := Box.new w #[.bool neg, .slice A (digs m).length c] 54
  have hW : Below w.heap.size w (w.alloc (.cells #[.bool neg, .slice A (digs m).length c] 54)) := (Below.refl _ _).alloc (Nat.le_refl _) _
  have hT : U64 9223372036854775808 := by unfold U64; omega
  have HO := Lib.hid (fun (r : Int) (W : World) (A2 : Option Addr) (c2 : Nat) (h : Below w.heap.size w W) (h2 : Lies W W.heap.size A2 (digs 9223372036854775808)) (hr : cmpI m 9223372036854775808 = r) => order_at r A A2 m 9223372036854775808 c c2 W.heap.size W hm (by omega) ((hA.below h).mono h.size) h2 (by omega) hr)
  have HX := Lib.hid hX
  have HW := Lib.hid hW
  clear hX hW hA
  generalize (digs m).length = N at *
  have hr : Hid (cmpI m 9223372036854775808 = 1) := by
    unfold top at ho
    show _ = _
    unfold cmpI; rw [if_neg (by omega), if_neg (by omega)]
  clear ho
  go_enter Tryd.func49, Tryd.ntmps49
  go_wp2_with (first | (go_at_call 60; refine (ref_of 9223372036854775808 hT _).mono ?_; rintro e w' ⟨A2, c2, rfl, hc, hm2, hL, hb⟩; obtain ⟨x0, x1, x2, x3⟩ := (HX.out.below hb (by simp)).two; have HL := Lib.hid hL; have HB := Lib.hid hb; clear hL hb) | (go_at_call 57; refine (HO.out 1 _ A2 c2 (HW.out.trans (HB.out.mono (by simp))) HL.out hr.out).mono ?_; rintro e w' ⟨rfl, q, rfl⟩))
  go_ret2
  exact ⟨rfl, below_drewN (HW.out.trans (HB.out.mono (by simp))) q⟩

theorem fits_eq (m : Int) (A : Option Addr) (c : Nat) (w : World) (hm : 0 ≤ m) (hA : Lies w w.heap.size A (digs m)) (hl : (digs m).length ≤ 100000) (ho : m = top) :
    Calls Tryd.prog 49 #[.agg #[.bool false, .slice A (digs m).length c]] w fun e w' => e = .returned (.tuple #[.int .i64 0, .int .i64 10]) ∧ Below w.heap.size w w' := by
  have hX := Box.new w #[.bool false, .slice A (digs m).length c] 54
  have hW : Below w.heap.size w (w.alloc (.cells #[.bool false, .slice A (digs m).length c] 54)) := (Below.refl _ _).alloc (Nat.le_refl _) _
  have hT : U64 9223372036854775808 := by unfold U64; omega
  have HO := Lib.hid (fun (r : Int) (W : World) (A2 : Option Addr) (c2 : Nat) (h : Below w.heap.size w W) (h2 : Lies W W.heap.size A2 (digs 9223372036854775808)) (hr : cmpI m 9223372036854775808 = r) => order_at r A A2 m 9223372036854775808 c c2 W.heap.size W hm (by omega) ((hA.below h).mono h.size) h2 (by omega) hr)
  have HX := Lib.hid hX
  have HW := Lib.hid hW
  clear hX hW hA
  generalize (digs m).length = N at *
  have hr : Hid (cmpI m 9223372036854775808 = 0) := by
    unfold top at ho
    show _ = _
    unfold cmpI; rw [if_neg (by omega), if_pos (by omega)]
  clear ho
  go_enter Tryd.func49, Tryd.ntmps49
  go_wp2_with (first | (go_at_call 60; refine (ref_of 9223372036854775808 hT _).mono ?_; rintro e w' ⟨A2, c2, rfl, hc, hm2, hL, hb⟩; obtain ⟨x0, x1, x2, x3⟩ := (HX.out.below hb (by simp)).two; have HL := Lib.hid hL; have HB := Lib.hid hb; clear hL hb) | (go_at_call 57; refine (HO.out 0 _ A2 c2 (HW.out.trans (HB.out.mono (by simp))) HL.out hr.out).mono ?_; rintro e w' ⟨rfl, q, rfl⟩))
  go_ret2
  exact ⟨rfl, below_drewN (HW.out.trans (HB.out.mono (by simp))) q⟩

set_option maxHeartbeats 600000 in
theorem fits_pos (m : Int) (A : Option Addr) (c : Nat) (w : World) (hm : 0 ≤ m) (hA : Lies w w.heap.size A (digs m)) (hl : (digs m).length ≤ 100000) (ho : m < top) :
    Calls Tryd.prog 49 #[.agg #[.bool false, .slice A (digs m).length c]] w fun e w' => e = .returned (.tuple #[.int .i64 (m), .int .i64 0]) ∧ Below w.heap.size w w' := by
  have hX := Box.new w #[.bool false, .slice A (digs m).length c] 54
  have hW : Below w.heap.size w (w.alloc (.cells #[.bool false, .slice A (digs m).length c] 54)) := (Below.refl _ _).alloc (Nat.le_refl _) _
  have hT : U64 9223372036854775808 := by unfold U64; omega
  have HO := Lib.hid (fun (r : Int) (W : World) (A2 : Option Addr) (c2 : Nat) (h : Below w.heap.size w W) (h2 : Lies W W.heap.size A2 (digs 9223372036854775808)) (hr : cmpI m 9223372036854775808 = r) => order_at r A A2 m 9223372036854775808 c c2 W.heap.size W hm (by omega) ((hA.below h).mono h.size) h2 (by omega) hr)
  have HX := Lib.hid hX
  have HW := Lib.hid hW
  have HA := Lib.hid hA
  have DM := dig_digs m
  have HV := Lib.hid (val_digs m hm)
  have hmt : m ≤ 9223372036854775807 := by unfold top at ho; omega
  clear hX hW hA
  generalize digs m = l at *
  generalize hN : l.length = N at *
  have HN := Lib.hid hN
  clear hN
  have hr : Hid (cmpI m 9223372036854775808 = -1) := by
    unfold top at ho
    show _ = _
    unfold cmpI; rw [if_pos (by omega)]
  clear ho
  go_enter Tryd.func49, Tryd.ntmps49
  go_wp2_with (first | (go_at_call 60; refine (ref_of 9223372036854775808 hT _).mono ?_; rintro e w' ⟨A2, c2, rfl, hc, hm2, hL, hb⟩; obtain ⟨x0, x1, x2, x3⟩ := (HX.out.below hb (by simp)).two; have HL := Lib.hid hL; have HB := Lib.hid hb; clear hL hb) | (go_at_call 57; refine (HO.out (-1) _ A2 c2 (HW.out.trans (HB.out.mono (by simp))) HL.out hr.out).mono ?_; rintro e w' ⟨rfl, q, rfl⟩))
  have hWb := below_drewN (HW.out.trans (HB.out.mono (by simp))) q
  have HLA := Lib.hid (HA.out.below hWb)
  have HWB := Lib.hid hWb
  clear hWb
  go_loop [6, 7] (fun av iv => ∃ (k : Nat) (v a : Int), k ≤ N ∧ iv = .int .i64 v ∧ Hid (v = k - 1) ∧ av = .int .i64 (a) ∧ Hid (a = val (l.drop k))) (fun _ iv => (intOf iv + 1).toNat)
  case atStart => exact ⟨N, _, 0, by omega, rfl, rfl, rfl, by have h := HN.out; show _ = _; rw [List.drop_eq_nil_of_le (by omega)]; rfl⟩
  case round =>
    obtain ⟨k, v, a, hk, rfl, Hv, rfl, Ha⟩ := hrel
    rcases Nat.eq_zero_or_pos k with rfl | hk0
    · obtain rfl : v = -1 := Hv.out
      go_wp2
      go_ret2
      refine ⟨ret2i ?_ rfl, HWB.out⟩
      have h1 := Ha.out
      rw [List.drop_zero, HV.out] at h1
      rw [h1]
    · obtain ⟨j, rfl⟩ : ∃ j, k = j + 1 := ⟨k - 1, by omega⟩
      obtain rfl : v = (j : Int) := by have := Hv.out; omega
      obtain ⟨ad, rfl, hadb, hcell⟩ := lies_at HLA.out (k := j) (by have := HN.out; omega)
      have hd := dig_getD DM j
      have hvd := val_drop l j (by have := HN.out; omega)
      have hle := val_drop_le DM j
      have h0 := val_nonneg (dig_drop DM (j + 1))
      rw [HV.out] at hle
      rw [← Ha.out] at hvd h0
      have Hvd := Lib.hid hvd
      rw [hvd] at hle
      clear hvd
      generalize l.getD j 0 = d at *
      go_wp2
      all_goals
        exact ⟨⟨j, _, d + 65536 * a, by omega, rfl, rfl, (by congr 1; omega), Hvd.out.symm⟩, by simp [intOf]⟩

set_option maxHeartbeats 600000 in
theorem fits_neg (m : Int) (A : Option Addr) (c : Nat) (w : World) (hm : 0 ≤ m) (hA : Lies w w.heap.size A (digs m)) (hl : (digs m).length ≤ 100000) (ho : m < top) :
    Calls Tryd.prog 49 #[.agg #[.bool true, .slice A (digs m).length c]] w fun e w' => e = .returned (.tuple #[.int .i64 (-m), .int .i64 0]) ∧ Below w.heap.size w w' := by
  have hX := Box.new w #[.bool true, .slice A (digs m).length c] 54
  have hW : Below w.heap.size w (w.alloc (.cells #[.bool true, .slice A (digs m).length c] 54)) := (Below.refl _ _).alloc (Nat.le_refl _) _
  have hT : U64 9223372036854775808 := by unfold U64; omega
  have HO := Lib.hid (fun (r : Int) (W : World) (A2 : Option Addr) (c2 : Nat) (h : Below w.heap.size w W) (h2 : Lies W W.heap.size A2 (digs 9223372036854775808)) (hr : cmpI m 9223372036854775808 = r) => order_at r A A2 m 9223372036854775808 c c2 W.heap.size W hm (by omega) ((hA.below h).mono h.size) h2 (by omega) hr)
  have HX := Lib.hid hX
  have HW := Lib.hid hW
  have HA := Lib.hid hA
  have DM := dig_digs m
  have HV := Lib.hid (val_digs m hm)
  have hmt : m ≤ 9223372036854775808 := by unfold top at ho; omega
  clear hX hW hA
  generalize digs m = l at *
  generalize hN : l.length = N at *
  have HN := Lib.hid hN
  clear hN
  have hr : Hid (cmpI m 9223372036854775808 = -1) := by
    unfold top at ho
    show _ = _
    unfold cmpI; rw [if_pos (by omega)]
  clear ho
  go_enter Tryd.func49, Tryd.ntmps49
  go_wp2_with (first | (go_at_call 60; refine (ref_of 9223372036854775808 hT _).mono ?_; rintro e w' ⟨A2, c2, rfl, hc, hm2, hL, hb⟩; obtain ⟨x0, x1, x2, x3⟩ := (HX.out.below hb (by simp)).two; have HL := Lib.hid hL; have HB := Lib.hid hb; clear hL hb) | (go_at_call 57; refine (HO.out (-1) _ A2 c2 (HW.out.trans (HB.out.mono (by simp))) HL.out hr.out).mono ?_; rintro e w' ⟨rfl, q, rfl⟩))
  have hWb := below_drewN (HW.out.trans (HB.out.mono (by simp))) q
  have HLA := Lib.hid (HA.out.below hWb)
  have HWB := Lib.hid hWb
  clear hWb
  go_loop [6, 7] (fun av iv => ∃ (k : Nat) (v a : Int), k ≤ N ∧ iv = .int .i64 v ∧ Hid (v = k - 1) ∧ av = .int .i64 (-a) ∧ Hid (a = val (l.drop k))) (fun _ iv => (intOf iv + 1).toNat)
  case atStart => exact ⟨N, _, 0, by omega, rfl, rfl, rfl, by have h := HN.out; show _ = _; rw [List.drop_eq_nil_of_le (by omega)]; rfl⟩
  case round =>
    obtain ⟨k, v, a, hk, rfl, Hv, rfl, Ha⟩ := hrel
    rcases Nat.eq_zero_or_pos k with rfl | hk0
    · obtain rfl : v = -1 := Hv.out
      go_wp2
      go_ret2
      refine ⟨ret2i ?_ rfl, HWB.out⟩
      have h1 := Ha.out
      rw [List.drop_zero, HV.out] at h1
      rw [h1]
    · obtain ⟨j, rfl⟩ : ∃ j, k = j + 1 := ⟨k - 1, by omega⟩
      obtain rfl : v = (j : Int) := by have := Hv.out; omega
      obtain ⟨ad, rfl, hadb, hcell⟩ := lies_at HLA.out (k := j) (by have := HN.out; omega)
      have hd := dig_getD DM j
      have hvd := val_drop l j (by have := HN.out; omega)
      have hle := val_drop_le DM j
      have h0 := val_nonneg (dig_drop DM (j + 1))
      rw [HV.out] at hle
      rw [← Ha.out] at hvd h0
      have Hvd := Lib.hid hvd
      rw [hvd] at hle
      clear hvd
      generalize l.getD j 0 = d at *
      go_wp2
      all_goals
        exact ⟨⟨j, _, d + 65536 * a, by omega, rfl, rfl, (by congr 1; omega), Hvd.out.symm⟩, by simp [intOf]⟩

set_option maxHeartbeats 600000 in
theorem fits_least (m : Int) (A : Option Addr) (c : Nat) (w : World) (hm : 0 ≤ m) (hA : Lies w w.heap.size A (digs m)) (hl : (digs m).length ≤ 100000) (ho : m = top) :
    Calls Tryd.prog 49 #[.agg #[.bool true, .slice A (digs m).length c]] w fun e w' => e = .returned (.tuple #[.int .i64 (-m), .int .i64 0]) ∧ Below w.heap.size w w' := by
  have hX := Box.new w #[.bool true, .slice A (digs m).length c] 54
  have hW : Below w.heap.size w (w.alloc (.cells #[.bool true, .slice A (digs m).length c] 54)) := (Below.refl _ _).alloc (Nat.le_refl _) _
  have hT : U64 9223372036854775808 := by unfold U64; omega
  have HO := Lib.hid (fun (r : Int) (W : World) (A2 : Option Addr) (c2 : Nat) (h : Below w.heap.size w W) (h2 : Lies W W.heap.size A2 (digs 9223372036854775808)) (hr : cmpI m 9223372036854775808 = r) => order_at r A A2 m 9223372036854775808 c c2 W.heap.size W hm (by omega) ((hA.below h).mono h.size) h2 (by omega) hr)
  have HX := Lib.hid hX
  have HW := Lib.hid hW
  have HA := Lib.hid hA
  have DM := dig_digs m
  have HV := Lib.hid (val_digs m hm)
  have hmt : m ≤ 9223372036854775808 := by unfold top at ho; omega
  clear hX hW hA
  generalize digs m = l at *
  generalize hN : l.length = N at *
  have HN := Lib.hid hN
  clear hN
  have hr : Hid (cmpI m 9223372036854775808 = 0) := by
    unfold top at ho
    show _ = _
    unfold cmpI; rw [if_neg (by omega), if_pos (by omega)]
  clear ho
  go_enter Tryd.func49, Tryd.ntmps49
  go_wp2_with (first | (go_at_call 60; refine (ref_of 9223372036854775808 hT _).mono ?_; rintro e w' ⟨A2, c2, rfl, hc, hm2, hL, hb⟩; obtain ⟨x0, x1, x2, x3⟩ := (HX.out.below hb (by simp)).two; have HL := Lib.hid hL; have HB := Lib.hid hb; clear hL hb) | (go_at_call 57; refine (HO.out 0 _ A2 c2 (HW.out.trans (HB.out.mono (by simp))) HL.out hr.out).mono ?_; rintro e w' ⟨rfl, q, rfl⟩))
  have hWb := below_drewN (HW.out.trans (HB.out.mono (by simp))) q
  have HLA := Lib.hid (HA.out.below hWb)
  have HWB := Lib.hid hWb
  clear hWb
  go_loop [6, 7] (fun av iv => ∃ (k : Nat) (v a : Int), k ≤ N ∧ iv = .int .i64 v ∧ Hid (v = k - 1) ∧ av = .int .i64 (-a) ∧ Hid (a = val (l.drop k))) (fun _ iv => (intOf iv + 1).toNat)
  case atStart => exact ⟨N, _, 0, by omega, rfl, rfl, rfl, by have h := HN.out; show _ = _; rw [List.drop_eq_nil_of_le (by omega)]; rfl⟩
  case round =>
    obtain ⟨k, v, a, hk, rfl, Hv, rfl, Ha⟩ := hrel
    rcases Nat.eq_zero_or_pos k with rfl | hk0
    · obtain rfl : v = -1 := Hv.out
      go_wp2
      go_ret2
      refine ⟨ret2i ?_ rfl, HWB.out⟩
      have h1 := Ha.out
      rw [List.drop_zero, HV.out] at h1
      rw [h1]
    · obtain ⟨j, rfl⟩ : ∃ j, k = j + 1 := ⟨k - 1, by omega⟩
      obtain rfl : v = (j : Int) := by have := Hv.out; omega
      obtain ⟨ad, rfl, hadb, hcell⟩ := lies_at HLA.out (k := j) (by have := HN.out; omega)
      have hd := dig_getD DM j
      have hvd := val_drop l j (by have := HN.out; omega)
      have hle := val_drop_le DM j
      have h0 := val_nonneg (dig_drop DM (j + 1))
      rw [HV.out] at hle
      rw [← Ha.out] at hvd h0
      have Hvd := Lib.hid hvd
      rw [hvd] at hle
      clear hvd
      generalize l.getD j 0 = d at *
      go_wp2
      all_goals
        exact ⟨⟨j, _, d + 65536 * a, by omega, rfl, rfl, (by congr 1; omega), Hvd.out.symm⟩, by simp [intOf]⟩

end Go.Proofs.YtbnpbflndnjmcaaDoor
