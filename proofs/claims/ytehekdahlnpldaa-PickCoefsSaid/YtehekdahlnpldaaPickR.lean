import Derived.Test.YtehekdahlnpldaaPickQ
import Derived.Test.YtehekdahlnpldaaDrawF

/-! Layer 7: Coefs for all that is asked; what the statements ask of every program. -/
namespace Go.Proofs.Ytehekdahlnpldaa
open Go.RowKit
set_option linter.unusedVariables false
set_option linter.unusedSimpArgs false

theorem pick_Coefs (A : Option Addr) (l : List Int) (c : Nat) (a d t : Int) (w : World) (hA : LiesU w w.heap.size A l) (hu : ∀ x ∈ l, U64 x) (hl : (l.length : Int) ≤ 9223372036854775807) (hat : I64 a) :
    Calls Try.prog 26 #[.slice A l.length c, .int .i64 a, .int .i64 d, .int .i64 t] w (GivesC (cof l a d t) w) := by
  by_cases h : 1 ≤ d ∧ d ≤ 8 ∧ 0 ≤ a ∧ 1 ≤ t ∧ t ≤ 64
  · rw [cof_yes h]
    obtain ⟨D, rfl⟩ : ∃ D : Nat, d = D := ⟨d.toNat, by omega⟩
    obtain ⟨T, rfl⟩ : ∃ T : Nat, t = T := ⟨t.toNat, by omega⟩
    rw [show ((D : Nat) : Int).toNat = D from by omega, show ((T : Nat) : Int).toNat = T from by omega]
    exact pick_Coefs_go A l c D T a w hA hu hl (by omega) (by omega) h.2.2.1 (by unfold I64 at hat; omega) (by omega) (by omega)
  · rw [cof_no h]
    have KW := Lib.hid (pick_within d 1 8 w)
    have KM := Lib.hid (pick_may a t w)
    clear hA hu
    generalize l.length = M at *
    by_cases g1 : 1 ≤ d ∧ d ≤ 8
    · rw [show decide (1 ≤ d ∧ d ≤ 8) = true from by simp; omega] at KW
      rw [show decide (0 ≤ a ∧ 1 ≤ t ∧ t ≤ 64) = false from by simp; omega] at KM
      clear h g1
      go_enter Try.func26, Try.ntmps26
      go_wp2_with fail
      refine KW.out.mono ?_
      rintro e1 w1 ⟨rfl, rfl⟩
      go_wp2_with fail
      refine KM.out.mono ?_
      rintro e1 w1 ⟨rfl, rfl⟩
      go_wp2
      go_ret3
      exact givesC_nil (Below.refl _ _)
    · rw [show decide (1 ≤ d ∧ d ≤ 8) = false from by simp; omega] at KW
      clear h g1
      go_enter Try.func26, Try.ntmps26
      go_wp2_with fail
      refine KW.out.mono ?_
      rintro e1 w1 ⟨rfl, rfl⟩
      go_wp2
      go_ret3
      exact givesC_nil (Below.refl _ _)
theorem ref_Coefs7 (A : Option Addr) (l : List Int) (c : Nat) (a d t : Int) (w : World) (hA : LiesU w w.heap.size A l) (hu : ∀ x ∈ l, U64 x) (hl : (l.length : Int) ≤ 9223372036854775807) (hat : I64 a) :
    Calls Try.prog 27 #[.slice A l.length c, .int .i64 a, .int .i64 d, .int .i64 t] w (GivesC (cof l a d t) w) := by
  by_cases h : 1 ≤ d ∧ d ≤ 8 ∧ 0 ≤ a ∧ 1 ≤ t ∧ t ≤ 64
  · rw [cof_yes h]
    obtain ⟨D, rfl⟩ : ∃ D : Nat, d = D := ⟨d.toNat, by omega⟩
    obtain ⟨T, rfl⟩ : ∃ T : Nat, t = T := ⟨t.toNat, by omega⟩
    rw [show ((D : Nat) : Int).toNat = D from by omega, show ((T : Nat) : Int).toNat = T from by omega]
    exact ref_Coefs_go A l c D T a w hA hu hl (by omega) (by omega) h.2.2.1 (by unfold I64 at hat; omega) (by omega) (by omega)
  · rw [cof_no h]
    have KM := Lib.hid (ref_asked a t w)
    clear hA hu
    generalize l.length = M at *
    by_cases g1 : d < 1
    · clear h
      go_enter Try.func27, Try.ntmps27
      go_wp2
      go_ret3
      exact givesC_nil (Below.refl _ _)
    · by_cases g2 : 8 < d
      · clear h
        go_enter Try.func27, Try.ntmps27
        go_wp2
        go_ret3
        exact givesC_nil (Below.refl _ _)
      · rw [show decide (0 ≤ a ∧ 1 ≤ t ∧ t ≤ 64) = false from by simp; omega] at KM
        clear h
        go_enter Try.func27, Try.ntmps27
        go_wp2_with fail
        refine KM.out.mono ?_
        rintro e1 w1 ⟨rfl, rfl⟩
        go_wp2
        go_ret3
        exact givesC_nil (Below.refl _ _)

theorem newLies (w : World) (l : List Int) : Lies (w.alloc (.cells (litI l).toArray 3)) (w.alloc (.cells (litI l).toArray 3)).heap.size (some ⟨w.heap.size, 0, none⟩) l := fun _ => by
  refine ⟨⟨w.heap.size, 0, none⟩, rfl, by simp, fun j hj => ?_⟩
  have h1 : (⟨w.heap.size, 0, none⟩ : Addr).add j = ⟨w.heap.size, j, none⟩ := by unfold Addr.add; split <;> simp_all
  rw [h1]
  refine (cell_of_row _ _ j _ _ (0, 0) (heap_alloc_new w _)).trans ?_
  rw [← litI_get l j hj]; simp
theorem newLiesU (w : World) (l : List Int) : LiesU (w.alloc (.cells (litu l).toArray 68)) (w.alloc (.cells (litu l).toArray 68)).heap.size (some ⟨w.heap.size, 0, none⟩) l := fun _ => by
  refine ⟨⟨w.heap.size, 0, none⟩, rfl, by simp, fun j hj => ?_⟩
  have h1 : (⟨w.heap.size, 0, none⟩ : Addr).add j = ⟨w.heap.size, j, none⟩ := by unfold Addr.add; split <;> simp_all
  rw [h1]
  refine (cell_of_row _ _ j _ _ (0, 0) (heap_alloc_new w _)).trans ?_
  rw [← litu_get l j hj]; simp
theorem upA {w w' : World} {o : Obj} (b : Below (w.alloc o).heap.size (w.alloc o) w') : Below w.heap.size w w' :=
  ((Below.refl _ w).alloc (Nat.le_refl _) o).trans (b.mono (by simp))
theorem lies_u7 {w w' : World} {A : Option Addr} {l : List Int} (h : Lies w w.heap.size A l) (hb : Below w.heap.size w w') : Lies w' w'.heap.size A l := (h.below hb).mono hb.size
theorem pv1 : playV 4 [2, 0] = ([2, 1], true) := by decide +kernel
theorem pv2 : backV 4 [2, 1] = ([2, 0], true) ∧ backV 4 [2, 2] = ([], false) := ⟨by decide +kernel, by decide +kernel⟩
theorem pv3 : sampV [2, 0] 0 4 2 1 = ([2, 1], 2, 0) ∧ sampV [] 0 257 257 1 = ([], 0, 1) := ⟨by decide +kernel, by decide +kernel⟩
theorem pv4 : cof [4, 4, 0] 0 1 3 = ([-4], 3, 0) := by kernel_rfl
theorem pv5 : wgh [5] 0 [2, 0, 4] 1 = (2, 1, 0) := by decide +kernel
/-- lists of the call's own behind what was done -/
theorem lies_upA {w w' : World} {o : Obj} {A : Option Addr} {l : List Int} (h : Lies w w.heap.size A l) (b : Below (w.alloc o).heap.size (w.alloc o) w') : Lies w' w'.heap.size A l := lies_u7 h (upA b)
theorem below_upA {w0 w w' : World} {o : Obj} (h : Below w0.heap.size w0 w) (b : Below (w.alloc o).heap.size (w.alloc o) w') : Below w0.heap.size w0 w' := h.trans ((upA b).mono h.size)
set_option maxRecDepth 100000 in
set_option maxHeartbeats 8000000 in
theorem lives7 (w : World) : Calls Try.prog 17 #[] w fun e w' => e = .returned (.bool true) ∧ Below w.heap.size w w' := by
  have K1 := Lib.hid (fun (W : World) => pick_Play (some ⟨W.heap.size, 0, none⟩) [2, 0] 2 4 (W.alloc (.cells #[.int .i64 2, .int .i64 0] 3)) (newLies W [2, 0]))
  have K2 := Lib.hid (fun (W : World) => pick_Back (some ⟨W.heap.size, 0, none⟩) [2, 1] 2 4 (W.alloc (.cells #[.int .i64 2, .int .i64 1] 3)) (newLies W [2, 1]) (fun x hx => by simp at hx; unfold I64; omega) (by simp))
  have K3 := Lib.hid (fun (W : World) => pick_Back (some ⟨W.heap.size, 0, none⟩) [2, 2] 2 4 (W.alloc (.cells #[.int .i64 2, .int .i64 2] 3)) (newLies W [2, 2]) (fun x hx => by simp at hx; unfold I64; omega) (by simp))
  have K4 := Lib.hid (fun (W : World) => pick_Sample (some ⟨W.heap.size, 0, none⟩) [2, 0] 2 0 4 2 1 (W.alloc (.cells #[.int .u64 2, .int .u64 0] 68)) (newLiesU W [2, 0]) (fun x hx => by simp at hx; unfold U64; omega) (by simp) (by unfold I64; omega))
  have K5 := Lib.hid (fun (W : World) => pick_Coefs (some ⟨W.heap.size, 0, none⟩) [4, 4, 0] 3 0 1 3 (W.alloc (.cells #[.int .u64 4, .int .u64 4, .int .u64 0] 68)) (newLiesU W [4, 4, 0]) (fun x hx => by simp at hx; unfold U64; omega) (by simp) (by unfold I64; omega))
  have K6 := Lib.hid (fun (W : World) => pick_Weigh (some ⟨W.heap.size, 0, none⟩) (some ⟨W.heap.size + 1, 0, none⟩) [5] [2, 0, 4] 1 3 0 1 ((W.alloc (.cells #[.int .u64 5] 68)).alloc (.cells #[.int .i64 2, .int .i64 0, .int .i64 4] 3)) (((newLiesU W [5]).below ((Below.refl _ _).alloc (Nat.le_refl _) _)).mono (by simp)) (fun x hx => by simp at hx; unfold U64; omega) (by simp) (by have h := newLies (W.alloc (.cells #[.int .u64 5] 68)) [2, 0, 4]; rw [show (W.alloc (.cells #[.int .u64 5] 68)).heap.size = W.heap.size + 1 from World.size_alloc _ _] at h; exact h) (by simp) (by unfold I64; omega))
  have K7 := Lib.hid (fun (W : World) => pick_Perm none [] 0 0 257 1 W LiesU.nil (fun x hx => by simp at hx) (by simp) (by unfold I64; omega))
  have KS := Lib.hid (fun (W : World) A c2 (l m : List Int) (h : Lies W W.heap.size A l) (hl : l.length ≤ 1000) (hm : m.length ≤ 1000) => ref_same1 A (some ⟨W.heap.size, 0, none⟩) l m c2 m.length (W.alloc (.cells (litI m).toArray 3)).heap.size (W.alloc (.cells (litI m).toArray 3)) (lies_u7 h ((Below.refl _ _).alloc (Nat.le_refl _) _)) (newLies W m) (by omega) (by omega))
  have KT := Lib.hid (fun (W : World) A A2 c2 c3 (l m : List Int) (h : Lies W W.heap.size A l) (h2 : Lies W W.heap.size A2 m) (hl : l.length ≤ 1000) (hm : m.length ≤ 1000) => ref_same1 A A2 l m c2 c3 W.heap.size W h h2 (by omega) (by omega))
  unfold GivesP at K1 K2 K3
  unfold GivesC at K4 K5 K7
  unfold GivesW at K6
  simp only [pv1, pv2, pv3, pv4, pv5] at K1 K2 K3 K4 K5 K6 K7
  simp only [List.length_cons, List.length_nil, Nat.zero_add, Nat.reduceAdd] at K1 K2 K3 K4 K5 K6 K7
  have KS1 := Lib.hid (fun W A c2 h => KS.out W A c2 [2, 1] [2, 1] h (by simp) (by simp))
  have KS2 := Lib.hid (fun W A c2 h => KS.out W A c2 [2, 0] [2, 0] h (by simp) (by simp))
  have KS3 := Lib.hid (fun W A c2 h => KS.out W A c2 [-4] [-4] h (by simp) (by simp))
  have KT1 := Lib.hid (fun W A A2 c2 c3 h h2 => KT.out W A A2 c2 c3 [2, 1] [2, 1] h h2 (by simp) (by simp))
  simp only [List.length_cons, List.length_nil, Nat.zero_add, Nat.reduceAdd, decide_true, litI, List.map_cons, List.map_nil] at KS1 KS2 KS3 KT1
  clear KS KT
  go_enter Try.func17, Try.ntmps17
  go_wp2_with fail
  refine (K1.out _).mono ?_
  rintro e w1 ⟨A1, c1, rfl, _, _, q1, _, b1⟩
  have HB1 := Lib.hid (upA b1)
  have L1 := Lib.hid q1
  clear b1 q1
  go_wp2_with fail
  refine (K2.out _).mono ?_
  rintro e w2 ⟨A2, c2, rfl, _, _, q2, _, b2⟩
  have HB2 := Lib.hid (below_upA HB1.out b2)
  have L1 := Lib.hid (lies_upA L1.out b2)
  have L2 := Lib.hid q2
  clear b2 q2
  go_wp2_with fail
  refine (K3.out _).mono ?_
  rintro e w3 ⟨A3, c3, rfl, _, _, _, _, b3⟩
  have HB3 := Lib.hid (below_upA HB2.out b3)
  have L1 := Lib.hid (lies_upA L1.out b3)
  have L2 := Lib.hid (lies_upA L2.out b3)
  clear b3
  go_wp2_with fail
  refine (K4.out _).mono ?_
  rintro e w4 ⟨A4, c4, rfl, _, _, q4, _, b4⟩
  have HB4 := Lib.hid (below_upA HB3.out b4)
  have L1 := Lib.hid (lies_upA L1.out b4)
  have L2 := Lib.hid (lies_upA L2.out b4)
  have L4 := Lib.hid q4
  clear b4 q4
  go_wp2_with fail
  refine (K5.out _).mono ?_
  rintro e w5 ⟨A5, c5, rfl, _, _, q5, _, b5⟩
  have HB5 := Lib.hid (below_upA HB4.out b5)
  have L1 := Lib.hid (lies_upA L1.out b5)
  have L2 := Lib.hid (lies_upA L2.out b5)
  have L4 := Lib.hid (lies_upA L4.out b5)
  have L5 := Lib.hid q5
  clear b5 q5
  go_wp2_with fail
  refine (K6.out _).mono ?_
  rintro e w6 ⟨rfl, b6⟩
  have b6' := upA (o := .cells #[.int .u64 5] 68) (w := w5) (((Below.refl _ _).alloc (Nat.le_refl _) (.cells #[.int .i64 2, .int .i64 0, .int .i64 4] 3)).trans (b6.mono (by simp)))
  have HB6 := Lib.hid (HB5.out.trans (b6'.mono HB5.out.size))
  have L1 := Lib.hid (lies_u7 L1.out b6')
  have L2 := Lib.hid (lies_u7 L2.out b6')
  have L4 := Lib.hid (lies_u7 L4.out b6')
  have L5 := Lib.hid (lies_u7 L5.out b6')
  clear b6 b6'
  go_wp2_with fail
  refine (K7.out _).mono ?_
  rintro e w7 ⟨A7, c7, rfl, _, _, _, _, b7⟩
  have HB7 := Lib.hid (HB6.out.trans (b7.mono HB6.out.size))
  have L1 := Lib.hid (lies_u7 L1.out b7)
  have L2 := Lib.hid (lies_u7 L2.out b7)
  have L4 := Lib.hid (lies_u7 L4.out b7)
  have L5 := Lib.hid (lies_u7 L5.out b7)
  clear b7
  go_wp2_with fail
  refine (KS1.out _ _ _ L1.out).mono ?_
  rintro e w8 ⟨rfl, hw⟩
  have b8 := bel_q hw
  have HB8 := Lib.hid (below_upA HB7.out b8)
  have L1 := Lib.hid (lies_upA L1.out b8)
  have L2 := Lib.hid (lies_upA L2.out b8)
  have L4 := Lib.hid (lies_upA L4.out b8)
  have L5 := Lib.hid (lies_upA L5.out b8)
  clear b8 hw
  go_wp2_with fail
  refine (KS2.out _ _ _ L2.out).mono ?_
  rintro e w9 ⟨rfl, hw⟩
  have b9 := bel_q hw
  have HB9 := Lib.hid (below_upA HB8.out b9)
  have L1 := Lib.hid (lies_upA L1.out b9)
  have L4 := Lib.hid (lies_upA L4.out b9)
  have L5 := Lib.hid (lies_upA L5.out b9)
  clear b9 hw
  go_wp2_with fail
  refine (KT1.out _ _ _ _ _ L4.out L1.out).mono ?_
  rintro e w10 ⟨rfl, hw⟩
  have b10 := bel_q hw
  have HB10 := Lib.hid (HB9.out.trans (b10.mono HB9.out.size))
  have L5 := Lib.hid (lies_u7 L5.out b10)
  clear b10 hw
  go_wp2_with fail
  refine (KS3.out _ _ _ L5.out).mono ?_
  rintro e w11 ⟨rfl, hw⟩
  have b11 := bel_q hw
  have HB11 := Lib.hid (below_upA HB10.out b11)
  clear b11 hw
  go_wp2
  go_ret
  exact ⟨rfl, HB11.out⟩
end Go.Proofs.Ytehekdahlnpldaa
