/- Layer 21 (bin): a reader's next, number. -/
import Derived.Test.YtkfmebdpfjjkjaaBinE
namespace Go.Proofs.Ytkfmebdpfjjkjaa
open Go.RowKit
set_option linter.unusedVariables false
set_option linter.unusedSimpArgs false

theorem Wr.drewN (g : Nat) (w : World) (n : Nat) : Wr g w (w.drewN n) := Wr.of g (below_drewN2 (Below.refl _ _) n)
theorem RdAt.drewN {w : World} {B g k : Nat} {b : List Int} {e : Int} (h : RdAt w B g b k e) (n : Nat) : RdAt (w.drewN n) B g b k e := h.below (below_drewN2 (Below.refl _ _) n)
set_option maxRecDepth 100000 in
set_option maxHeartbeats 2000000 in
theorem rd_next_short {w : World} {B g k : Nat} {b : List Int} {e0 : Int} (h : RdAt w B g b k e0) (m : Nat) (hm : b.length - k < m) (hm2 : m ≤ 9223372036854775807) :
    Calls Try.prog 138 #[.pointer (some ⟨g, 0, none⟩), .int .i64 (m : Nat)] w fun e w' => e = .returned (.slice none 0 0) ∧ RdAt w' B g b k (failE e0 210) ∧ Wr g w w' := by
  have KL := Lib.hid (rd_Left h)
  have KF := Lib.hid (fun n => rd_Fail (h.drewN n) 210)
  obtain ⟨-, -, hk, hb, -⟩ := h.lt
  have hmg : ((b.length - k : Nat) : Int) < (m : Int) := by omega
  clear h
  generalize b.length - k = r at *
  go_enter Try.func138, Try.ntmps138
  go_wp2_with fail
  refine (KL.out).mono ?_
  rintro e w' ⟨rfl, n, rfl⟩
  go_wp2_with fail
  refine (KF.out n).mono ?_
  rintro e w1 ⟨rfl, h1, h2⟩
  have H1 := Lib.hid h1
  have H2 := Lib.hid ((Wr.drewN g w n).trans h2)
  clear h1 h2
  go_wp2
  go_ret
  exact ⟨rfl, H1.out, H2.out⟩
set_option maxRecDepth 100000 in
set_option maxHeartbeats 4000000 in
theorem rd_next_ok {w : World} {B g k : Nat} {b : List Int} {e0 : Int} (h : RdAt w B g b k e0) (m : Nat) (hm : m ≤ b.length - k) :
    Calls Try.prog 138 #[.pointer (some ⟨g, 0, none⟩), .int .i64 (m : Nat)] w fun e w' => ∃ A2 c2, e = .returned (.slice A2 m c2) ∧ RdAt w' B g b (k + m) e0 ∧ Wr g w w' ∧ LiesY w' w'.heap.size A2 ((b.drop k).take m) ∧ (A2 = none → c2 = 0) ∧ m ≤ c2 := by
  have KL := Lib.hid (rd_Left h)
  obtain ⟨hg, -, hk, hb, -⟩ := h.lt
  have HR := Lib.hid h
  obtain ⟨A, c, hbx, -, hbc, -, hAc, -, hL, -⟩ := h
  have HEND : Hid (∀ n, RdAt ((w.drewN n).setCell ⟨g, 1, none⟩ (.int .i64 ((k + m : Nat) : Int))) B g b (k + m) e0) := fun n => (HR.out.drewN n).to (k + m) (by omega)
  have HLY : Hid (∀ n, LiesY ((w.drewN n).setCell ⟨g, 1, none⟩ (.int .i64 ((k + m : Nat) : Int))) g A b) := fun n => (hL.below (below_drewN2 (Below.refl _ _) n)).wr (Wr.set g 1 _ _) (Nat.le_of_lt hg)
  have HB0 : Hid (∀ n, Box (w.drewN n) g #[.slice A b.length c, .int .i64 (k : Nat), .int .i64 e0] 118) := fun n => hbx
  have hmg : ¬ ((b.length - k : Nat) : Int) < (m : Int) := by omega
  have hAc' := Lib.hid hAc
  clear hbx hAc hL
  have HDT : Hid (∀ (W : World) (ad : Addr), A = some ad → LiesY W g A b → g ≤ W.heap.size → LiesY W W.heap.size (some (ad.add k)) ((b.drop k).take m)) := fun W ad e hl hgW h0 => by
    rw [List.length_take, List.length_drop] at h0
    obtain ⟨ad', e', h1, h2⟩ := hl (by omega)
    rw [e] at e'; cases e'
    refine ⟨_, rfl, by rw [add_block]; omega, fun j hj => ?_⟩
    rw [List.length_take, List.length_drop] at hj
    rw [add_addY, h2 (k + j) (by omega), List.getD_eq_getElem?_getD, List.getD_eq_getElem?_getD, List.getElem?_take, if_pos (by omega), List.getElem?_drop]
  have HD0 : Hid (m = 0 → ∀ (W : World) B A2, LiesY W B A2 ((b.drop k).take m)) := fun e W B A2 => by
    rw [e, List.take_zero]; exact LiesY.nil
  generalize hT : (b.drop k).take m = T at *
  clear hT
  generalize b.length = N at *
  generalize hrr : N - k = r at *
  have hkm : ((k : Nat) : Int) + (m : Int) = ((k + m : Nat) : Int) := by omega
  have hw1 : wrap64 ((k : Int) + (m : Int)) = (k : Int) + (m : Int) := by unfold wrap64; omega
  have hcN : ((k + m : Nat) : Int) ≤ (c : Int) := by omega
  have HKM := Lib.hid hkm
  rw [← hkm] at HEND HLY
  clear hkm
  by_cases hck : c = k
  · have hm0 : m = 0 := by omega
    go_enter Try.func138, Try.ntmps138
    go_wp2_with fail
    refine (KL.out).mono ?_
    rintro e w' ⟨rfl, n, rfl⟩
    have hbx := HB0.out n
    have c0 := hbx.cell 0
    have c1 := hbx.cell 1
    have f1 := hbx.free 1
    have hb2 := hbx.set 1 (.int .i64 ((k : Int) + (m : Int)))
    have d0 := hb2.cell 0
    have d1 := hb2.cell 1
    have HE := Lib.hid (HEND.out n)
    have HL := Lib.hid (HLY.out n)
    have HW : Hid (Wr g w ((w.drewN n).setCell ⟨g, 1, none⟩ (.int .i64 ((k : Int) + (m : Int))))) := (Wr.drewN g w n).trans (Wr.set g 1 _ _)
    simp at c0 c1 d0 d1
    clear hbx hb2 HEND HLY HB0 HR
    go_wp2
    go_quiet (fail)
    go_wp2
    go_ret
    have e0' : (k : Int) + (m : Int) = (k : Int) := by omega
    rw [e0'] at HE HW
    refine ⟨A, 0, ?_, HE.out.drewN nq, HW.out.trans (Wr.drewN _ _ _), HD0.out hm0 _ _ _, fun _ => rfl, by omega⟩
    show Ending.returned (Value.slice A 0 0) = _
    rw [hm0]
  · obtain ⟨ad, eA⟩ : ∃ ad, A = some ad := by
      cases A with
      | none => have := hAc'.out rfl; omega
      | some ad => exact ⟨ad, rfl⟩
    subst eA
    go_enter Try.func138, Try.ntmps138
    go_wp2_with fail
    refine (KL.out).mono ?_
    rintro e w' ⟨rfl, n, rfl⟩
    have hbx := HB0.out n
    have c0 := hbx.cell 0
    have c1 := hbx.cell 1
    have f1 := hbx.free 1
    have hb2 := hbx.set 1 (.int .i64 ((k : Int) + (m : Int)))
    have d0 := hb2.cell 0
    have d1 := hb2.cell 1
    have HE := Lib.hid (HEND.out n)
    have HL := Lib.hid (HLY.out n)
    have HW : Hid (Wr g w ((w.drewN n).setCell ⟨g, 1, none⟩ (.int .i64 ((k : Int) + (m : Int))))) := (Wr.drewN g w n).trans (Wr.set g 1 _ _)
    simp at c0 c1 d0 d1
    clear hbx hb2 HEND HLY HB0 HR
    go_wp2
    go_quiet (fail)
    go_wp2
    go_ret
    refine ⟨some (ad.add k), c - k, ?_, HE.out.drewN nq, HW.out.trans (Wr.drewN _ _ _), ?_, (fun h => by cases h), by omega⟩
    · show Ending.returned (Value.slice (some (ad.add k)) (k + m - k) (c - k)) = _
      rw [Nat.add_sub_cancel_left]
    · have hsz : g ≤ ((w.drewN n).setCell ⟨g, 1, none⟩ (.int .i64 ((k : Int) + (m : Int)))).heap.size := by
        have : ((w.drewN n).setCell ⟨g, 1, none⟩ (.int .i64 ((k : Int) + (m : Int)))).heap.size = w.heap.size := by simp [World.setCell]
        omega
      exact (HDT.out _ ad rfl HL.out hsz).up (below_drewN2 (Below.refl _ _) nq)
theorem lies_len {w : World} {B : Nat} {A : Option Addr} {y : List Int} (m c : Nat) (hm : y.length = m) : (Value.slice A m c) = .slice A y.length c := by rw [hm]
set_option maxRecDepth 100000 in
theorem bin_joined' (y : List Int) (A : Option Addr) (m c B : Nat) (w : World) (hm : y.length = m) (hA : LiesY w B A y) (hy : byt y) (hl : m ≤ 8) :
    Calls Try.prog 169 #[.slice A m c] w fun e w' => e = .returned (.int .u64 (joinN y : Nat)) ∧ w = w' := by
  subst hm
  exact bin_joined y A c B w hA hy hl
/-- what a number gives: where it failed, only how -/
def NumR (w : World) (B g : Nat) (b : List Int) (k : Nat) (e : Ending) (w' : World) : Prop :=
  ∃ (v k2 : Nat) (e2 : Int), e = .returned (.int .u64 v) ∧ v < 18446744073709551616 ∧ RdAt w' B g b k2 e2 ∧ Wr g w w' ∧ e2 = (rU b k 0).1.2 ∧ (e2 = 0 → k2 = (rU b k 0).1.1 ∧ v = (rU b k 0).2)
theorem take1 {b : List Int} {k : Nat} (h : k < b.length) : (b.drop k).take 1 = [b.getD k 0] := by
  rw [List.drop_eq_getElem_cons h, List.take_succ_cons, List.take_zero, List.getD_eq_getElem?_getD, List.getElem?_eq_getElem h]; rfl
set_option maxRecDepth 100000 in
set_option maxHeartbeats 8000000 in
theorem rd_number {w : World} {B g k : Nat} {b : List Int} (h : RdAt w B g b k 0) :
    Calls Try.prog 134 #[.pointer (some ⟨g, 0, none⟩)] w (NumR w B g b k) := by
  obtain ⟨hg, hBg, hk, hb, hby⟩ := h.lt
  have KJ0 : Hid (∀ W, Calls Try.prog 169 #[.slice none 0 0] W fun e w' => e = .returned (.int .u64 0) ∧ W = w') := fun W => bin_joined' [] none 0 0 0 W rfl LiesY.nil byt.nil (by omega)
  by_cases c1 : b.length ≤ k
  · have hU : rU b k 0 = ((k, 210), 0) := by unfold rU; rw [if_neg (by simp), if_pos c1]
    have KN := Lib.hid (rd_next_short h 1 (by omega) (by omega))
    have HRES : Hid (∀ W, RdAt W B g b k (failE 0 210) → Wr g w W → NumR w B g b k (.returned (.int .u64 0)) W) := fun W h1 h2 => ⟨0, k, 210, rfl, by omega, h1, h2, by rw [hU], fun h => by omega⟩
    clear hU h
    generalize NumR w B g b k = R at *
    go_enter Try.func134, Try.ntmps134
    go_wp2_with fail
    refine (KN.out).mono ?_
    rintro e w1 ⟨rfl, g1, g2⟩
    have HR1 := Lib.hid g1
    have HW1 := Lib.hid g2
    clear g1 g2
    go_wp2_with fail
    refine (KJ0.out _).mono ?_
    rintro e w2 ⟨rfl, rfl⟩
    go_wp2
    first | exact HRES.out _ HR1.out HW1.out | (go_ret; exact HRES.out _ HR1.out HW1.out)
  have hU0 : rU b k 0 = if b.getD k 0 < 240 then ((k + 1, 0), (b.getD k 0).toNat) else if 247 < b.getD k 0 then ((k, 211), 0)
      else if b.length - k - 1 < (b.getD k 0).toNat - 239 then ((k, 210), 0)
      else if joinN ((b.drop (k + 1)).take ((b.getD k 0).toNat - 239)) < leastN ((b.getD k 0).toNat - 239) then ((k, 211), 0)
      else ((k + 1 + ((b.getD k 0).toNat - 239), 0), joinN ((b.drop (k + 1)).take ((b.getD k 0).toNat - 239))) := by
    conv => lhs; unfold rU
    rw [if_neg (by simp), if_neg c1]
  have KN1 := Lib.hid (rd_next_ok h 1 (by omega))
  rw [take1 (by omega)] at KN1
  have hf := hby.getD k
  generalize b.getD k 0 = f at *
  obtain ⟨n, rfl⟩ : ∃ n : Nat, f = (n : Int) := ⟨f.toNat, by omega⟩
  have KJ1 : Hid (∀ W A c, LiesY W W.heap.size A [(n : Int)] → Calls Try.prog 169 #[.slice A 1 c] W fun e w' => e = .returned (.int .u64 (n : Nat)) ∧ W = w') := fun W A c hL => by
    have := bin_joined' [(n : Int)] A 1 c W.heap.size W rfl hL (byt.one hf) (by omega)
    rw [show joinN [(n : Int)] = n from by simp [joinN]] at this
    exact this
  rw [Int.toNat_natCast] at hU0
  clear KJ0
  by_cases c2 : (n : Int) < 240
  · have HRES : Hid (∀ W, RdAt W B g b (k + 1) 0 → Wr g w W → NumR w B g b k (.returned (.int .u64 n)) W) := fun W h1 h2 => ⟨n, k + 1, 0, rfl, by omega, h1, h2, by rw [hU0, if_pos c2], fun _ => by rw [hU0, if_pos c2]; exact ⟨rfl, rfl⟩⟩
    clear hU0 h
    generalize NumR w B g b k = R at *
    go_enter Try.func134, Try.ntmps134
    go_wp2_with fail
    refine (KN1.out).mono ?_
    rintro e w1 ⟨A1, c1, rfl, g1, g2, g3, -, -⟩
    have HR1 := Lib.hid g1
    have HW1 := Lib.hid g2
    have HL1 := Lib.hid g3
    clear g1 g2 g3
    go_wp2_with fail
    refine (KJ1.out _ _ _ HL1.out).mono ?_
    rintro e w2 ⟨rfl, rfl⟩
    go_wp2
    first | exact HRES.out _ HR1.out HW1.out | (go_ret; exact HRES.out _ HR1.out HW1.out)
  rw [if_neg c2] at hU0
  have KH : Hid (∀ W, Calls Try.prog 167 #[.int .i64 0] W fun e w' => e = .returned (.int .u8 239) ∧ W = w') := fun W => bin_head 0 (by omega) (by omega) W
  by_cases c3 : (247 : Int) < (n : Int)
  · rw [if_pos c3] at hU0
    have c3' : ¬ (n : Int) - 239 ≤ 8 := by omega
    have KF := Lib.hid (fun W (h1 : RdAt W B g b (k + 1) 0) => rd_Fail h1 211)
    have HRES : Hid (∀ W, RdAt W B g b (k + 1) (failE 0 211) → Wr g w W → NumR w B g b k (.returned (.int .u64 0)) W) := fun W h1 h2 => ⟨0, k + 1, 211, rfl, by omega, h1, h2, by rw [hU0], fun h => by omega⟩
    clear hU0 h
    generalize NumR w B g b k = R at *
    go_enter Try.func134, Try.ntmps134
    go_wp2_with fail
    refine (KN1.out).mono ?_
    rintro e w1 ⟨A1, c1, rfl, g1, g2, g3, -, -⟩
    have HR1 := Lib.hid g1
    have HW1 := Lib.hid g2
    have HL1 := Lib.hid g3
    clear g1 g2 g3
    go_wp2_with fail
    refine (KJ1.out _ _ _ HL1.out).mono ?_
    rintro e w2 ⟨rfl, rfl⟩
    go_wp2_with fail
    refine (KH.out _).mono ?_
    rintro e w3 ⟨rfl, rfl⟩
    go_wp2_with fail
    refine (KF.out _ HR1.out).mono ?_
    rintro e w4 ⟨rfl, g1, g2⟩
    have HR4 := Lib.hid g1
    have HW4 := Lib.hid g2
    clear g1 g2
    go_wp2
    first | exact HRES.out _ HR4.out (HW1.out.trans HW4.out) | (go_ret; exact HRES.out _ HR4.out (HW1.out.trans HW4.out))
  rw [if_neg c3] at hU0
  obtain ⟨m, hm⟩ : ∃ m : Nat, n = 239 + m := ⟨n - 239, by omega⟩
  have hm1 : 1 ≤ m := by omega
  have hm8 : m ≤ 8 := by omega
  rw [show n - 239 = m from by omega] at hU0
  have HMI : Hid ((m : Int) = (n : Int) - 239) := by (show _ = _; omega)
  have hm8g : ¬ (8 : Int) < (n : Int) - 239 := by omega
  clear hm
  have KLe := Lib.hid (fun W => bin_least m hm1 hm8 W)
  rw [HMI.out] at KLe
  have hle : 0 < leastN m ∧ leastN m < 18446744073709551616 := by
    unfold leastN
    split
    · omega
    · have : 256 ^ (m - 1) ≤ 256 ^ 7 := Nat.pow_le_pow_right (by omega) (by omega)
      have : 0 < 256 ^ (m - 1) := Nat.pow_pos (by omega)
      omega
  by_cases c4 : b.length - k - 1 < m
  · rw [if_pos c4] at hU0
    have KN2 := Lib.hid (fun W (h1 : RdAt W B g b (k + 1) 0) => rd_next_short h1 m (by omega) (by omega))
    rw [HMI.out] at KN2
    have KJ0 : Hid (∀ W, Calls Try.prog 169 #[.slice none 0 0] W fun e w' => e = .returned (.int .u64 0) ∧ W = w') := fun W => bin_joined' [] none 0 0 0 W rfl LiesY.nil byt.nil (by omega)
    have KF := Lib.hid (fun W (h1 : RdAt W B g b (k + 1) (failE 0 210)) => rd_Fail h1 211)
    have HRES : Hid (∀ W, RdAt W B g b (k + 1) (failE (failE 0 210) 211) → Wr g w W → NumR w B g b k (.returned (.int .u64 0)) W) := fun W h1 h2 => ⟨0, k + 1, 210, rfl, by omega, h1, h2, by rw [hU0], fun h => by omega⟩
    clear hU0 h
    generalize NumR w B g b k = R at *
    generalize failE (failE 0 210) 211 = e9 at *
    generalize failE 0 210 = e8 at *
    generalize leastN m = lm at *
    have hlg : (0 : Int) < (lm : Int) := by omega
    go_enter Try.func134, Try.ntmps134
    go_wp2_with fail
    refine (KN1.out).mono ?_
    rintro e w1 ⟨A1, c1, rfl, g1, g2, g3, -, -⟩
    have HR1 := Lib.hid g1
    have HW1 := Lib.hid g2
    have HL1 := Lib.hid g3
    clear g1 g2 g3
    go_wp2_with fail
    refine (KJ1.out _ _ _ HL1.out).mono ?_
    rintro e w2 ⟨rfl, rfl⟩
    go_wp2_with fail
    refine (KH.out _).mono ?_
    rintro e w3 ⟨rfl, rfl⟩
    go_wp2_with fail
    refine (KN2.out _ HR1.out).mono ?_
    rintro e w4 ⟨rfl, g1, g2⟩
    have HR4 := Lib.hid g1
    have HW4 := Lib.hid g2
    clear g1 g2
    go_wp2_with fail
    refine (KJ0.out _).mono ?_
    rintro e w5 ⟨rfl, rfl⟩
    go_wp2_with fail
    refine (KLe.out _).mono ?_
    rintro e w6 ⟨rfl, rfl⟩
    go_wp2_with fail
    refine (KF.out _ HR4.out).mono ?_
    rintro e w7 ⟨rfl, g1, g2⟩
    have HR7 := Lib.hid g1
    have HW7 := Lib.hid g2
    clear g1 g2
    go_wp2
    first | exact HRES.out _ HR7.out ((HW1.out.trans HW4.out).trans HW7.out) | (go_ret; exact HRES.out _ HR7.out ((HW1.out.trans HW4.out).trans HW7.out))
  rw [if_neg c4] at hU0
  have hTl : ((b.drop (k + 1)).take m).length = m := by rw [List.length_take, List.length_drop]; omega
  have hTy := (hby.drop (k + 1)).take m
  have KN2 := Lib.hid (fun W (h1 : RdAt W B g b (k + 1) 0) => rd_next_ok h1 m (by omega))
  rw [HMI.out] at KN2
  have KJ2 := Lib.hid (fun W A c (hL : LiesY W W.heap.size A ((b.drop (k + 1)).take m)) => bin_joined' _ A m c W.heap.size W hTl hL hTy hm8)
  have hJ : joinN ((b.drop (k + 1)).take m) < 18446744073709551616 := by
    have h1 := joinN_lt m _ hTl hTy
    have h2 : 256 ^ m ≤ 256 ^ 8 := Nat.pow_le_pow_right (by omega) hm8
    omega
  generalize (b.drop (k + 1)).take m = T at *
  generalize joinN T = J at *
  by_cases c5 : J < leastN m
  · rw [if_pos c5] at hU0
    have KF := Lib.hid (fun W (h1 : RdAt W B g b (k + 1 + m) 0) => rd_Fail h1 211)
    have HRES : Hid (∀ W, RdAt W B g b (k + 1 + m) (failE 0 211) → Wr g w W → NumR w B g b k (.returned (.int .u64 J)) W) := fun W h1 h2 => ⟨J, k + 1 + m, 211, rfl, hJ, h1, h2, by rw [hU0], fun h => by omega⟩
    clear hU0 h
    generalize NumR w B g b k = R at *
    generalize failE 0 211 = e8 at *
    generalize leastN m = lm at *
    have hlg : (J : Int) < (lm : Int) := by omega
    go_enter Try.func134, Try.ntmps134
    go_wp2_with fail
    refine (KN1.out).mono ?_
    rintro e w1 ⟨A1, c1, rfl, g1, g2, g3, -, -⟩
    have HR1 := Lib.hid g1
    have HW1 := Lib.hid g2
    have HL1 := Lib.hid g3
    clear g1 g2 g3
    go_wp2_with fail
    refine (KJ1.out _ _ _ HL1.out).mono ?_
    rintro e w2 ⟨rfl, rfl⟩
    go_wp2_with fail
    refine (KH.out _).mono ?_
    rintro e w3 ⟨rfl, rfl⟩
    go_wp2_with fail
    refine (KN2.out _ HR1.out).mono ?_
    rintro e w4 ⟨A4, c4, rfl, g1, g2, g3, -, -⟩
    have HR4 := Lib.hid g1
    have HW4 := Lib.hid g2
    have HL4 := Lib.hid g3
    clear g1 g2 g3
    go_wp2_with fail
    refine (KJ2.out _ _ _ HL4.out).mono ?_
    rintro e w5 ⟨rfl, rfl⟩
    go_wp2_with fail
    refine (KLe.out _).mono ?_
    rintro e w6 ⟨rfl, rfl⟩
    go_wp2_with fail
    refine (KF.out _ HR4.out).mono ?_
    rintro e w7 ⟨rfl, g1, g2⟩
    have HR7 := Lib.hid g1
    have HW7 := Lib.hid g2
    clear g1 g2
    go_wp2
    first | exact HRES.out _ HR7.out ((HW1.out.trans HW4.out).trans HW7.out) | (go_ret; exact HRES.out _ HR7.out ((HW1.out.trans HW4.out).trans HW7.out))
  · rw [if_neg c5] at hU0
    have HRES : Hid (∀ W, RdAt W B g b (k + 1 + m) 0 → Wr g w W → NumR w B g b k (.returned (.int .u64 J)) W) := fun W h1 h2 => ⟨J, k + 1 + m, 0, rfl, hJ, h1, h2, by rw [hU0], fun h => by rw [hU0]; exact ⟨rfl, rfl⟩⟩
    clear hU0 h
    generalize NumR w B g b k = R at *
    generalize leastN m = lm at *
    have hlg : ¬ (J : Int) < (lm : Int) := by omega
    go_enter Try.func134, Try.ntmps134
    go_wp2_with fail
    refine (KN1.out).mono ?_
    rintro e w1 ⟨A1, c1, rfl, g1, g2, g3, -, -⟩
    have HR1 := Lib.hid g1
    have HW1 := Lib.hid g2
    have HL1 := Lib.hid g3
    clear g1 g2 g3
    go_wp2_with fail
    refine (KJ1.out _ _ _ HL1.out).mono ?_
    rintro e w2 ⟨rfl, rfl⟩
    go_wp2_with fail
    refine (KH.out _).mono ?_
    rintro e w3 ⟨rfl, rfl⟩
    go_wp2_with fail
    refine (KN2.out _ HR1.out).mono ?_
    rintro e w4 ⟨A4, c4, rfl, g1, g2, g3, -, -⟩
    have HR4 := Lib.hid g1
    have HW4 := Lib.hid g2
    have HL4 := Lib.hid g3
    clear g1 g2 g3
    go_wp2_with fail
    refine (KJ2.out _ _ _ HL4.out).mono ?_
    rintro e w5 ⟨rfl, rfl⟩
    go_wp2_with fail
    refine (KLe.out _).mono ?_
    rintro e w6 ⟨rfl, rfl⟩
    go_wp2
    first | exact HRES.out _ HR4.out (HW1.out.trans HW4.out) | (go_ret; exact HRES.out _ HR4.out (HW1.out.trans HW4.out))
theorem bin_unfolded (n : Nat) (hn : n < 18446744073709551616) (w : World) : Calls Try.prog 135 #[.int .u64 n] w fun e w' => e = .returned (.int .i64 (unfoldI n)) ∧ w = w' := by
  have hh : wrap64 ((n : Int) / 2) = (n : Int) / 2 := by unfold wrap64; omega
  by_cases h : n % 2 = 1
  · have hg : (0 : Int) < (n : Int) % 2 := by omega
    have hf : unfoldI n = -((n : Int) / 2) - 1 := by unfold unfoldI; rw [if_pos h]; omega
    rw [hf]
    go_enter Try.func135, Try.ntmps135
    go_wp2
    go_ret
    refine ⟨ret1i ?_, rfl⟩
    first | rfl | omega | (unfold wrap64 at *; omega)
  · have hg : ¬ (0 : Int) < (n : Int) % 2 := by omega
    have hf : unfoldI n = (n : Int) / 2 := by unfold unfoldI; rw [if_neg h]; omega
    rw [hf]
    go_enter Try.func135, Try.ntmps135
    go_wp2
    go_ret
    refine ⟨ret1i ?_, rfl⟩
    first | rfl | omega | (unfold wrap64 at *; omega)
end Go.Proofs.Ytkfmebdpfjjkjaa
