/- Contracts of package score: Sort, Oddest; the reference's Oddest, Same. -/
import Derived.Test.YtiepfkhbebdkeaaDoorScoQ
import Derived.BigQuiet
import Derived.Deep.QuietTactic
namespace Go.Proofs.YtiepfkhbebdkeaaDoor
open Go.RowKit
set_option linter.unusedVariables false
set_option linter.unusedSimpArgs false
set_option maxRecDepth 100000

theorem chkE_ok {l : List PQ} (h : allS l = true) : chkE l = 0 := by unfold chkE; rw [if_pos h]
theorem chkE_no {l : List PQ} (h : allS l = false) : chkE l = 130 := by unfold chkE; rw [h]; rfl
/-- what Sort gives -/
def SortT (l : List PQ) (w : World) (e : Ending) (w' : World) : Prop := ∃ s A c, e = .returned (.tuple #[.slice A l.length c, .int .i64 0]) ∧ LiesS w' w'.heap.size A s ∧ Below w.heap.size w w' ∧ IsSort l s
theorem sco_sort_ok (A : Option Addr) (l : List PQ) (N c : Nat) (w : World) (hN : l.length = N) (hn : N ≤ 100000) (hc : N ≤ c) (hz : A = none → c = 0) (hL : LiesS w w.heap.size A l) (hI : okS l) (hok : allS l = true) :
    Calls Tryd.prog 18 #[.slice A N c] w (SortT l w) := by
  have KC := Lib.hid (sco_check A l c w hL hI (by omega))
  rw [chkE_ok hok, hN] at KC
  have KS : Hid (∀ W, Below w.heap.size w W → Calls Tryd.prog 33 #[.slice A N c, ordV] W (SortS l W)) := fun W hb =>
    sco_sorted N A l N c W (Nat.le_refl _) hN hn hc hz ((hL.below hb).mono hb.size) hI (all_okP hok)
  have HN := Lib.hid hN
  clear hL hI hok hz hN
  go_enter Tryd.func18, Tryd.ntmps18
  go_wp2_with fail
  refine KC.out.mono ?_
  rintro e w1 ⟨rfl, b⟩
  have HB := Lib.hid b
  clear b
  go_wp2_with fail
  refine (KS.out _ HB.out).mono ?_
  rintro e w2 ⟨s, A2, c2, rfl, hc2, hL2, hb2, hs⟩
  have HL2 := Lib.hid hL2
  have HB2 := Lib.hid (HB.out.trans (hb2.mono HB.out.size))
  have HS := Lib.hid hs
  clear hc2 hL2 hb2 hs
  go_wp2
  go_ret2
  exact ⟨s, A2, c2, rfl, HL2.out, HB2.out, HS.out⟩
theorem sco_sort_no (A : Option Addr) (l : List PQ) (N c : Nat) (w : World) (hN : l.length = N) (hn : N ≤ 100000) (hL : LiesS w w.heap.size A l) (hI : okS l) (hok : allS l = false) :
    Calls Tryd.prog 18 #[.slice A N c] w fun e w' => e = .returned (.tuple #[.slice none 0 0, .int .i64 130]) ∧ Below w.heap.size w w' := by
  have KC := Lib.hid (sco_check A l c w hL hI (by omega))
  rw [chkE_no hok, hN] at KC
  clear hL hI hok hN
  go_enter Tryd.func18, Tryd.ntmps18
  go_wp2_with fail
  refine KC.out.mono ?_
  rintro e w1 ⟨rfl, b⟩
  have HB := Lib.hid b
  clear b
  go_wp2
  go_ret2
  exact ⟨rfl, HB.out⟩
/-- the place of the oddest one of the first k -/
def odAt (l : List PQ) : Nat → Nat
  | 0 => 0
  | k + 1 => if 0 < oddC (l.getD k pq0).1 (l.getD k pq0).2 (l.getD (odAt l k) pq0).1 (l.getD (odAt l k) pq0).2 then k else odAt l k
theorem odAt_lt (l : List PQ) : ∀ k, 0 < k → odAt l k < k := by
  intro k
  induction k with
  | zero => intro h; omega
  | succ k ih =>
    intro _
    unfold odAt
    split
    · omega
    · rcases Nat.eq_zero_or_pos k with rfl | h
      · exact Nat.lt_succ_self _
      · have := ih h; omega
theorem odAt_le (l : List PQ) (k : Nat) (h : 0 < l.length) (hk : k ≤ l.length) : odAt l k < l.length := by
  rcases Nat.eq_zero_or_pos k with rfl | h1
  · exact h
  · have := odAt_lt l k h1; omega
def odE (l : List PQ) : Int := if l.length = 0 then 4 else if allS l = true then 0 else 130
def odN (l : List PQ) : Int := if l.length = 0 then 0 else if allS l = true then odAt l l.length else 0
abbrev odV (l : List PQ) : Value := .tuple #[.int .i64 (odN l), .int .i64 (odE l)]
theorem odV_none {l : List PQ} (h : l.length = 0) : Ending.returned (.tuple #[.int .i64 0, .int .i64 4]) = .returned (odV l) := by
  unfold odV odN odE; rw [if_pos h, if_pos h]
theorem odV_no {l : List PQ} (h : ¬ l.length = 0) (g : allS l = false) : Ending.returned (.tuple #[.int .i64 0, .int .i64 130]) = .returned (odV l) := by
  unfold odV odN odE; rw [if_neg h, if_neg h, g]; rfl
theorem odV_ok {l : List PQ} (h : ¬ l.length = 0) (g : allS l = true) : Ending.returned (.tuple #[.int .i64 (odAt l l.length), .int .i64 0]) = .returned (odV l) := by
  unfold odV odN odE; rw [if_neg h, if_neg h, if_pos g, if_pos g]
set_option maxHeartbeats 1000000 in
theorem ref13_oddest (A : Option Addr) (l : List PQ) (N c : Nat) (w : World) (hN : l.length = N) (hn : N ≤ 100000) (hA : LiesS w w.heap.size A l) (hI : okS l) :
    Calls Tryd.prog 21 #[.slice A N c] w fun e w' => e = .returned (odV l) ∧ Below w.heap.size w w' := by
  have KC := Lib.hid (ref13_all A l c w hA hI (by omega))
  rw [hN] at KC
  rcases Nat.eq_zero_or_pos N with h0 | h0
  · subst h0
    have HR := Lib.hid (odV_none hN)
    have hall : allS l = true := by rw [List.eq_nil_of_length_eq_zero hN]; rfl
    rw [hall] at KC
    generalize odV l = V at *
    clear hA hI hN hall
    go_enter Tryd.func21, Tryd.ntmps21
    go_wp2_with fail
    refine KC.out.mono ?_
    rintro e w1 ⟨rfl, b⟩
    have HB := Lib.hid b
    clear b
    go_wp2
    go_ret2
    exact ⟨HR.out, HB.out⟩
  have h0' : ¬ l.length = 0 := by omega
  have hn0 : ¬ (N : Int) = 0 := by omega
  have hn1 : ((N : Int) == 0) = false := by simpa using hn0
  have hn2 : decide (N = 0) = false := decide_eq_false (by omega)
  have hn3 : (N == 0) = false := by simp; omega
  have hn4 : ¬ N = 0 := by omega
  cases hall : allS l with
  | false =>
    have HR := Lib.hid (odV_no h0' hall)
    rw [hall] at KC
    generalize odV l = V at *
    clear hA hI hN hall
    go_enter Tryd.func21, Tryd.ntmps21
    go_wp2_with fail
    refine KC.out.mono ?_
    rintro e w1 ⟨rfl, b⟩
    have HB := Lib.hid b
    clear b
    go_wp2
    go_ret2
    exact ⟨HR.out, HB.out⟩
  | true =>
    have HR := Lib.hid (odV_ok h0' hall)
    rw [hN] at HR
    rw [hall] at KC
    have HA := Lib.hid hA
    have HN := Lib.hid hN
    have HI := Lib.hid (fun k (hk : k < N) => hI.at (hN ▸ hk))
    have HOK := Lib.hid (fun k (hk : k < N) => all_okP hall (l.getD k pq0) (by rw [List.getD_eq_getElem?_getD, List.getElem?_eq_getElem (hN ▸ hk)]; exact List.getElem_mem _))
    have HOL := Lib.hid (fun k (hk : k ≤ N) => odAt_le l k (by omega) (by omega))
    have HOD : Hid (∀ k, odAt l (k + 1) = if 0 < oddC (l.getD k pq0).1 (l.getD k pq0).2 (l.getD (odAt l k) pq0).1 (l.getD (odAt l k) pq0).2 then k else odAt l k) := fun k => rfl
    have H0 : Hid (odAt l 0 = 0) := rfl
    rw [hN] at HOL
    generalize odV l = V at *
    clear hA hI hN hall
    go_enter Tryd.func21, Tryd.ntmps21
    go_wp2_with fail
    refine KC.out.mono ?_
    rintro e w1 ⟨rfl, b⟩
    have HB := Lib.hid b
    clear b
    go_wp2
    go_loopw [4, 5] (fun av iv wr => ∃ k a : Nat, k ≤ N ∧ av = .int .i64 a ∧ iv = .int .i64 k ∧ Hid (a = odAt l k) ∧ Hid (Below w.heap.size w wr)) (fun _ iv _ => N - (intOf iv).toNat)
    case atStart => exact ⟨0, 0, by omega, rfl, rfl, H0, HB⟩
    case round =>
      obtain ⟨k, a, hk, rfl, rfl, HAt, HW⟩ := hrel
      by_cases hlt : k < N
      · have hal : a < N := by have := HOL.out k hk; rw [← HAt.out] at this; exact this
        have HAr : Hid (LiesS wr w.heap.size A l) := HA.out.below HW.out
        obtain ⟨ad, rfl, hbk, c0, c1⟩ := HAr.out.at (k := k) (by have := HN.out; omega)
        obtain ⟨ad2, e, _, d0, d1⟩ := HAr.out.at (k := a) (by have := HN.out; omega)
        obtain rfl := Option.some.inj e
        obtain ⟨i1, i2⟩ := HI.out k hlt
        obtain ⟨i3, i4⟩ := HI.out a hal
        have o1 := HOK.out k hlt
        have o2 := HOK.out a hal
        have HS := HOD.out k
        rw [← HAt.out] at HS
        have HS := Lib.hid HS
        unfold okP at o1 o2
        clear e
        generalize (l.getD k pq0).1 = p at *
        generalize (l.getD k pq0).2 = q at *
        generalize (l.getD a pq0).1 = r at *
        generalize (l.getD a pq0).2 = s at *
        have KO := Lib.hid (fun W => ref13_odder p q r s o1 o2 W)
        clear o1 o2 i1 i2 i3 i4
        generalize oddC p q r s = R at *
        have g1 : (0 : Int) ≤ (k : Int) := by omega
        have g2 : (k : Int) < (N : Int) := by omega
        have g3 : (0 : Int) ≤ (a : Int) := by omega
        have g4 : (a : Int) < (N : Int) := by omega
        have hsz := HW.out.size
        have hbw : ad.block < wr.heap.size := by omega
        by_cases hR : 0 < R
        · have HS := Lib.hid (HS.out.trans (if_pos hR))
          go_wp2
          go_region_held3 (fun wq => wq.cell? (ad.add (k * 2)) = some (.int .i64 p) ∧ wq.cell? ⟨(ad.add (k * 2)).block, (ad.add (k * 2)).off + 1, none⟩ = some (.int .i64 q) ∧ wq.cell? (ad.add (a * 2)) = some (.int .i64 r) ∧ wq.cell? ⟨(ad.add (a * 2)).block, (ad.add (a * 2)).off + 1, none⟩ = some (.int .i64 s)) (go_keep)
            (first | (go_at_call 15; ((with_reducible refine (KO.out _).mono ?_); rintro e w2 ⟨rfl, b2⟩; have q0 : w2.cell? (ad.add (k * 2)) = some (.int .i64 p) := (b2.cell (by rw [add_block]; exact hbw)).trans c0; have q1 : w2.cell? ⟨(ad.add (k * 2)).block, (ad.add (k * 2)).off + 1, none⟩ = some (.int .i64 q) := (b2.cell (by show (ad.add _).block < _; rw [add_block]; exact hbw)).trans c1; have q2 : w2.cell? (ad.add (a * 2)) = some (.int .i64 r) := (b2.cell (by rw [add_block]; exact hbw)).trans d0; have q3 : w2.cell? ⟨(ad.add (a * 2)).block, (ad.add (a * 2)).off + 1, none⟩ = some (.int .i64 s) := (b2.cell (by show (ad.add _).block < _; rw [add_block]; exact hbw)).trans d1; have HW2 := Lib.hid (show Below w.heap.size w w2 from HW.out.drew.trans (b2.mono hsz)); clear b2)))
          go_wp2
          go_roundw
          case rel => exact ⟨k + 1, k, by omega, rfl, by go_num, HS.out.symm, HW2⟩
          case measure => simp [intOf]; omega
        · have HS := Lib.hid (HS.out.trans (if_neg hR))
          go_wp2
          go_region_held3 (fun wq => wq.cell? (ad.add (k * 2)) = some (.int .i64 p) ∧ wq.cell? ⟨(ad.add (k * 2)).block, (ad.add (k * 2)).off + 1, none⟩ = some (.int .i64 q) ∧ wq.cell? (ad.add (a * 2)) = some (.int .i64 r) ∧ wq.cell? ⟨(ad.add (a * 2)).block, (ad.add (a * 2)).off + 1, none⟩ = some (.int .i64 s)) (go_keep)
            (first | (go_at_call 15; ((with_reducible refine (KO.out _).mono ?_); rintro e w2 ⟨rfl, b2⟩; have q0 : w2.cell? (ad.add (k * 2)) = some (.int .i64 p) := (b2.cell (by rw [add_block]; exact hbw)).trans c0; have q1 : w2.cell? ⟨(ad.add (k * 2)).block, (ad.add (k * 2)).off + 1, none⟩ = some (.int .i64 q) := (b2.cell (by show (ad.add _).block < _; rw [add_block]; exact hbw)).trans c1; have q2 : w2.cell? (ad.add (a * 2)) = some (.int .i64 r) := (b2.cell (by rw [add_block]; exact hbw)).trans d0; have q3 : w2.cell? ⟨(ad.add (a * 2)).block, (ad.add (a * 2)).off + 1, none⟩ = some (.int .i64 s) := (b2.cell (by show (ad.add _).block < _; rw [add_block]; exact hbw)).trans d1; have HW2 := Lib.hid (show Below w.heap.size w w2 from HW.out.drew.trans (b2.mono hsz)); clear b2)))
          go_wp2
          go_roundw
          case rel => exact ⟨k + 1, a, by omega, rfl, by go_num, HS.out.symm, HW2⟩
          case measure => simp [intOf]; omega
      · obtain rfl : k = N := by omega
        have HX : Hid (Ending.returned (.tuple #[.int .i64 a, .int .i64 0]) = .returned V) := by have := HR.out; rw [← HAt.out] at this; exact this
        go_wp2
        go_ret2
        exact ⟨HX.out, HW.out⟩
set_option maxHeartbeats 1000000 in
theorem sco_oddest (A : Option Addr) (l : List PQ) (N c : Nat) (w : World) (hN : l.length = N) (hn : N ≤ 100000) (hA : LiesS w w.heap.size A l) (hI : okS l) :
    Calls Tryd.prog 20 #[.slice A N c] w fun e w' => e = .returned (odV l) ∧ Below w.heap.size w w' := by
  have KC := Lib.hid (sco_check A l c w hA hI (by omega))
  rw [hN] at KC
  rcases Nat.eq_zero_or_pos N with h0 | h0
  · subst h0
    have HR := Lib.hid (odV_none hN)
    have hall : allS l = true := by rw [List.eq_nil_of_length_eq_zero hN]; rfl
    skip
    generalize odV l = V at *
    clear hA hI hN hall KC
    go_enter Tryd.func20, Tryd.ntmps20
    go_wp2
    go_ret2
    exact ⟨HR.out, Below.refl _ _⟩
  have h0' : ¬ l.length = 0 := by omega
  have hn0 : ¬ (N : Int) = 0 := by omega
  have hn1 : ((N : Int) == 0) = false := by simpa using hn0
  have hn2 : decide (N = 0) = false := decide_eq_false (by omega)
  have hn3 : (N == 0) = false := by simp; omega
  have hn4 : ¬ N = 0 := by omega
  cases hall : allS l with
  | false =>
    have HR := Lib.hid (odV_no h0' hall)
    rw [chkE_no hall] at KC
    generalize odV l = V at *
    clear hA hI hN hall
    go_enter Tryd.func20, Tryd.ntmps20
    go_wp2_with fail
    refine KC.out.mono ?_
    rintro e w1 ⟨rfl, b⟩
    have HB := Lib.hid b
    clear b
    go_wp2
    go_ret2
    exact ⟨HR.out, HB.out⟩
  | true =>
    have HR := Lib.hid (odV_ok h0' hall)
    rw [hN] at HR
    rw [chkE_ok hall] at KC
    have HA := Lib.hid hA
    have HN := Lib.hid hN
    have HI := Lib.hid (fun k (hk : k < N) => hI.at (hN ▸ hk))
    have HOK := Lib.hid (fun k (hk : k < N) => all_okP hall (l.getD k pq0) (by rw [List.getD_eq_getElem?_getD, List.getElem?_eq_getElem (hN ▸ hk)]; exact List.getElem_mem _))
    have HOL := Lib.hid (fun k (hk : k ≤ N) => odAt_le l k (by omega) (by omega))
    have HOD : Hid (∀ k, odAt l (k + 1) = if 0 < oddC (l.getD k pq0).1 (l.getD k pq0).2 (l.getD (odAt l k) pq0).1 (l.getD (odAt l k) pq0).2 then k else odAt l k) := fun k => rfl
    have H0 : Hid (odAt l 0 = 0) := rfl
    rw [hN] at HOL
    generalize odV l = V at *
    clear hA hI hN hall
    go_enter Tryd.func20, Tryd.ntmps20
    go_wp2_with fail
    refine KC.out.mono ?_
    rintro e w1 ⟨rfl, b⟩
    have HB := Lib.hid b
    clear b
    go_wp2
    go_loopw [5, 18] (fun av iv wr => ∃ k a : Nat, k ≤ N ∧ av = .int .i64 a ∧ iv = .int .i64 k ∧ Hid (a = odAt l k) ∧ Hid (Below w.heap.size w wr)) (fun _ iv _ => N - (intOf iv).toNat)
    case atStart => exact ⟨0, 0, by omega, rfl, rfl, H0, HB⟩
    case round =>
      obtain ⟨k, a, hk, rfl, rfl, HAt, HW⟩ := hrel
      by_cases hlt : k < N
      · have hal : a < N := by have := HOL.out k hk; rw [← HAt.out] at this; exact this
        have HAr : Hid (LiesS wr w.heap.size A l) := HA.out.below HW.out
        obtain ⟨ad, rfl, hbk, c0, c1⟩ := HAr.out.at (k := k) (by have := HN.out; omega)
        obtain ⟨ad2, e, _, d0, d1⟩ := HAr.out.at (k := a) (by have := HN.out; omega)
        obtain rfl := Option.some.inj e
        obtain ⟨i1, i2⟩ := HI.out k hlt
        obtain ⟨i3, i4⟩ := HI.out a hal
        have o1 := HOK.out k hlt
        have o2 := HOK.out a hal
        have HS := HOD.out k
        rw [← HAt.out] at HS
        have HS := Lib.hid HS
        unfold okP at o1 o2
        clear e
        generalize (l.getD k pq0).1 = p at *
        generalize (l.getD k pq0).2 = q at *
        generalize (l.getD a pq0).1 = r at *
        generalize (l.getD a pq0).2 = s at *
        have KO := Lib.hid (fun W => sco_order p q r s i1 i2 i3 i4 W)
        clear o1 o2 i1 i2 i3 i4
        generalize oddC p q r s = R at *
        have g1 : (0 : Int) ≤ (k : Int) := by omega
        have g2 : (k : Int) < (N : Int) := by omega
        have g3 : (0 : Int) ≤ (a : Int) := by omega
        have g4 : (a : Int) < (N : Int) := by omega
        have hsz := HW.out.size
        have hbw : ad.block < wr.heap.size := by omega
        have J := Lib.hid ((Keeps.start wr).alloc #[.int .i64 p, .int .i64 q] 23)
        have hlz : wr.heap.size < (wr.alloc (.cells #[.int .i64 p, .int .i64 q] 23)).heap.size := by rw [alloc_size']; exact Nat.lt_succ_self _
        have f0 : (wr.alloc (.cells #[.int .i64 p, .int .i64 q] 23)).cell? (ad.add (a * 2)) = some (.int .i64 r) := (J.out.2.1.cell (by rw [add_block]; exact hbw)).trans d0
        have f1 : (wr.alloc (.cells #[.int .i64 p, .int .i64 q] 23)).cell? ⟨(ad.add (a * 2)).block, (ad.add (a * 2)).off + 1, none⟩ = some (.int .i64 s) := (J.out.2.1.cell (by show (ad.add _).block < _; rw [add_block]; exact hbw)).trans d1
        by_cases hR : 0 < R
        · have HS := Lib.hid (HS.out.trans (if_pos hR))
          obtain ⟨e0, e1, _, _⟩ := J.out.head.two
          go_wp2
          go_region_held3 (fun wq => wq.cell? ⟨wr.heap.size, 0, none⟩ = some (.int .i64 p) ∧ wq.cell? ⟨wr.heap.size, 1, none⟩ = some (.int .i64 q) ∧ wq.cell? (ad.add (a * 2)) = some (.int .i64 r) ∧ wq.cell? ⟨(ad.add (a * 2)).block, (ad.add (a * 2)).off + 1, none⟩ = some (.int .i64 s)) (go_keep)
            (first | (go_at_call 30; ((with_reducible refine (KO.out _).mono ?_); rintro e w2 ⟨rfl, b2⟩; have hl2 : wr.heap.size < w2.heap.size := Nat.lt_of_lt_of_le hlz b2.size; have q0 : w2.cell? ⟨wr.heap.size, 0, none⟩ = some (.int .i64 p) := (b2.cell hlz).trans e0; have q1 : w2.cell? ⟨wr.heap.size, 1, none⟩ = some (.int .i64 q) := (b2.cell hlz).trans e1; have q2 : w2.cell? (ad.add (a * 2)) = some (.int .i64 r) := (b2.cell (by rw [add_block]; exact Nat.lt_trans hbw hlz)).trans f0; have q3 : w2.cell? ⟨(ad.add (a * 2)).block, (ad.add (a * 2)).off + 1, none⟩ = some (.int .i64 s) := (b2.cell (by show (ad.add _).block < _; rw [add_block]; exact Nat.lt_trans hbw hlz)).trans f1; have HW2 := Lib.hid (show Below w.heap.size w w2 from (HW.out.trans (J.out.2.1.mono hsz)).drew.trans (b2.mono (Nat.le_trans hsz (Nat.le_of_lt hlz)))); clear b2 hl2)))
          go_wp2
          go_roundw
          case rel => exact ⟨k + 1, k, by omega, rfl, by go_num, HS.out.symm, HW2⟩
          case measure => simp [intOf]; omega
        · have HS := Lib.hid (HS.out.trans (if_neg hR))
          obtain ⟨e0, e1, _, _⟩ := J.out.head.two
          go_wp2
          go_region_held3 (fun wq => wq.cell? ⟨wr.heap.size, 0, none⟩ = some (.int .i64 p) ∧ wq.cell? ⟨wr.heap.size, 1, none⟩ = some (.int .i64 q) ∧ wq.cell? (ad.add (a * 2)) = some (.int .i64 r) ∧ wq.cell? ⟨(ad.add (a * 2)).block, (ad.add (a * 2)).off + 1, none⟩ = some (.int .i64 s)) (go_keep)
            (first | (go_at_call 30; ((with_reducible refine (KO.out _).mono ?_); rintro e w2 ⟨rfl, b2⟩; have hl2 : wr.heap.size < w2.heap.size := Nat.lt_of_lt_of_le hlz b2.size; have q0 : w2.cell? ⟨wr.heap.size, 0, none⟩ = some (.int .i64 p) := (b2.cell hlz).trans e0; have q1 : w2.cell? ⟨wr.heap.size, 1, none⟩ = some (.int .i64 q) := (b2.cell hlz).trans e1; have q2 : w2.cell? (ad.add (a * 2)) = some (.int .i64 r) := (b2.cell (by rw [add_block]; exact Nat.lt_trans hbw hlz)).trans f0; have q3 : w2.cell? ⟨(ad.add (a * 2)).block, (ad.add (a * 2)).off + 1, none⟩ = some (.int .i64 s) := (b2.cell (by show (ad.add _).block < _; rw [add_block]; exact Nat.lt_trans hbw hlz)).trans f1; have HW2 := Lib.hid (show Below w.heap.size w w2 from (HW.out.trans (J.out.2.1.mono hsz)).drew.trans (b2.mono (Nat.le_trans hsz (Nat.le_of_lt hlz)))); clear b2 hl2)))
          go_wp2
          go_roundw
          case rel => exact ⟨k + 1, a, by omega, rfl, by go_num, HS.out.symm, HW2⟩
          case measure => simp [intOf]; omega
      · obtain rfl : k = N := by omega
        have HX : Hid (Ending.returned (.tuple #[.int .i64 a, .int .i64 0]) = .returned V) := by have := HR.out; rw [← HAt.out] at this; exact this
        go_wp2
        go_ret2
        exact ⟨HX.out, HW.out⟩
end Go.Proofs.YtiepfkhbebdkeaaDoor
