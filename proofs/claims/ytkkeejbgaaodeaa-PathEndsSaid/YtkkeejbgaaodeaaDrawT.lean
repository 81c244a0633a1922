/- DrawA DrawB DrawC DrawD DrawE DrawF -/
import Derived.Test.YtkkeejbgaaodeaaBase
import Derived.ProofKit
import Derived.OpenShut
import Derived.WalkMore
import Derived.Deep.Upon
/-! Package draw and the reference of layer 6: rows of words in memory, the contracts of Next, Left, Top, Share, may, and of the reference's Rest and Top. -/
namespace Go.Proofs.Ytkkeejbgaaodeaa
open Go.RowKit
set_option linter.unusedVariables false
set_option linter.unusedSimpArgs false

/-- the words of l lie from A on, in a block below B -/
def LiesU (w : World) (B : Nat) (A : Option Addr) (l : List Int) : Prop :=
  0 < l.length → ∃ ad : Addr, A = some ad ∧ ad.block < B ∧ ∀ j, j < l.length → w.cell? (ad.add j) = some (.int .u64 (l.getD j 0))
theorem LiesU.below {w w' : World} {B : Nat} {A : Option Addr} {l : List Int} (h : LiesU w B A l) (hb : Below B w w') : LiesU w' B A l := fun h0 => by
  obtain ⟨ad, e, hB, hc⟩ := h h0
  exact ⟨ad, e, hB, fun j hj => (hb.cell (by rw [add_block]; exact hB)).trans (hc j hj)⟩
theorem LiesU.mono {w : World} {B B' : Nat} {A : Option Addr} {l : List Int} (h : LiesU w B A l) (hB : B ≤ B') : LiesU w B' A l := fun h0 => by
  obtain ⟨ad, e, hb, hc⟩ := h h0
  exact ⟨ad, e, by omega, hc⟩
theorem LiesU.nil {w : World} {B : Nat} {A : Option Addr} : LiesU w B A [] := fun h => absurd h (by simp)
theorem LiesU.at {w : World} {B : Nat} {A : Option Addr} {l : List Int} (h : LiesU w B A l) {k : Nat} (hk : k < l.length) :
    ∃ ad : Addr, A = some ad ∧ ad.block < B ∧ w.cell? (ad.add k) = some (.int .u64 (l.getD k 0)) := by
  obtain ⟨ad, e, hb, hc⟩ := h (by omega)
  exact ⟨ad, e, hb, hc k hk⟩
theorem getD_u64 {l : List Int} (h : ∀ x ∈ l, U64 x) (k : Nat) : U64 (l.getD k 0) := by
  by_cases hk : k < l.length
  · rw [List.getD_eq_getElem?_getD, List.getElem?_eq_getElem hk]; exact h _ (List.getElem_mem _)
  · rw [List.getD_eq_getElem?_getD, List.getElem?_eq_none (by omega)]; unfold U64; simp

/-- the greatest draw that counts for n -/
def topN (n : Int) : Int := if n = 0 then 0 else 18446744073709551615 - 18446744073709551616 % n
def shareN (n : Int) : Int := if n < 2 then 0 else 18446744073709551616 / n
theorem top_u64 {n : Int} (h : U64 n) : U64 (topN n) := by
  obtain ⟨a, b⟩ := h
  unfold topN U64; split
  · omega
  · have := Int.emod_lt_of_pos 18446744073709551616 (show 0 < n by omega)
    have := Int.emod_nonneg 18446744073709551616 (show n ≠ 0 by omega)
    omega
theorem turn_mod {n : Int} (h : 0 < n) : (18446744073709551616 - n) % n = 18446744073709551616 % n := by
  rw [Int.sub_emod, Int.emod_self, Int.sub_zero, Int.emod_emod_of_dvd _ (Int.dvd_refl n)]
theorem turn_div {n : Int} (h : 0 < n) : (18446744073709551616 - n) / n + 1 = 18446744073709551616 / n := by
  have := Int.sub_ediv_of_dvd 18446744073709551616 (Int.dvd_refl n)
  rw [this, Int.ediv_self (by omega)]; omega

theorem draw_may (a t : Int) (w : World) : Calls Try.prog 122 #[.int .i64 a, .int .i64 t] w fun e w' => e = .returned (.bool (decide (0 ≤ a ∧ 1 ≤ t ∧ t ≤ 64))) ∧ w = w' := by
  go_enter Try.func122, Try.ntmps122
  go_wp2
  all_goals
    go_ret
    refine ⟨?_, rfl⟩
    refine congrArg (fun b => Ending.returned (.bool b)) (?_ : (_ : Bool) = _)
    rw [Bool.eq_iff_iff]
    simp
    try omega

theorem draw_over (n : Int) (h : U64 n) (h0 : 0 < n) (w : World) : Calls Try.prog 133 #[.int .u64 n] w fun e w' => e = .returned (.int .u64 (18446744073709551616 % n)) ∧ w = w' := by
  obtain ⟨ha, hb⟩ := h
  have hm := Lib.hid (turn_mod h0)
  have hn : (-n) % 18446744073709551616 = 18446744073709551616 - n := by omega
  go_enter Try.func133, Try.ntmps133
  go_wp2
  go_ret
  refine ⟨ret1i ?_, rfl⟩
  rw [u64w, hn, ← hm.out]
  exact Int.tmod_eq_emod_of_nonneg (by omega)

theorem draw_top (n : Int) (h : U64 n) (w : World) : Calls Try.prog 125 #[.int .u64 n] w fun e w' => e = .returned (.int .u64 (topN n)) ∧ w = w' := by
  have hu := top_u64 h
  by_cases h0 : n = 0
  · subst h0
    go_enter Try.func125, Try.ntmps125
    go_wp2
    go_ret
    exact ⟨rfl, rfl⟩
  · have h1 : 0 < n := by unfold U64 at h; omega
    have hT := Lib.hid (show 18446744073709551615 - 18446744073709551616 % n = topN n from by unfold topN; rw [if_neg h0])
    generalize topN n = T at *
    go_enter Try.func125, Try.ntmps125
    go_wp2_with fail
    refine (draw_over n h h1 _).mono ?_
    rintro e w1 ⟨rfl, rfl⟩
    go_wp2
    go_ret
    exact ⟨ret1i (by have := hT.out; unfold U64 at hu; simp only [u64w]; omega), rfl⟩

theorem ref_rest (n : Int) (h : U64 n) (w : World) : Calls Try.prog 134 #[.int .u64 n] w fun e w' => e = .returned (.int .u64 (if n = 0 then 0 else 18446744073709551616 % n)) ∧ w = w' := by
  obtain ⟨ha, hb⟩ := h
  by_cases h0 : n = 0
  · subst h0
    go_enter Try.func134, Try.ntmps134
    go_wp2
    go_ret
    exact ⟨rfl, rfl⟩
  · rw [if_neg h0]
    have h1 : 0 < n := by omega
    have hm := Int.emod_lt_of_pos 18446744073709551615 h1
    have hm0 := Int.emod_nonneg 18446744073709551615 (show n ≠ 0 by omega)
    have hd : Hid (18446744073709551616 % n = if 18446744073709551615 % n + 1 = n then 0 else 18446744073709551615 % n + 1) := by
      show _ = _
      have e1 : (18446744073709551616 : Int) = 18446744073709551615 + 1 := by omega
      rw [e1, Int.add_emod]
      split
      · rename_i h; 
        by_cases n1 : n = 1
        · subst n1; omega
        · rw [Int.emod_eq_of_lt (a := 1) (by omega) (by omega), h, Int.emod_self]
      · rename_i h
        have n1 : n ≠ 1 := by intro hh; subst hh; omega
        rw [Int.emod_eq_of_lt (a := 1) (by omega) (by omega), Int.emod_eq_of_lt (by omega) (by omega)]
    generalize 18446744073709551616 % n = R at *
    go_enter Try.func134, Try.ntmps134
    go_wp2
    all_goals
      go_ret
      refine ⟨ret1i ?_, rfl⟩
      rw [hd.out]
      rename_i hh
      first | (rw [if_pos (by simpa using hh)]) | (rw [if_neg (by simpa using hh)])
theorem ref_top6 (n : Int) (h : U64 n) (w : World) : Calls Try.prog 129 #[.int .u64 n] w fun e w' => e = .returned (.int .u64 (topN n)) ∧ w = w' := by
  have hu := top_u64 h
  by_cases h0 : n = 0
  · subst h0
    go_enter Try.func129, Try.ntmps129
    go_wp2
    go_ret
    exact ⟨rfl, rfl⟩
  · have h1 : 0 < n := by unfold U64 at h; omega
    have hT := Lib.hid (show 18446744073709551615 - 18446744073709551616 % n = topN n from by unfold topN; rw [if_neg h0])
    have K := Lib.hid (ref_rest n h)
    rw [if_neg h0] at K
    generalize topN n = T at *
    go_enter Try.func129, Try.ntmps129
    go_wp2_with fail
    refine (K.out _).mono ?_
    rintro e w1 ⟨rfl, rfl⟩
    go_wp2
    go_ret
    exact ⟨ret1i (by have := hT.out; unfold U64 at hu; simp only [u64w]; omega), rfl⟩
/-- the draw at a place: the number, the place behind it, the error -/
def nextN (l : List Int) (a : Int) : Int := if 0 ≤ a ∧ a < l.length then l.getD a.toNat 0 else 0
def nextA (l : List Int) (a : Int) : Int := if 0 ≤ a ∧ a < l.length then a + 1 else 0
def nextE (l : List Int) (a : Int) : Int := if a < 0 then 1 else if a < l.length then 0 else 60
abbrev nextV (l : List Int) (a : Int) : Value := .tuple #[.int .u64 (nextN l a), .int .i64 (nextA l a), .int .i64 (nextE l a)]
theorem nextV_neg {l : List Int} {a : Int} (h : a < 0) : Ending.returned (.tuple #[.int .u64 0, .int .i64 0, .int .i64 1]) = .returned (nextV l a) := by
  unfold nextV nextN nextA nextE; rw [if_neg (by omega), if_neg (by omega), if_pos h]
theorem nextV_out {l : List Int} {a : Int} (h : 0 ≤ a) (g : (l.length : Int) ≤ a) : Ending.returned (.tuple #[.int .u64 0, .int .i64 0, .int .i64 60]) = .returned (nextV l a) := by
  unfold nextV nextN nextA nextE; rw [if_neg (by omega), if_neg (by omega), if_neg (by omega), if_neg (by omega)]
theorem nextV_in {l : List Int} {k : Nat} (h : k < l.length) : Ending.returned (.tuple #[.int .u64 (l.getD k 0), .int .i64 (k + 1), .int .i64 0]) = .returned (nextV l k) := by
  unfold nextV nextN nextA nextE; rw [if_pos (by omega), if_pos (by omega), if_neg (by omega), if_pos (by omega)]; rfl
theorem draw_next (A : Option Addr) (l : List Int) (c B : Nat) (a : Int) (w : World) (hA : LiesU w B A l) (hl : (l.length : Int) ≤ 9223372036854775807) :
    Calls Try.prog 126 #[.slice A l.length c, .int .i64 a] w fun e w' => e = .returned (nextV l a) ∧ w = w' := by
  rcases Int.lt_or_le a 0 with h0 | h0
  · have hV := Lib.hid (nextV_neg (l := l) h0)
    generalize nextV l a = V at *
    clear hA
    generalize l.length = N at *
    go_enter Try.func126, Try.ntmps126
    go_wp2
    go_ret3
    exact ⟨hV.out, rfl⟩
  · by_cases h1 : a < l.length
    · obtain ⟨k, rfl⟩ : ∃ k : Nat, a = k := ⟨a.toNat, by omega⟩
      obtain ⟨ad, rfl, hb, hc⟩ := hA.at (k := k) (by omega)
      have hV := Lib.hid (nextV_in (l := l) (k := k) (by omega))
      generalize nextV l k = V at *
      generalize l.getD k 0 = x at *
      clear hA
      generalize l.length = N at *
      go_enter Try.func126, Try.ntmps126
      go_wp2
      go_ret3
      exact ⟨hV.out, rfl⟩
    · have hV := Lib.hid (nextV_out (l := l) h0 (by omega))
      clear hA
      generalize nextV l a = V at *
      generalize l.length = N at *
      go_enter Try.func126, Try.ntmps126
      go_wp2
      go_ret3
      exact ⟨hV.out, rfl⟩
def leftN (N : Nat) (a : Int) : Int := if a < 0 ∨ (N : Int) < a then 0 else N - a
end Go.Proofs.Ytkkeejbgaaodeaa
/-! Package draw: (*hand).next, find. -/
namespace Go.Proofs.Ytkkeejbgaaodeaa
open Go.RowKit
set_option linter.unusedVariables false
set_option linter.unusedSimpArgs false

theorem hand_next (A : Option Addr) (l : List Int) (c g : Nat) (a : Int) (w : World) (hA : LiesU w w.heap.size A l) (hl : (l.length : Int) ≤ 9223372036854775807) (hx : Box w g #[.slice A l.length c, .int .i64 a] 120) :
    Calls Try.prog 124 #[ptr g 0] w fun e w' => e = .returned (.tuple #[.int .u64 (nextN l a), .int .i64 (nextE l a)]) ∧ ∃ n, w' = (w.drewN n).setCell ⟨g, 1, none⟩ (.int .i64 (nextA l a)) := by
  have K := Lib.hid (fun W (h : LiesU W w.heap.size A l) => draw_next A l c _ a W h hl)
  obtain ⟨c0, c1, f0, f1⟩ := hx.two
  have HA := Lib.hid hA
  clear hA
  have hlt := hx.lt
  generalize l.length = N at *
  go_enter Try.func124, Try.ntmps124
  go_wp2_with fail
  go_quiet ((go_at_call 126; exact Calls.quiet_of_same (still_of (K.out _ HA.out))))
  go_wp2
  go_ret2
  exact ⟨rfl, _, rfl⟩

theorem below_drewN' {B : Nat} {a w : World} (h : Below B a w) (n : Nat) : Below B a (w.drewN n) := ⟨h.os, h.tape, h.output, h.size, h.block⟩
/-- the first of t draws from place k on that is not above top: the draw, where the hand is then, the error -/
def fnd (l : List Int) (top : Int) : Nat → Nat → Int × Int × Int
  | 0, k => (0, k, 61)
  | t + 1, k => if k < l.length then (if l.getD k 0 ≤ top then (l.getD k 0, k + 1, 0) else fnd l top t (k + 1)) else (0, 0, 60)
theorem fnd_0 (l : List Int) (top : Int) (k : Nat) : fnd l top 0 k = (0, (k : Int), 61) := rfl
theorem fnd_out {l : List Int} {top : Int} {t k : Nat} (h : ¬ k < l.length) : fnd l top (t + 1) k = (0, 0, 60) := by rw [fnd, if_neg h]
theorem fnd_hit {l : List Int} {top : Int} {t k : Nat} (h : k < l.length) (g : l.getD k 0 ≤ top) : fnd l top (t + 1) k = (l.getD k 0, (k : Int) + 1, 0) := by rw [fnd, if_pos h, if_pos g]
theorem fnd_more {l : List Int} {top : Int} {t k : Nat} (h : k < l.length) (g : ¬ l.getD k 0 ≤ top) : fnd l top (t + 1) k = fnd l top t (k + 1) := by rw [fnd, if_pos h, if_neg g]

set_option maxHeartbeats 2000000 in
theorem draw_find (A : Option Addr) (l : List Int) (c g k0 T : Nat) (top : Int) (w : World) (hA : LiesU w g A l) (hl : (l.length : Int) ≤ 9223372036854775807) (hx : Box w g #[.slice A l.length c, .int .i64 k0] 120) (hT : T ≤ 64) (hk0 : (k0 : Int) ≤ 9223372036854775807) :
    Calls Try.prog 123 #[.func (.func 124) #[ptr g 0] #[], .int .u64 top, .int .i64 T] w fun e w' => e = .returned (.tuple #[.int .u64 (fnd l top T k0).1, .int .i64 (fnd l top T k0).2.2]) ∧ Box w' g #[.slice A l.length c, .int .i64 (fnd l top T k0).2.1] 120 ∧ Below g w w' := by
  have HA := Lib.hid hA
  clear hA
  generalize hN : l.length = N at *
  have HN := Lib.hid hN
  clear hN
  go_enter Try.func123, Try.ntmps123
  go_wp2
  go_step3
  go_wp2
  go_step3
  go_wp2
  go_loopw [8, 9, 11] (fun d e i wr => ∃ k : Nat, k ≤ T ∧ i = .int .i64 k ∧ d = .int .u64 0 ∧ e = .int .i64 61 ∧ Hid (fnd l top T k0 = fnd l top (T - k) (k0 + k)) ∧ Box wr g #[.slice A N c, .int .i64 ((k0 + k : Nat) : Int)] 120 ∧ Below g w wr) (fun _ _ i _ => T - (intOf i).toNat)
  case atStart => exact ⟨0, by omega, rfl, rfl, rfl, rfl, hx, Below.refl _ _⟩
  case round =>
    obtain ⟨k, hk, rfl, rfl, rfl, HF, hB, hb⟩ := hrel
    have HB := Lib.hid hB
    have hgl := hB.lt
    clear hB hx
    by_cases hlt : k < T
    · have K := Lib.hid (hand_next A l c g ((k0 + k : Nat) : Int) wr ((HA.out.below hb).mono (by omega)) (by have := HN.out; omega) (by rw [HN.out]; exact HB.out))
      by_cases hin : k0 + k < N
      · rw [show nextN l ((k0 + k : Nat) : Int) = l.getD (k0 + k) 0 from by unfold nextN; rw [if_pos (by have := HN.out; omega)]; rfl, show nextE l ((k0 + k : Nat) : Int) = 0 from by unfold nextE; rw [if_neg (by omega), if_pos (by have := HN.out; omega)],
          show nextA l ((k0 + k : Nat) : Int) = ((k0 + (k + 1) : Nat) : Int) from by unfold nextA; rw [if_pos (by have := HN.out; omega)]; omega] at K
        have HH := Lib.hid (fun (h : l.getD (k0 + k) 0 ≤ top) => fnd_hit (l := l) (top := top) (t := T - k - 1) (k := k0 + k) (by have := HN.out; omega) h)
        have HO := Lib.hid (fun (h : ¬ l.getD (k0 + k) 0 ≤ top) => fnd_more (l := l) (top := top) (t := T - k - 1) (k := k0 + k) (by have := HN.out; omega) h)
        generalize l.getD (k0 + k) 0 = x at *
        go_wp2_with fail
        refine K.out.mono ?_
        rintro e w1 ⟨rfl, n, rfl⟩
        have HB2 := (HB.out.drewN n).set 1 (.int .i64 ((k0 + (k + 1) : Nat) : Int))
        have hb2 := (below_drewN' hb n).setCell (p := ⟨g, 1, none⟩) (Nat.le_refl g) (.int .i64 ((k0 + (k + 1) : Nat) : Int))
        by_cases hx : x ≤ top
        · have HE := Lib.hid (HH.out hx)
          clear HH HO
          go_wp2
          simp only [Exit.noGoto]
          go_ret2
          have h2 := HE.out
          rw [show T - k - 1 + 1 = T - k from by omega] at h2
          rw [HF.out, h2]
          exact ⟨rfl, HB2, hb2⟩
        · have HE := Lib.hid (HO.out (by omega))
          clear HH HO
          go_wp2
          refine ⟨⟨k + 1, by omega, by go_num, rfl, rfl, ?_, HB2, hb2⟩, by simp [intOf]; omega⟩
          have h2 := HE.out
          rw [show T - k - 1 + 1 = T - k from by omega] at h2
          show _ = _
          rw [HF.out, h2, show T - (k + 1) = T - k - 1 from by omega]; rfl
      · rw [show nextN l ((k0 + k : Nat) : Int) = 0 from by unfold nextN; rw [if_neg (by have := HN.out; omega)], show nextE l ((k0 + k : Nat) : Int) = 60 from by unfold nextE; rw [if_neg (by omega), if_neg (by have := HN.out; omega)],
          show nextA l ((k0 + k : Nat) : Int) = 0 from by unfold nextA; rw [if_neg (by have := HN.out; omega)]] at K
        have HH := Lib.hid (fnd_out (l := l) (top := top) (t := T - k - 1) (k := k0 + k) (by have := HN.out; omega))
        go_wp2_with fail
        refine K.out.mono ?_
        rintro e w1 ⟨rfl, n, rfl⟩
        have HB2 := (HB.out.drewN n).set 1 (.int .i64 0)
        have hb2 := (below_drewN' hb n).setCell (p := ⟨g, 1, none⟩) (Nat.le_refl g) (.int .i64 0)
        go_wp2
        simp only [Exit.noGoto]
        go_ret2
        have h2 := HH.out
        rw [show T - k - 1 + 1 = T - k from by omega] at h2
        rw [HF.out, h2]
        exact ⟨rfl, HB2, hb2⟩
    · obtain rfl : k = T := by omega
      go_wp2
      simp only [Exit.noGoto]
      go_ret2
      rw [HF.out, show k - k = 0 from by omega, fnd_0]
      exact ⟨rfl, HB.out, hb⟩
end Go.Proofs.Ytkkeejbgaaodeaa
/-! Package draw: Bound, Range, Coin; the reference's. -/
namespace Go.Proofs.Ytkkeejbgaaodeaa
open Go.RowKit
set_option linter.unusedVariables false
set_option linter.unusedSimpArgs false

/-- what a bound that may be asked tells: the number, the place behind, the error -/
def hit (n : Int) (r : Int × Int × Int) : Int × Int × Int := if r.2.2 = 0 then (r.1 % n, r.2.1, 0) else (0, 0, r.2.2)
/-- what may be asked of any bound -/
def Asks (a n t : Int) : Prop := ¬ n = 0 ∧ 0 ≤ a ∧ 1 ≤ t ∧ t ≤ 64
instance (a n t : Int) : Decidable (Asks a n t) := by unfold Asks; exact inferInstance
def bnd (l : List Int) (a n t : Int) : Int × Int × Int := if Asks a n t then hit n (fnd l (topN n) t.toNat a.toNat) else (0, 0, 1)
abbrev bndV (r : Int × Int × Int) : Value := .tuple #[.int .u64 r.1, .int .i64 r.2.1, .int .i64 r.2.2]
theorem bnd_no {l : List Int} {a n t : Int} (h : ¬ Asks a n t) : Ending.returned (.tuple #[.int .u64 0, .int .i64 0, .int .i64 1]) = .returned (bndV (bnd l a n t)) := by
  unfold bnd; rw [if_neg h]
theorem bnd_yes {l : List Int} {n : Int} {k T : Nat} (h : Asks k n T) : bnd l k n T = hit n (fnd l (topN n) T k) := by
  unfold bnd; rw [if_pos h]; rfl
theorem hit_0 {n x y : Int} : hit n (x, y, 0) = (x % n, y, 0) := rfl
theorem hit_e {n x y z : Int} (h : ¬ z = 0) : hit n (x, y, z) = (0, 0, z) := by unfold hit; rw [if_neg h]
theorem fnd_u64 (l : List Int) (hl : ∀ x ∈ l, U64 x) (top : Int) : ∀ (t k : Nat), U64 (fnd l top t k).1
  | 0, k => by unfold fnd U64; simp
  | t + 1, k => by
    unfold fnd
    split
    · split
      · exact getD_u64 hl k
      · exact fnd_u64 l hl top t (k + 1)
    · unfold U64; simp

theorem dre2 (w : World) (a b : Nat) : ∃ n, (w.drewN a).drewN b = w.drewN n := ⟨_, World.drewN_drewN _ _ _⟩
theorem dre3 (w : World) (a b c : Nat) : ∃ n, ((w.drewN a).drewN b).drewN c = w.drewN n := by
  obtain ⟨n, h⟩ := dre2 w a b
  rw [h]; exact dre2 _ _ _
theorem below_of_alloc {w w' : World} {o : Obj} (h : Below w.heap.size (w.alloc o) w') : Below w.heap.size w w' := ((Below.refl _ _).alloc (Nat.le_refl _) o).trans h
theorem draw_bound_no (A : Option Addr) (l : List Int) (c : Nat) (a n t : Int) (w : World) (h : ¬ Asks a n t) :
    Calls Try.prog 102 #[.slice A l.length c, .int .i64 a, .int .u64 n, .int .i64 t] w fun e w' => e = .returned (bndV (bnd l a n t)) ∧ Below w.heap.size w w' := by
  have HV := Lib.hid (bnd_no (l := l) h)
  generalize bnd l a n t = R at *
  generalize l.length = N at *
  by_cases hn : n = 0
  · subst hn
    go_enter Try.func102, Try.ntmps102
    go_wp2
    go_ret3
    exact ⟨HV.out, Below.refl _ _⟩
  · have hm : decide (0 ≤ a ∧ 1 ≤ t ∧ t ≤ 64) = false := by unfold Asks at h; simp; omega
    have K := Lib.hid (draw_may a t)
    rw [hm] at K
    go_enter Try.func102, Try.ntmps102
    go_wp2_with fail
    refine (K.out _).mono ?_
    rintro e w1 ⟨rfl, rfl⟩
    go_wp2
    go_ret3
    exact ⟨HV.out, Below.refl _ _⟩
theorem draw_bound (A : Option Addr) (l : List Int) (c : Nat) (a n t : Int) (w : World) (hA : LiesU w w.heap.size A l) (hu : ∀ x ∈ l, U64 x) (hl : (l.length : Int) ≤ 9223372036854775807) (hn : U64 n) (hat : I64 a) :
    Calls Try.prog 102 #[.slice A l.length c, .int .i64 a, .int .u64 n, .int .i64 t] w fun e w' => e = .returned (bndV (bnd l a n t)) ∧ Below w.heap.size w w' := by
  by_cases h : Asks a n t
  · obtain ⟨k, rfl⟩ : ∃ k : Nat, a = k := ⟨a.toNat, by unfold Asks at h; omega⟩
    obtain ⟨T, rfl⟩ : ∃ T : Nat, t = T := ⟨t.toNat, by unfold Asks at h; omega⟩
    have HV := Lib.hid (bnd_yes (l := l) h)
    have hn0 : 0 < n := by unfold Asks at h; unfold U64 at hn; omega
    have hT : T ≤ 64 := by unfold Asks at h; omega
    have hm : decide (0 ≤ (k : Int) ∧ 1 ≤ (T : Int) ∧ (T : Int) ≤ 64) = true := by unfold Asks at h; simp; omega
    have K := Lib.hid (draw_may k T)
    rw [hm] at K
    have KT := Lib.hid (draw_top n hn)
    have HU := Lib.hid (fnd_u64 l hu (topN n) T k)
    have KF := Lib.hid (fun W (hW : Below w.heap.size w W) g (hg : w.heap.size ≤ g) (hx : Box W g #[.slice A l.length c, .int .i64 k] 120) => draw_find A l c g k T (topN n) W ((hA.below hW).mono hg) hl hx hT (by unfold I64 at hat; omega))
    generalize fnd l (topN n) T k = F at *
    obtain ⟨d, p, e⟩ := F
    generalize topN n = top at *
    generalize bnd l k n T = R at *
    clear hA hu h hm
    generalize l.length = N at *
    have hmf : ∀ (fn : Fn) (first cap : Array Value) (w : World), (Instr.makeFunc fn first cap).run Try.prog w = .ok (.func fn first cap) w := fun _ _ _ _ => rfl
    obtain ⟨hn1, hn2⟩ := hn
    by_cases he : e = 0
    · subst he
      rw [hit_0] at HV
      go_enter Try.func102, Try.ntmps102
      go_wp2_with fail
      refine (K.out _).mono ?_
      rintro e1 w1 ⟨rfl, rfl⟩
      go_wp2_with fail
      refine (KT.out _).mono ?_
      rintro e1 w1 ⟨rfl, rfl⟩
      go_wp2_with fail
      refine (KF.out _ ((Below.refl _ _).alloc (Nat.le_refl _) _) w.heap.size (Nat.le_refl _) (Box.new _ _ _)).mono ?_
      rintro e1 w1 ⟨rfl, B1, b1⟩
      obtain ⟨c0, c1, f0, f1⟩ := B1.two
      go_wp2_with fail
      go_quiet (fail)
      go_wp2
      go_ret3
      have hd := HU.out
      unfold U64 at hd
      rw [Int.tmod_eq_emod_of_nonneg hd.1]
      exact ⟨by rw [HV.out]; rfl, below_of_alloc (below_drewN' b1 nq)⟩
    · rw [hit_e he] at HV
      have hne : (e != 0) = true := by simpa using he
      go_enter Try.func102, Try.ntmps102
      go_wp2_with fail
      refine (K.out _).mono ?_
      rintro e1 w1 ⟨rfl, rfl⟩
      go_wp2_with fail
      refine (KT.out _).mono ?_
      rintro e1 w1 ⟨rfl, rfl⟩
      go_wp2_with fail
      refine (KF.out _ ((Below.refl _ _).alloc (Nat.le_refl _) _) w.heap.size (Nat.le_refl _) (Box.new _ _ _)).mono ?_
      rintro e1 w1 ⟨rfl, B1, b1⟩
      go_wp2
      go_ret3
      exact ⟨by rw [HV.out]; rfl, below_of_alloc b1⟩
  · exact draw_bound_no A l c a n t w h
theorem ref_bound6 (A : Option Addr) (l : List Int) (c : Nat) (a n t : Int) (w : World) (hA : LiesU w w.heap.size A l) (hu : ∀ x ∈ l, U64 x) (hl : (l.length : Int) ≤ 9223372036854775807) (hn : U64 n) (hat : I64 a) :
    Calls Try.prog 108 #[.slice A l.length c, .int .i64 a, .int .u64 n, .int .i64 t] w fun e w' => e = .returned (bndV (bnd l a n t)) ∧ ∃ m, w' = w.drewN m := by
  by_cases h : Asks a n t
  · obtain ⟨k0, rfl⟩ : ∃ k : Nat, a = k := ⟨a.toNat, by unfold Asks at h; omega⟩
    obtain ⟨T, rfl⟩ : ∃ T : Nat, t = T := ⟨t.toNat, by unfold Asks at h; omega⟩
    have HV := Lib.hid (bnd_yes (l := l) h)
    have hn0 : 0 < n := by unfold Asks at h; unfold U64 at hn; omega
    have hT : T ≤ 64 := by unfold Asks at h; omega
    have hT1 : 1 ≤ T := by unfold Asks at h; omega
    have KT := Lib.hid (ref_top6 n hn)
    generalize topN n = top at *
    generalize bnd l k0 n T = R at *
    have HA := Lib.hid hA
    have HU := Lib.hid (getD_u64 hu)
    clear hA h hu
    generalize hN : l.length = N at *
    have HN := Lib.hid hN
    clear hN
    have hk0 : (k0 : Int) ≤ 9223372036854775807 := by unfold I64 at hat; omega
    obtain ⟨hn1, hn2⟩ := hn
    have hz : (n == 0 || decide ((k0 : Int) < 0) || decide ((T : Int) < 1) || decide (64 < (T : Int))) = false := by simp; omega
    go_enter Try.func108, Try.ntmps108
    go_wp2
    go_loopw [1, 11] (fun av i wr => ∃ k j : Nat, k ≤ T ∧ i = .int .i64 k ∧ av = .int .i64 j ∧ Hid (j = k0 + k) ∧ Hid (fnd l top T k0 = fnd l top (T - k) j) ∧ Hid (∃ m, wr = w.drewN m)) (fun _ i _ => T - (intOf i).toNat)
    case atStart => exact ⟨0, k0, by omega, rfl, rfl, rfl, rfl, ⟨0, rfl⟩⟩
    case round =>
      obtain ⟨k, j, hk, rfl, rfl, HJ, HF, HM⟩ := hrel
      have HAr : Hid (LiesU wr w.heap.size A l) := by obtain ⟨m, hm⟩ := HM.out; show LiesU _ _ _ _; rw [hm]; exact HA.out
      by_cases hlt : k < T
      · by_cases hin : j < N
        · obtain ⟨ad, rfl, hadb, hcell⟩ := HAr.out.at (k := j) (by have := HN.out; omega)
          have HX := Lib.hid (HU.out j)
          have HH := Lib.hid (fun (h : l.getD j 0 ≤ top) => fnd_hit (l := l) (top := top) (t := T - k - 1) (k := j) (by have := HN.out; omega) h)
          have HO := Lib.hid (fun (h : ¬ l.getD j 0 ≤ top) => fnd_more (l := l) (top := top) (t := T - k - 1) (k := j) (by have := HN.out; omega) h)
          generalize l.getD j 0 = x at *
          by_cases hx : x ≤ top
          · have HE := Lib.hid (HH.out hx)
            clear HH HO
            go_wp2_with fail
            have hji : (j : Int) < (N : Int) := by omega
            go_quiet ((go_at_call 129; exact Calls.quiet_of_same (still_of (KT.out _))))
            go_wp2
            go_ret3
            have h2 := HE.out
            rw [show T - k - 1 + 1 = T - k from by omega] at h2
            refine ⟨?_, by obtain ⟨m, hm⟩ := HM.out; rw [hm]; exact dre2 _ _ _⟩
            have hd := HX.out
            unfold U64 at hd
            rw [HV.out, HF.out, h2, Int.tmod_eq_emod_of_nonneg hd.1]; rfl
          · have HE := Lib.hid (HO.out (by omega))
            clear HH HO
            go_wp2_with fail
            have hji : (j : Int) < (N : Int) := by omega
            go_quiet ((go_at_call 129; exact Calls.quiet_of_same (still_of (KT.out _))))
            go_wp2
            refine ⟨⟨k + 1, j + 1, by omega, by go_num, by first | rfl | go_num, (by have := HJ.out; show _ = _; omega), ?_, (by obtain ⟨m, hm⟩ := HM.out; rw [hm]; exact dre2 _ _ _)⟩, by first | (simp [intOf]; done) | (simp [intOf]; omega)⟩
            have h2 := HE.out
            rw [show T - k - 1 + 1 = T - k from by omega] at h2
            show _ = _
            rw [HF.out, h2, show T - (k + 1) = T - k - 1 from by omega]
        · have HH := Lib.hid (fnd_out (l := l) (top := top) (t := T - k - 1) (k := j) (by have := HN.out; omega))
          go_wp2
          go_ret3
          have h2 := HH.out
          rw [show T - k - 1 + 1 = T - k from by omega] at h2
          refine ⟨?_, HM.out⟩
          rw [HV.out, HF.out, h2]; rfl
      · obtain rfl : k = T := by omega
        go_wp2
        go_ret3
        refine ⟨?_, HM.out⟩
        rw [HV.out, HF.out, show k - k = 0 from by omega, fnd_0]; rfl
  · have HV := Lib.hid (bnd_no (l := l) h)
    generalize bnd l a n t = R at *
    clear hA
    generalize l.length = N at *
    unfold Asks at h
    by_cases hn : n = 0
    · subst hn
      go_enter Try.func108, Try.ntmps108
      go_wp2
      go_ret3
      exact ⟨HV.out, 0, rfl⟩
    · go_enter Try.func108, Try.ntmps108
      go_wp2
      all_goals first | (exfalso; omega) | (go_ret3; exact ⟨HV.out, 0, rfl⟩) | trace_state

/-! ### Range, Coin -/
def rng (l : List Int) (a lo hi t : Int) : Int × Int × Int :=
  if lo ≤ hi ∧ 0 ≤ a ∧ 1 ≤ t ∧ t ≤ 64 then
    (if hi - lo + 1 = 18446744073709551616 then (if a < l.length then (wrap64 (l.getD a.toNat 0), a + 1, 0) else (0, 0, 60))
     else let r := bnd l a (hi - lo + 1) t; if r.2.2 = 0 then (lo + r.1, r.2.1, 0) else (0, 0, r.2.2))
  else (0, 0, 1)
abbrev rngV (r : Int × Int × Int) : Value := .tuple #[.int .i64 r.1, .int .i64 r.2.1, .int .i64 r.2.2]
theorem bnd_lt {l : List Int} {a n t : Int} (hn : 0 < n) : 0 ≤ (bnd l a n t).1 ∧ (bnd l a n t).1 < n := by
  unfold bnd hit
  split
  · split
    · exact ⟨Int.emod_nonneg _ (by omega), Int.emod_lt_of_pos _ hn⟩
    · simp; omega
  · simp; omega
theorem rng_no {l : List Int} {a lo hi t : Int} (h : ¬ (lo ≤ hi ∧ 0 ≤ a ∧ 1 ≤ t ∧ t ≤ 64)) : Ending.returned (.tuple #[.int .i64 0, .int .i64 0, .int .i64 1]) = .returned (rngV (rng l a lo hi t)) := by
  unfold rng; rw [if_neg h]
theorem draw_range (A : Option Addr) (l : List Int) (c : Nat) (a lo hi t : Int) (w : World) (hA : LiesU w w.heap.size A l) (hu : ∀ x ∈ l, U64 x) (hl : (l.length : Int) ≤ 9223372036854775807) (h1 : I64 lo) (h2 : I64 hi) (hat : I64 a) :
    Calls Try.prog 103 #[.slice A l.length c, .int .i64 a, .int .i64 lo, .int .i64 hi, .int .i64 t] w fun e w' => e = .returned (rngV (rng l a lo hi t)) ∧ Below w.heap.size w w' := by
  by_cases h : lo ≤ hi ∧ 0 ≤ a ∧ 1 ≤ t ∧ t ≤ 64
  · obtain ⟨ha, hb, hc⟩ := h
    have hm : decide (0 ≤ a ∧ 1 ≤ t ∧ t ≤ 64) = true := by simp; omega
    have K := Lib.hid (draw_may a t)
    rw [hm] at K
    obtain ⟨h11, h12⟩ := h1
    obtain ⟨h21, h22⟩ := h2
    by_cases hz : hi - lo + 1 = 18446744073709551616
    · obtain rfl : lo = -9223372036854775808 := by omega
      obtain rfl : hi = 9223372036854775807 := by omega
      have KN := Lib.hid (draw_next A l c _ a w hA hl)
      have hz0 : (IntKind.u64.wrap (IntKind.u64.wrap (IntKind.u64.wrap 9223372036854775807 - IntKind.u64.wrap (-9223372036854775808)) + 1) == 0) = true := by decide
      have hR : Hid (Ending.returned (.tuple #[.int .i64 (wrap64 (nextN l a)), .int .i64 (nextA l a), .int .i64 (nextE l a)]) = .returned (rngV (rng l a (-9223372036854775808) 9223372036854775807 t))) := by
        show _ = _
        unfold rng
        rw [if_pos (by omega), if_pos (by omega)]
        unfold nextN nextA nextE
        by_cases hh : a < l.length
        · rw [if_pos (by omega), if_pos (by omega), if_neg (by omega), if_pos hh, if_pos hh]
        · rw [if_neg (by omega), if_neg (by omega), if_neg (by omega), if_neg (by omega), if_neg hh, show wrap64 0 = 0 from by simp [wrap64]]
      generalize l.length = N at *
      go_enter Try.func103, Try.ntmps103
      go_wp2_with fail
      refine (K.out _).mono ?_
      rintro e1 w1 ⟨rfl, rfl⟩
      go_wp2_with fail
      refine KN.out.mono ?_
      rintro e1 w1 ⟨rfl, rfl⟩
      go_wp2
      go_ret3
      exact ⟨hR.out, Below.refl _ _⟩
    · have KB := Lib.hid (draw_bound A l c a (hi - lo + 1) t w hA hu hl (by unfold U64; omega) hat)
      have hlt := bnd_lt (l := l) (a := a) (n := hi - lo + 1) (t := t) (by omega)
      have hw : IntKind.u64.wrap (IntKind.u64.wrap (IntKind.u64.wrap hi - IntKind.u64.wrap lo) + 1) = hi - lo + 1 := by simp only [u64w]; omega
      have hz0 : (IntKind.u64.wrap (IntKind.u64.wrap (IntKind.u64.wrap hi - IntKind.u64.wrap lo) + 1) == 0) = false := by rw [hw]; simp; omega
      have HV : Hid (rng l a lo hi t = if (bnd l a (hi - lo + 1) t).2.2 = 0 then (lo + (bnd l a (hi - lo + 1) t).1, (bnd l a (hi - lo + 1) t).2.1, 0) else (0, 0, (bnd l a (hi - lo + 1) t).2.2)) := by
        show _ = _
        unfold rng
        rw [if_pos (by omega), if_neg hz]
      generalize rng l a lo hi t = R at *
      generalize bnd l a (hi - lo + 1) t = F at *
      obtain ⟨d, p, e⟩ := F
      simp only at hlt
      clear hA hu
      generalize hN : l.length = N at *
      go_enter Try.func103, Try.ntmps103
      go_wp2_with fail
      refine (K.out _).mono ?_
      rintro e1 w1 ⟨rfl, rfl⟩
      go_wp2_with fail
      refine KB.out.mono ?_
      rintro e1 w1 ⟨rfl, b1⟩
      by_cases he : e = 0
      · subst he
        go_wp2
        go_ret3
        refine ⟨?_, b1⟩
        rw [show R = (lo + d, p, 0) from HV.out.trans (if_pos trivial)]
        refine ret3i ?_ rfl rfl
        unfold wrap64
        omega
      · have hne : (e != 0) = true := by simpa using he
        go_wp2
        go_ret3
        refine ⟨?_, b1⟩
        rw [show R = (0, 0, e) from HV.out.trans (if_neg he)]; rfl
  · have HV := Lib.hid (rng_no (l := l) h)
    generalize rng l a lo hi t = R at *
    clear hA
    generalize l.length = N at *
    by_cases hh : hi < lo
    · go_enter Try.func103, Try.ntmps103
      go_wp2
      go_ret3
      exact ⟨HV.out, Below.refl _ _⟩
    · have hm : decide (0 ≤ a ∧ 1 ≤ t ∧ t ≤ 64) = false := by simp; omega
      have K := Lib.hid (draw_may a t)
      rw [hm] at K
      go_enter Try.func103, Try.ntmps103
      go_wp2_with fail
      refine (K.out _).mono ?_
      rintro e w1 ⟨rfl, rfl⟩
      go_wp2
      go_ret3
      exact ⟨HV.out, Below.refl _ _⟩
theorem ref_range6 (A : Option Addr) (l : List Int) (c : Nat) (a lo hi t : Int) (w : World) (hA : LiesU w w.heap.size A l) (hu : ∀ x ∈ l, U64 x) (hl : (l.length : Int) ≤ 9223372036854775807) (h1 : I64 lo) (h2 : I64 hi) (hat : I64 a) :
    Calls Try.prog 127 #[.slice A l.length c, .int .i64 a, .int .i64 lo, .int .i64 hi, .int .i64 t] w fun e w' => e = .returned (rngV (rng l a lo hi t)) ∧ Below w.heap.size w w' := by
  obtain ⟨h11, h12⟩ := h1
  obtain ⟨h21, h22⟩ := h2
  by_cases h : lo ≤ hi ∧ 0 ≤ a ∧ 1 ≤ t ∧ t ≤ 64
  · obtain ⟨ha, hb, hc⟩ := h
    have hg : (decide (hi < lo) || decide (a < 0) || decide (t < 1) || decide (64 < t)) = false := by simp; omega
    by_cases hz : hi - lo + 1 = 18446744073709551616
    · obtain rfl : lo = -9223372036854775808 := by omega
      obtain rfl : hi = 9223372036854775807 := by omega
      have hz0 : (IntKind.u64.wrap (IntKind.u64.wrap (IntKind.u64.wrap 9223372036854775807 - IntKind.u64.wrap (-9223372036854775808)) + 1) == 0) = true := by decide
      obtain ⟨k, rfl⟩ : ∃ k : Nat, a = k := ⟨a.toNat, by omega⟩
      by_cases hin : k < l.length
      · obtain ⟨ad, rfl, hadb, hcell⟩ := hA.at hin
        have hR : Hid (Ending.returned (.tuple #[.int .i64 (wrap64 (l.getD k 0)), .int .i64 (k + 1), .int .i64 0]) = .returned (rngV (rng l k (-9223372036854775808) 9223372036854775807 t))) := by
          show _ = _
          unfold rng
          rw [if_pos (by omega), if_pos (by omega), if_pos (by omega)]; rfl
        generalize l.getD k 0 = x at *
        generalize rng l k (-9223372036854775808) 9223372036854775807 t = R at *
        have hji : (k : Int) < (l.length : Int) := by omega
        clear hA hu
        generalize l.length = N at *
        go_enter Try.func127, Try.ntmps127
        go_wp2
        go_ret3
        exact ⟨hR.out, Below.refl _ _⟩
      · have hR : Hid (Ending.returned (.tuple #[.int .i64 0, .int .i64 0, .int .i64 60]) = .returned (rngV (rng l k (-9223372036854775808) 9223372036854775807 t))) := by
          show _ = _
          unfold rng
          rw [if_pos (by omega), if_pos (by omega), if_neg (by omega)]
        have hji : (l.length : Int) ≤ (k : Int) := by omega
        generalize rng l k (-9223372036854775808) 9223372036854775807 t = R at *
        clear hA hu
        generalize l.length = N at *
        go_enter Try.func127, Try.ntmps127
        go_wp2
        go_ret3
        exact ⟨hR.out, Below.refl _ _⟩
    · have KB := Lib.hid (ref_bound6 A l c a (hi - lo + 1) t w hA hu hl (by unfold U64; omega) hat)
      have hlt := bnd_lt (l := l) (a := a) (n := hi - lo + 1) (t := t) (by omega)
      have hw : IntKind.u64.wrap (IntKind.u64.wrap (IntKind.u64.wrap hi - IntKind.u64.wrap lo) + 1) = hi - lo + 1 := by simp only [u64w]; omega
      have hz0 : (IntKind.u64.wrap (IntKind.u64.wrap (IntKind.u64.wrap hi - IntKind.u64.wrap lo) + 1) == 0) = false := by rw [hw]; simp; omega
      have HV : Hid (rng l a lo hi t = if (bnd l a (hi - lo + 1) t).2.2 = 0 then (lo + (bnd l a (hi - lo + 1) t).1, (bnd l a (hi - lo + 1) t).2.1, 0) else (0, 0, (bnd l a (hi - lo + 1) t).2.2)) := by
        show _ = _
        unfold rng
        rw [if_pos (by omega), if_neg hz]
      generalize rng l a lo hi t = R at *
      generalize bnd l a (hi - lo + 1) t = F at *
      obtain ⟨d, p, e⟩ := F
      simp only at hlt
      clear hA hu
      generalize hN : l.length = N at *
      go_enter Try.func127, Try.ntmps127
      go_wp2_with fail
      refine KB.out.mono ?_
      rintro e1 w1 ⟨rfl, m, rfl⟩
      by_cases he : e = 0
      · subst he
        go_wp2
        go_ret3
        refine ⟨?_, below_drewN' (Below.refl _ _) m⟩
        rw [show R = (lo + d, p, 0) from HV.out.trans (if_pos trivial)]
        refine ret3i ?_ rfl rfl
        simp only [u64w]
        unfold wrap64
        omega
      · have hne : (e != 0) = true := by simpa using he
        go_wp2
        go_ret3
        refine ⟨?_, below_drewN' (Below.refl _ _) m⟩
        rw [show R = (0, 0, e) from HV.out.trans (if_neg he)]; rfl
  · have HV := Lib.hid (rng_no (l := l) h)
    generalize rng l a lo hi t = R at *
    clear hA
    generalize l.length = N at *
    have hg : (decide (hi < lo) || decide (a < 0) || decide (t < 1) || decide (64 < t)) = true := by simp; omega
    go_enter Try.func127, Try.ntmps127
    go_wp2
    all_goals first | (exfalso; omega) | (go_ret3; exact ⟨HV.out, Below.refl _ _⟩) | trace_state

def coin (l : List Int) (a p q t : Int) : Bool × Int × Int :=
  if 1 ≤ q ∧ 0 ≤ p ∧ p ≤ q then (let r := bnd l a q t; (decide (r.2.2 = 0) && decide (r.1 < p), r.2.1, r.2.2)) else (false, 0, 1)
abbrev coinV (r : Bool × Int × Int) : Value := .tuple #[.bool r.1, .int .i64 r.2.1, .int .i64 r.2.2]
theorem coin_no {l : List Int} {a p q t : Int} (h : ¬ (1 ≤ q ∧ 0 ≤ p ∧ p ≤ q)) : Ending.returned (.tuple #[.bool false, .int .i64 0, .int .i64 1]) = .returned (coinV (coin l a p q t)) := by
  unfold coin; rw [if_neg h]
theorem bnd_err {l : List Int} {a n t : Int} (h : ¬ (bnd l a n t).2.2 = 0) : bnd l a n t = (0, 0, (bnd l a n t).2.2) := by
  unfold bnd hit at *
  split
  · split
    · rename_i h1 h2; rw [if_pos h1, if_pos h2] at h; exact absurd rfl h
    · rfl
  · rfl
end Go.Proofs.Ytkkeejbgaaodeaa
/-! Package draw: Used; the reference's Same; what the statements of layer 6 ask of every program. -/
namespace Go.Proofs.Ytkkeejbgaaodeaa
open Go.RowKit
set_option linter.unusedVariables false
set_option linter.unusedSimpArgs false

theorem info_u64 : (Try.prog.info? 57).map (fun i => (i.zero, i.size, i.bytes)) = some (some (.int .u64 0), 1, 8) := by kernel_rfl
def litu (l : List Int) : List Value := l.map (Value.int .u64)
theorem litu_get (l : List Int) (j : Nat) (h : j < l.length) : (litu l)[j]? = some (.int .u64 (l.getD j 0)) := by
  simp [litu, List.getD, h]
theorem liesU_own {w : World} {base : Nat} {e : TypeId} {v : Value} {l : List Int} (h : w.ownsRow base e 1 v l.length (litu l)) :
    ∃ A c, v = .slice A l.length c ∧ l.length ≤ c ∧ c ≤ maxLen ∧ LiesU w w.heap.size A l := by
  rcases h.2 with ⟨rfl, h0⟩ | ⟨g, cap, cur, rfl, hb, hh, hnc, hm, hsz, hx⟩
  · rw [h0]
    exact ⟨none, 0, rfl, by omega, by unfold maxLen; omega, fun h1 => absurd h1 (by omega)⟩
  · refine ⟨_, cap, rfl, hnc, hm, fun _ => ⟨⟨g, 0, none⟩, rfl, ?_, fun j hj => ?_⟩⟩
    · rcases Nat.lt_or_ge g w.heap.size with hlt | hge
      · exact hlt
      · rw [Array.getElem?_eq_none hge] at hh; cases hh
    · have h1 : (⟨g, 0, none⟩ : Addr).add j = ⟨g, j, none⟩ := by unfold Addr.add; split <;> simp_all
      rw [h1]
      refine (cell_of_row w g j _ _ (0, 0) hh).trans ?_
      rw [← litu_get l j hj, ← hx, List.getElem?_take]
      simp
      intro h2; omega
/-- it gives a row of the words of l, of the call's own -/
def GivesU (l : List Int) (w : World) (e : Ending) (w' : World) : Prop :=
  ∃ A c, e = .returned (.slice A l.length c) ∧ l.length ≤ c ∧ c ≤ maxLen ∧ LiesU w' w'.heap.size A l ∧ Below w.heap.size w w'
theorem LiesU.add {w : World} {B : Nat} {ad : Addr} {l : List Int} (h : LiesU w B (some ad) l) (f : Nat) {j : Nat} (hj : f + j < l.length) : w.cell? ((ad.add f).add j) = some (.int .u64 (l.getD (f + j) 0)) := by
  obtain ⟨ad2, e, hb, hc⟩ := h (by omega)
  cases e
  rw [Addr.add_add]
  exact hc _ hj
theorem src_nil {size : Nat} {t : TypeId} {e : TypeId} (ht : Try.prog.underlying t = some (.slice e)) (X : Option Addr) (c : Nat) (w : World) : Src Try.prog size t (.slice X 0 c) 0 [] w := by
  refine ⟨.inl ⟨e, ht⟩, fun w' => by simp [Builtin.lenOf], ?_, ?_, by simp, by simp⟩
  · cases X with
    | none => exact run_firstCells_none _ _ _ _ _
    | some b => exact run_firstCells_some (P := Try.prog) w size 0 b 0 c [] (by simp) (by simp)
  · cases X with
    | none => exact run_firstCells_none _ _ _ _ _
    | some b => exact run_firstCells_some (P := Try.prog) w.drew size 0 b 0 c [] (by simp) (by simp)
/-- a row of words more onto a row of the call's own -/
theorem app_rowU {B : Nat} {wr : World} {ops : Array Oper} {rest : List Oper} {o : Oper} {a : Act} {Q : Exit → Act → World → Prop} (hgd : o.guard = none) (s x : Operand)
    (ho : o.op = .call { callee := .builtin .append, args := #[s, x], argTypes := #[29, 29] })
    (v : Value) (l news : List Int) (X : Option Addr) (c K : Nat) (hs : a.eval s = v) (hown : wr.ownsRow B 57 1 v l.length (litu l)) (hx : a.eval x = .slice X news.length c) (hL : LiesU wr K X news)
    (hB : B ≤ wr.heap.size) (hn : l.length + news.length ≤ 1000000000)
    (h : ∀ v' w', w'.ownsRow B 57 1 v' (l ++ news).length (litu (l ++ news)) → Below B wr w' → wpList Try.prog ops Q rest (a.put o.dst v') w') :
    wpList Try.prog ops Q (o :: rest) a wr := by
  obtain ⟨i0, hi, hz0, hz1, hz2⟩ := info_parts info_u64
  rcases Nat.eq_zero_or_pos news.length with h0 | h0
  · obtain rfl : news = [] := List.eq_nil_of_length_eq_zero h0
    have hf : ∃ b n cc, v = .slice b n cc ∧ n ≤ cc := by
      rcases hown.2 with ⟨rfl, h1⟩ | ⟨g, cap, cur, rfl, _, _, hnc, _⟩
      · exact ⟨_, _, _, rfl, by omega⟩
      · exact ⟨_, _, _, rfl, hnc⟩
    obtain ⟨b, n, cc, rfl, hle⟩ := hf
    have hr := run_append_nothing (P := Try.prog) wr 29 29 o.type 57 i0 Try.underlying29 hi b n cc hle (.slice X 0 c) (src_nil Try.underlying29 X c wr)
    refine wpList_plain hgd fun _ hK => ?_
    unfold Oper.wp execOp
    simp only [ho, resolve, invoke, builtin, Sem.run_bind, Sem.run_pure, Result.andThen_ok, List.map_toArray, List.map_cons, List.map_nil, hs, hx, List.length_nil, hr]
    refine hK _ _ (h _ _ ?_ (Below.refl _ _))
    simpa using hown
  · obtain ⟨ad, rfl, _, hc⟩ := hL h0
    refine wpList_append_own _ hgd s x 29 ho B 57 i0 (.int .u64 0) 1 8 Try.underlying29 hi hz0 hz1 hz2 rfl (by decide) v l.length (litu l) hs hown ad news.length c (litu news) hx (by simp [litu]) ?_ ?_ ?_ ?_ ?_ ?_
    · intro j u hj
      have hjl : j < news.length := by
        rcases Nat.lt_or_ge j news.length with h1 | h1
        · exact h1
        · rw [List.getElem?_eq_none (by simpa [litu] using h1)] at hj; cases hj
      rw [litu_get _ _ hjl] at hj
      rw [← hj]; exact hc j hjl
    · intro u hu
      simp only [litu, List.mem_map] at hu
      obtain ⟨y, _, rfl⟩ := hu; rfl
    · unfold maxLen; omega
    · omega
    · exact hB
    · intro v' w' h1 h2 _
      refine h v' w' ?_ ?_
      · rw [List.length_append, litu, List.map_append]; exact h1
      · refine (Below.refl _ _).grown h2 hB fun k hk => ?_
        rcases hown.2 with ⟨rfl, _⟩ | ⟨g, cap, cur, rfl, hg, _⟩
        · simp [Value.ownBlock] at hk
        · simp only [Value.ownBlock, Option.some.injEq] at hk; omega
def usedL (l : List Int) (f t : Int) : List Int := if f < 0 ∨ t < f ∨ l.length < t then [] else (l.drop f.toNat).take (t.toNat - f.toNat)
theorem liesU_cut {w : World} {B c : Nat} {A : Option Addr} {l : List Int} (h : LiesU w B A l) (f t : Nat) (ht : t ≤ l.length) (hf : f ≤ t) (hc : l.length ≤ c) :
    LiesU w B (if c = f then A else A.map (·.add f)) ((l.drop f).take (t - f)) := fun h0 => by
  have hlen : ((l.drop f).take (t - f)).length = t - f := by rw [List.length_take, List.length_drop]; omega
  rw [hlen] at h0
  obtain ⟨ad, rfl, hb, hcell⟩ := h (by omega)
  rw [if_neg (by omega)]
  refine ⟨ad.add f, rfl, by rw [add_block]; exact hb, fun j hj => ?_⟩
  rw [hlen] at hj
  rw [Addr.add_add, hcell (f + j) (by omega)]
  congr 2
  rw [List.getD_eq_getElem?_getD, List.getD_eq_getElem?_getD, List.getElem?_take, if_pos hj, List.getElem?_drop]
theorem take_same {l m : List Int} {k : Nat} (hk : k < l.length) (hm : l.length = m.length) (h : l.take k = m.take k) : (l.getD k 0 = m.getD k 0 → l.take (k + 1) = m.take (k + 1)) ∧ (l.getD k 0 ≠ m.getD k 0 → l ≠ m) := by
  refine ⟨fun he => ?_, fun he hh => he (by rw [hh])⟩
  rw [List.take_add_one, List.take_add_one, h]
  congr 2
  simp only [List.getD_eq_getElem?_getD, List.getElem?_eq_getElem hk, List.getElem?_eq_getElem (hm ▸ hk), Option.getD_some] at he ⊢
  rw [he]
end Go.Proofs.Ytkkeejbgaaodeaa
/-! What the statements of layer 6 ask of every program. -/
namespace Go.Proofs.Ytkkeejbgaaodeaa
open Go.RowKit
set_option linter.unusedVariables false
set_option linter.unusedSimpArgs false

theorem liesU_new (w : World) (l : List Int) : LiesU (w.alloc (.cells (litu l).toArray 57)) (w.heap.size + 1) (some ⟨w.heap.size, 0, none⟩) l := fun _ => by
  refine ⟨⟨w.heap.size, 0, none⟩, rfl, Nat.lt_succ_self _, fun j hj => ?_⟩
  have h1 : (⟨w.heap.size, 0, none⟩ : Addr).add j = ⟨w.heap.size, j, none⟩ := by unfold Addr.add; split <;> simp_all
  rw [h1, (Box.new w _ _).cell j]
  simp [litu, List.getD, hj]
abbrev liveL : List Int := [18446744073709551615, 7]
theorem live_u : ∀ x ∈ liveL, U64 x := by intro x hx; simp at hx; unfold U64; omega
theorem lb1 : bnd liveL 0 3 2 = (1, 2, 0) := by decide +kernel
theorem lb2 : bnd liveL 0 3 1 = (0, 0, 61) := by decide +kernel
theorem lb3 : bnd liveL 2 3 1 = (0, 0, 60) := by decide +kernel
theorem lb4 : rng liveL 1 (-2) 0 1 = (-1, 2, 0) := by decide +kernel
theorem lb5 : coin liveL 1 2 3 1 = (true, 2, 0) := by decide +kernel
theorem lb6 : nextV liveL 1 = .tuple #[.int .u64 7, .int .i64 2, .int .i64 0] := rfl
theorem lb7 : topN 3 = 18446744073709551614 := by decide +kernel
theorem lb8 : shareN 3 = 6148914691236517205 := by decide +kernel
theorem lb9 : usedL liveL 1 2 = [7] := by decide +kernel
abbrev liveW (w : World) : World := w.alloc (.cells #[.int .u64 18446744073709551615, .int .u64 7] 57)
end Go.Proofs.Ytkkeejbgaaodeaa
/-! How a list of words among the arguments of a law is opened. -/
namespace Go.Proofs.Ytkkeejbgaaodeaa
open Go.RowKit Go.WideShapes Go.ChangeShapes Go.Joins Go.Deep
section
variable {H : Type} {enc : TypeId × Value → H}
theorem cells_u64 : Try.prog.cellsOf 57 = 1 := by kernel_rfl
theorem open_words {P : Program} {W : World} {base : Nat} {t e : TypeId} {v : Value} {d : DataW H} {p : List MemPlace} (ht : P.underlying t = some (.slice e)) (he : P.underlying e = some (.int .u64)) (hc : P.cellsOf e = 1)
    (hv : Value.okWide P W .any base t v) (h : DataW.Trod enc P W 0 (fun _ => true) true t v d p) :
    ∃ A l c, v = .slice A l.length c ∧ LiesU W W.heap.size A l ∧ (∀ x ∈ l, U64 x) ∧ l.length ≤ c ∧ c ≤ 9223372036854775807 := by
  obtain ⟨a0, len, cap, rfl⟩ := okWide_slice ht hv
  obtain ⟨fuel, hf⟩ := h
  rcases open_ints ht he hc hf with ⟨hcs, _⟩ | ⟨a, len', cap', zs, hcs, _, hle, hm, hz, _, hcell, hwz⟩
  · simp [Value.cells] at hcs
    obtain ⟨rfl, rfl, rfl⟩ := hcs
    exact ⟨none, [], 0, rfl, LiesU.nil, (fun x hx => by cases hx), by simp, by simp⟩
  · simp [Value.cells] at hcs
    obtain ⟨rfl, rfl, rfl⟩ := hcs
    simp only [if_true] at hz
    unfold maxLen at hm
    have hlen : (zs.take len).length = len := by rw [List.length_take]; omega
    refine ⟨some a, zs.take len, cap, by rw [hlen], fun h0 => ⟨a, rfl, ?_, fun j hj => ?_⟩, fun x hx => u64_of_wf (hwz x (List.mem_of_mem_take hx)), by omega, by omega⟩
    · have h1 := hcell 0 (by omega)
      have h2 := World.block_lt_of_cell? W (a.add 0) h1
      rw [add_block] at h2
      exact h2
    · rw [hlen] at hj
      rw [hcell j (by omega), List.getD_eq_getElem?_getD, List.getD_eq_getElem?_getD, List.getElem?_take, if_pos hj]
end
end Go.Proofs.Ytkkeejbgaaodeaa
