import Derived.Test.YtehekdahlnpldaaBase
import Derived.ProofKit
import Derived.OpenShut

/-! Package draw and the reference of layer 6: rows of words in memory, the contracts of Next, Left, Top, Share, may, and of the reference's Rest and Top. -/
namespace Go.Proofs.Ytehekdahlnpldaa
open Go.RowKit
set_option linter.unusedVariables false
set_option linter.unusedSimpArgs false

/-- the words of l lie from A on, in a block below B -/
def LiesU (w : World) (B : Nat) (A : Option Addr) (l : List Int) : Prop :=
  0 < l.length → ∃ ad : Addr, A = some ad ∧ ad.block < B ∧ ∀ j, j < l.length → w.cell? (ad.add j) = some (.int .u64 (l.getD j 0))
theorem LiesU.below {w w' : World} {B : Nat} {A : Option Addr} {l : List Int} (h : LiesU w B A l) (hb : Below B w w') : LiesU w' B A l := fun h0 => by
  obtain ⟨ad, e, hB, hc⟩ := h h0
  exact ⟨ad, e, hB, fun j hj => (hb.cell (by rw [add_block]; exact hB)).trans (hc j hj)⟩
theorem LiesU.mono {w : World} {B B' : Nat} {A : Option Addr} {l : List Int} (h : LiesU w B A l) (hB : B ≤ B') : LiesU w B' A l := fun h0 => by
  obtain ⟨ad, e, hb, hc⟩ := h h0
  exact ⟨ad, e, by omega, hc⟩
theorem LiesU.nil {w : World} {B : Nat} {A : Option Addr} : LiesU w B A [] := fun h => absurd h (by simp)
theorem LiesU.at {w : World} {B : Nat} {A : Option Addr} {l : List Int} (h : LiesU w B A l) {k : Nat} (hk : k < l.length) :
    ∃ ad : Addr, A = some ad ∧ ad.block < B ∧ w.cell? (ad.add k) = some (.int .u64 (l.getD k 0)) := by
  obtain ⟨ad, e, hb, hc⟩ := h (by omega)
  exact ⟨ad, e, hb, hc k hk⟩
theorem getD_u64 {l : List Int} (h : ∀ x ∈ l, U64 x) (k : Nat) : U64 (l.getD k 0) := by
  by_cases hk : k < l.length
  · rw [List.getD_eq_getElem?_getD, List.getElem?_eq_getElem hk]; exact h _ (List.getElem_mem _)
  · rw [List.getD_eq_getElem?_getD, List.getElem?_eq_none (by omega)]; unfold U64; simp

/-- the greatest draw that counts for n -/
def topN (n : Int) : Int := if n = 0 then 0 else 18446744073709551615 - 18446744073709551616 % n
def shareN (n : Int) : Int := if n < 2 then 0 else 18446744073709551616 / n
theorem top_u64 {n : Int} (h : U64 n) : U64 (topN n) := by
  obtain ⟨a, b⟩ := h
  unfold topN U64; split
  · omega
  · have := Int.emod_lt_of_pos 18446744073709551616 (show 0 < n by omega)
    have := Int.emod_nonneg 18446744073709551616 (show n ≠ 0 by omega)
    omega
theorem turn_mod {n : Int} (h : 0 < n) : (18446744073709551616 - n) % n = 18446744073709551616 % n := by
  rw [Int.sub_emod, Int.emod_self, Int.sub_zero, Int.emod_emod_of_dvd _ (Int.dvd_refl n)]
theorem turn_div {n : Int} (h : 0 < n) : (18446744073709551616 - n) / n + 1 = 18446744073709551616 / n := by
  have := Int.sub_ediv_of_dvd 18446744073709551616 (Int.dvd_refl n)
  rw [this, Int.ediv_self (by omega)]; omega

theorem draw_may (a t : Int) (w : World) : Calls Try.prog 95 #[.int .i64 a, .int .i64 t] w fun e w' => e = .returned (.bool (decide (0 ≤ a ∧ 1 ≤ t ∧ t ≤ 64))) ∧ w = w' := by
  go_enter Try.func95, Try.ntmps95
  go_wp2
  all_goals
    go_ret
    refine ⟨?_, rfl⟩
    refine congrArg (fun b => Ending.returned (.bool b)) (?_ : (_ : Bool) = _)
    rw [Bool.eq_iff_iff]
    simp
    try omega

theorem draw_over (n : Int) (h : U64 n) (h0 : 0 < n) (w : World) : Calls Try.prog 126 #[.int .u64 n] w fun e w' => e = .returned (.int .u64 (18446744073709551616 % n)) ∧ w = w' := by
  obtain ⟨ha, hb⟩ := h
  have hm := Lib.hid (turn_mod h0)
  have hn : (-n) % 18446744073709551616 = 18446744073709551616 - n := by omega
  go_enter Try.func126, Try.ntmps126
  go_wp2
  go_ret
  refine ⟨ret1i ?_, rfl⟩
  rw [u64w, hn, ← hm.out]
  exact Int.tmod_eq_emod_of_nonneg (by omega)

theorem draw_top (n : Int) (h : U64 n) (w : World) : Calls Try.prog 98 #[.int .u64 n] w fun e w' => e = .returned (.int .u64 (topN n)) ∧ w = w' := by
  have hu := top_u64 h
  by_cases h0 : n = 0
  · subst h0
    go_enter Try.func98, Try.ntmps98
    go_wp2
    go_ret
    exact ⟨rfl, rfl⟩
  · have h1 : 0 < n := by unfold U64 at h; omega
    have hT := Lib.hid (show 18446744073709551615 - 18446744073709551616 % n = topN n from by unfold topN; rw [if_neg h0])
    generalize topN n = T at *
    go_enter Try.func98, Try.ntmps98
    go_wp2_with fail
    refine (draw_over n h h1 _).mono ?_
    rintro e w1 ⟨rfl, rfl⟩
    go_wp2
    go_ret
    exact ⟨ret1i (by have := hT.out; unfold U64 at hu; simp only [u64w]; omega), rfl⟩

theorem ref_rest (n : Int) (h : U64 n) (w : World) : Calls Try.prog 129 #[.int .u64 n] w fun e w' => e = .returned (.int .u64 (if n = 0 then 0 else 18446744073709551616 % n)) ∧ w = w' := by
  obtain ⟨ha, hb⟩ := h
  by_cases h0 : n = 0
  · subst h0
    go_enter Try.func129, Try.ntmps129
    go_wp2
    go_ret
    exact ⟨rfl, rfl⟩
  · rw [if_neg h0]
    have h1 : 0 < n := by omega
    have hm := Int.emod_lt_of_pos 18446744073709551615 h1
    have hm0 := Int.emod_nonneg 18446744073709551615 (show n ≠ 0 by omega)
    have hd : Hid (18446744073709551616 % n = if 18446744073709551615 % n + 1 = n then 0 else 18446744073709551615 % n + 1) := by
      show _ = _
      have e1 : (18446744073709551616 : Int) = 18446744073709551615 + 1 := by omega
      rw [e1, Int.add_emod]
      split
      · rename_i h; 
        by_cases n1 : n = 1
        · subst n1; omega
        · rw [Int.emod_eq_of_lt (a := 1) (by omega) (by omega), h, Int.emod_self]
      · rename_i h
        have n1 : n ≠ 1 := by intro hh; subst hh; omega
        rw [Int.emod_eq_of_lt (a := 1) (by omega) (by omega), Int.emod_eq_of_lt (by omega) (by omega)]
    generalize 18446744073709551616 % n = R at *
    go_enter Try.func129, Try.ntmps129
    go_wp2
    all_goals
      go_ret
      refine ⟨ret1i ?_, rfl⟩
      rw [hd.out]
      rename_i hh
      first | (rw [if_pos (by simpa using hh)]) | (rw [if_neg (by simpa using hh)])
theorem ref_top6 (n : Int) (h : U64 n) (w : World) : Calls Try.prog 101 #[.int .u64 n] w fun e w' => e = .returned (.int .u64 (topN n)) ∧ w = w' := by
  have hu := top_u64 h
  by_cases h0 : n = 0
  · subst h0
    go_enter Try.func101, Try.ntmps101
    go_wp2
    go_ret
    exact ⟨rfl, rfl⟩
  · have h1 : 0 < n := by unfold U64 at h; omega
    have hT := Lib.hid (show 18446744073709551615 - 18446744073709551616 % n = topN n from by unfold topN; rw [if_neg h0])
    have K := Lib.hid (ref_rest n h)
    rw [if_neg h0] at K
    generalize topN n = T at *
    go_enter Try.func101, Try.ntmps101
    go_wp2_with fail
    refine (K.out _).mono ?_
    rintro e w1 ⟨rfl, rfl⟩
    go_wp2
    go_ret
    exact ⟨ret1i (by have := hT.out; unfold U64 at hu; simp only [u64w]; omega), rfl⟩
/-- the draw at a place: the number, the place behind it, the error -/
def nextN (l : List Int) (a : Int) : Int := if 0 ≤ a ∧ a < l.length then l.getD a.toNat 0 else 0
def nextA (l : List Int) (a : Int) : Int := if 0 ≤ a ∧ a < l.length then a + 1 else 0
def nextE (l : List Int) (a : Int) : Int := if a < 0 then 1 else if a < l.length then 0 else 60
abbrev nextV (l : List Int) (a : Int) : Value := .tuple #[.int .u64 (nextN l a), .int .i64 (nextA l a), .int .i64 (nextE l a)]
theorem nextV_neg {l : List Int} {a : Int} (h : a < 0) : Ending.returned (.tuple #[.int .u64 0, .int .i64 0, .int .i64 1]) = .returned (nextV l a) := by
  unfold nextV nextN nextA nextE; rw [if_neg (by omega), if_neg (by omega), if_pos h]
theorem nextV_out {l : List Int} {a : Int} (h : 0 ≤ a) (g : (l.length : Int) ≤ a) : Ending.returned (.tuple #[.int .u64 0, .int .i64 0, .int .i64 60]) = .returned (nextV l a) := by
  unfold nextV nextN nextA nextE; rw [if_neg (by omega), if_neg (by omega), if_neg (by omega), if_neg (by omega)]
theorem nextV_in {l : List Int} {k : Nat} (h : k < l.length) : Ending.returned (.tuple #[.int .u64 (l.getD k 0), .int .i64 (k + 1), .int .i64 0]) = .returned (nextV l k) := by
  unfold nextV nextN nextA nextE; rw [if_pos (by omega), if_pos (by omega), if_neg (by omega), if_pos (by omega)]; rfl
theorem draw_next (A : Option Addr) (l : List Int) (c B : Nat) (a : Int) (w : World) (hA : LiesU w B A l) (hl : (l.length : Int) ≤ 9223372036854775807) :
    Calls Try.prog 125 #[.slice A l.length c, .int .i64 a] w fun e w' => e = .returned (nextV l a) ∧ w = w' := by
  rcases Int.lt_or_le a 0 with h0 | h0
  · have hV := Lib.hid (nextV_neg (l := l) h0)
    generalize nextV l a = V at *
    clear hA
    generalize l.length = N at *
    go_enter Try.func125, Try.ntmps125
    go_wp2
    go_ret3
    exact ⟨hV.out, rfl⟩
  · by_cases h1 : a < l.length
    · obtain ⟨k, rfl⟩ : ∃ k : Nat, a = k := ⟨a.toNat, by omega⟩
      obtain ⟨ad, rfl, hb, hc⟩ := hA.at (k := k) (by omega)
      have hV := Lib.hid (nextV_in (l := l) (k := k) (by omega))
      generalize nextV l k = V at *
      generalize l.getD k 0 = x at *
      clear hA
      generalize l.length = N at *
      go_enter Try.func125, Try.ntmps125
      go_wp2
      go_ret3
      exact ⟨hV.out, rfl⟩
    · have hV := Lib.hid (nextV_out (l := l) h0 (by omega))
      clear hA
      generalize nextV l a = V at *
      generalize l.length = N at *
      go_enter Try.func125, Try.ntmps125
      go_wp2
      go_ret3
      exact ⟨hV.out, rfl⟩
def leftN (N : Nat) (a : Int) : Int := if a < 0 ∨ (N : Int) < a then 0 else N - a
end Go.Proofs.Ytehekdahlnpldaa
