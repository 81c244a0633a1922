/- Layer 20 (sched): where a tree is grown; the next turn; the turns up to a count; counts that are right. -/
import Derived.Test.YtmfgegebnjpanaaSchC
import Derived.Deep.QuietTactic
namespace Go.Proofs.Ytmfgegebnjpanaa
open Go.RowKit
set_option linter.unusedVariables false
set_option linter.unusedSimpArgs false

theorem getD_mem_i64 {l : List Int} (h : ∀ x ∈ l, I64 x) {k : Nat} (hk : k < l.length) : I64 (l.getD k 0) := h _ (by rw [List.getD_eq_getElem?_getD, List.getElem?_eq_getElem hk]; exact List.getElem_mem _)
theorem amK_succ (b : List Int) (k : Nat) : (b.getD k 0 < b.getD (amK b k) 0 → amK b (k + 1) = k) ∧ (b.getD (amK b k) 0 ≤ b.getD k 0 → amK b (k + 1) = amK b k) := by
  constructor
  · intro h; rw [amK, if_pos h]
  · intro h; rw [amK, if_neg (by omega)]
set_option maxRecDepth 100000 in
set_option maxHeartbeats 4000000 in
theorem sch_place (dim win sam ev kind part whole tries keep notes : Int) (T : Nat) (A : Option Addr) (b : List Int) (c B : Nat) (w : World) (hA : Lies w B A b) (hB : B ≤ w.heap.size) (hT : 0 < T) (hT2 : T ≤ 1000) (hl : b.length ≤ 1000000) :
    Calls Try.prog 100 #[cfV dim win (T : Nat) sam ev kind part whole tries keep notes, .slice A b.length c] w fun e w' => e = .returned (.int .i64 (placeV T b : Nat)) ∧ Below w.heap.size w w' := by
  have HX := Lib.hid (Box.new w #[.int .i64 dim, .int .i64 win, .int .i64 ((T : Nat) : Int), .int .i64 sam, .int .i64 ev, .int .i64 kind, .int .i64 part, .int .i64 whole, .int .i64 tries, .int .i64 keep, .int .i64 notes] 88)
  have y2 := (HX.out.cell 2).trans rfl
  have HB := Lib.hid ((Below.refl w.heap.size w).alloc (Nat.le_refl _) (.cells #[.int .i64 dim, .int .i64 win, .int .i64 ((T : Nat) : Int), .int .i64 sam, .int .i64 ev, .int .i64 kind, .int .i64 part, .int .i64 whole, .int .i64 tries, .int .i64 keep, .int .i64 notes] 88))
  by_cases h : b.length < T
  · rw [show placeV T b = b.length from by unfold placeV; rw [if_pos h]]
    have h' : (b.length : Int) < (T : Int) := by omega
    clear hA
    generalize b.length = N at *
    go_enter Try.func100, Try.ntmps100
    go_wp2
    go_ret
    exact ⟨rfl, HB.out⟩
  · rw [show placeV T b = amK b b.length from by unfold placeV; rw [if_neg h]]
    have h' : ¬ (b.length : Int) < (T : Int) := by omega
    obtain ⟨ad, rfl, hadb, hc⟩ := hA (by omega)
    have HC : Hid (∀ wr, Below w.heap.size w wr → ∀ j, j < b.length → wr.cell? (ad.add j) = some (.int .i64 (b.getD j 0))) := by
      intro wr hb j hj
      exact (hb.cell (by rw [add_block]; omega)).trans (hc j hj)
    have HL := Lib.hid (amK_lt b)
    have HS := Lib.hid (amK_succ b)
    clear hA hc
    generalize hN : b.length = N at *
    clear hN
    go_enter Try.func100, Try.ntmps100
    go_wp2
    go_loopw [17, 5] (fun i o wr => ∃ k : Nat, k ≤ N ∧ i = .int .i64 k ∧ o = .int .i64 (amK b k : Nat) ∧ Below w.heap.size w wr) (fun i _ _ => N - (intOf i).toNat)
    case atStart => exact ⟨0, by omega, rfl, rfl, HB.out⟩
    case round =>
      obtain ⟨k, hk, rfl, rfl, hb⟩ := hrel
      by_cases hlt : k < N
      · have hki : (k : Int) < (N : Int) := by omega
        have c1 := HC.out wr hb k hlt
        have hm : amK b k < N := by
          by_cases h0 : k = 0
          · subst h0; show 0 < N; omega
          · have := HL.out k (by omega); omega
        have c2 := HC.out wr hb _ hm
        have hmi : ((amK b k : Nat) : Int) < (N : Int) := by omega
        have S := Lib.hid (HS.out k)
        generalize hm' : amK b (k + 1) = m' at *
        have HM' := Lib.hid hm'
        clear hm'
        generalize amK b k = m at *
        generalize b.getD k 0 = x at *
        generalize b.getD m 0 = y at *
        clear HC HL HS hB hadb hT hT2 h
        by_cases hxy : x < y
        · have S1 := Lib.hid (S.out.1 hxy)
          go_wp2
          exact ⟨⟨k + 1, by omega, by go_num, by rw [HM'.out, S1.out], hb⟩, by simp [intOf]; omega⟩
        · have S1 := Lib.hid (S.out.2 (by omega))
          go_wp2
          exact ⟨⟨k + 1, by omega, by go_num, by rw [HM'.out, S1.out], hb⟩, by simp [intOf]; omega⟩
      · obtain rfl : k = N := by omega
        clear HC HL HS hB hadb
        go_wp2
        go_ret
        exact ⟨rfl, hb⟩
set_option maxRecDepth 100000 in
set_option maxHeartbeats 4000000 in
theorem ref20_place (dim win sam ev kind part whole tries keep notes : Int) (T : Nat) (A : Option Addr) (b : List Int) (c B : Nat) (w : World) (hA : Lies w B A b) (hB : B ≤ w.heap.size) (hT : 0 < T) (hT2 : T ≤ 1000) (hl : b.length ≤ 1000000) :
    Calls Try.prog 102 #[cfV dim win (T : Nat) sam ev kind part whole tries keep notes, .slice A b.length c] w fun e w' => e = .returned (.int .i64 (placeV T b : Nat)) ∧ Below w.heap.size w w' := by
  have HX := Lib.hid (Box.new w #[.int .i64 dim, .int .i64 win, .int .i64 ((T : Nat) : Int), .int .i64 sam, .int .i64 ev, .int .i64 kind, .int .i64 part, .int .i64 whole, .int .i64 tries, .int .i64 keep, .int .i64 notes] 88)
  have y2 := (HX.out.cell 2).trans rfl
  have HB := Lib.hid ((Below.refl w.heap.size w).alloc (Nat.le_refl _) (.cells #[.int .i64 dim, .int .i64 win, .int .i64 ((T : Nat) : Int), .int .i64 sam, .int .i64 ev, .int .i64 kind, .int .i64 part, .int .i64 whole, .int .i64 tries, .int .i64 keep, .int .i64 notes] 88))
  by_cases h : b.length < T
  · rw [show placeV T b = b.length from by unfold placeV; rw [if_pos h]]
    have h' : (b.length : Int) < (T : Int) := by omega
    clear hA
    generalize b.length = N at *
    go_enter Try.func102, Try.ntmps102
    go_wp2
    go_ret
    exact ⟨rfl, HB.out⟩
  · rw [show placeV T b = amK b b.length from by unfold placeV; rw [if_neg h]]
    have h' : ¬ (b.length : Int) < (T : Int) := by omega
    obtain ⟨ad, rfl, hadb, hc⟩ := hA (by omega)
    have HC : Hid (∀ wr, Below w.heap.size w wr → ∀ j, j < b.length → wr.cell? (ad.add j) = some (.int .i64 (b.getD j 0))) := by
      intro wr hb j hj
      exact (hb.cell (by rw [add_block]; omega)).trans (hc j hj)
    have HL := Lib.hid (amK_lt b)
    have HS := Lib.hid (amK_succ b)
    clear hA hc
    generalize hN : b.length = N at *
    clear hN
    go_enter Try.func102, Try.ntmps102
    go_wp2
    go_loopw [6, 5] (fun i o wr => ∃ k : Nat, k ≤ N ∧ i = .int .i64 k ∧ o = .int .i64 (amK b k : Nat) ∧ Below w.heap.size w wr) (fun i _ _ => N - (intOf i).toNat)
    case atStart => exact ⟨0, by omega, rfl, rfl, HB.out⟩
    case round =>
      obtain ⟨k, hk, rfl, rfl, hb⟩ := hrel
      by_cases hlt : k < N
      · have hki : (k : Int) < (N : Int) := by omega
        have c1 := HC.out wr hb k hlt
        have hm : amK b k < N := by
          by_cases h0 : k = 0
          · subst h0; show 0 < N; omega
          · have := HL.out k (by omega); omega
        have c2 := HC.out wr hb _ hm
        have hmi : ((amK b k : Nat) : Int) < (N : Int) := by omega
        have S := Lib.hid (HS.out k)
        generalize hm' : amK b (k + 1) = m' at *
        have HM' := Lib.hid hm'
        clear hm'
        generalize amK b k = m at *
        generalize b.getD k 0 = x at *
        generalize b.getD m 0 = y at *
        clear HC HL HS hB hadb hT hT2 h
        by_cases hxy : x < y
        · have S1 := Lib.hid (S.out.1 hxy)
          go_wp2
          go_quiet (fail)
          go_wp2
          exact ⟨⟨k + 1, by omega, by go_num, by rw [HM'.out, S1.out], below_drewN2 hb _⟩, by simp [intOf]; omega⟩
        · have S1 := Lib.hid (S.out.2 (by omega))
          go_wp2
          go_quiet (fail)
          go_wp2
          exact ⟨⟨k + 1, by omega, by go_num, by rw [HM'.out, S1.out], below_drewN2 hb _⟩, by simp [intOf]; omega⟩
      · obtain rfl : k = N := by omega
        clear HC HL HS hB hadb
        go_wp2
        go_ret
        exact ⟨rfl, hb⟩
set_option maxRecDepth 100000 in
set_option maxHeartbeats 4000000 in
theorem sch_next (dim win tr sam ev kind part whole tries keep notes n : Int) (w : World) (hev : 1 ≤ ev ∧ ev ≤ 256) (hs : 2 ≤ sam ∧ sam ≤ 64) (hn : 0 ≤ n ∧ n ≤ 1099511627776) :
    Calls Try.prog 107 #[cfV dim win tr sam ev kind part whole tries keep notes, .int .i64 n] w fun e w' => e = .returned (.int .i64 (nextV sam ev n)) ∧ Below w.heap.size w w' := by
  have HX := Lib.hid (Box.new w #[.int .i64 dim, .int .i64 win, .int .i64 tr, .int .i64 sam, .int .i64 ev, .int .i64 kind, .int .i64 part, .int .i64 whole, .int .i64 tries, .int .i64 keep, .int .i64 notes] 88)
  have y3 := (HX.out.cell 3).trans rfl
  have y4 := (HX.out.cell 4).trans rfl
  have HB := Lib.hid ((Below.refl w.heap.size w).alloc (Nat.le_refl _) (.cells #[.int .i64 dim, .int .i64 win, .int .i64 tr, .int .i64 sam, .int .i64 ev, .int .i64 kind, .int .i64 part, .int .i64 whole, .int .i64 tries, .int .i64 keep, .int .i64 notes] 88))
  have hbd := next_bd (sam := sam) (n := n) hev.1
  have HE : Hid (nextV sam ev n = -(-(max sam (n + 1)) / ev) * ev) := rfl
  have K : ∀ (M : Int), 0 ≤ M → M ≤ 1099511627777 → ∀ W, Calls Try.prog 90 #[.int .i64 M, .int .i64 ev] W fun e w' => e = .returned (.tuple #[.int .i64 (-(-M / ev)), .int .i64 0]) ∧ W = w' := by
    intro M h1 h2 W
    have k := num_ceil M ev (by unfold I64; omega) W
    rw [← ceilV_1 (by omega) rfl] at k
    exact k
  generalize nextV sam ev n = X at *
  by_cases hm : sam < n + 1
  · rw [Int.max_eq_right (by omega)] at HE hbd
    have K1 := Lib.hid (K (n + 1) (by omega) (by omega))
    generalize -(-(n + 1) / ev) = q at *
    have e1 : q * ev = X := HE.out.symm
    clear HE K
    go_enter Try.func107, Try.ntmps107
    go_wp2_with fail
    refine (K1.out _).mono ?_
    rintro e w1 ⟨rfl, rfl⟩
    go_wp2
    go_ret
    exact ⟨rfl, HB.out⟩
  · rw [Int.max_eq_left (by omega)] at HE hbd
    have K1 := Lib.hid (K sam (by omega) (by omega))
    generalize -(-sam / ev) = q at *
    have e1 : q * ev = X := HE.out.symm
    clear HE K
    go_enter Try.func107, Try.ntmps107
    go_wp2_with fail
    refine (K1.out _).mono ?_
    rintro e w1 ⟨rfl, rfl⟩
    go_wp2
    go_ret
    exact ⟨rfl, HB.out⟩
set_option maxRecDepth 100000 in
set_option maxHeartbeats 4000000 in
theorem ref20_Turn (dim win tr sam ev kind part whole tries keep notes n : Int) (w : World) (hev : 1 ≤ ev ∧ ev ≤ 256) (hs : 2 ≤ sam ∧ sam ≤ 64) (hn : I64 n) :
    Calls Try.prog 101 #[cfV dim win tr sam ev kind part whole tries keep notes, .int .i64 n] w fun e w' => e = .returned (.bool (decide (turnP sam ev n))) ∧ Below w.heap.size w w' := by
  have HX := Lib.hid (Box.new w #[.int .i64 dim, .int .i64 win, .int .i64 tr, .int .i64 sam, .int .i64 ev, .int .i64 kind, .int .i64 part, .int .i64 whole, .int .i64 tries, .int .i64 keep, .int .i64 notes] 88)
  have y3 := (HX.out.cell 3).trans rfl
  have y4 := (HX.out.cell 4).trans rfl
  have HB := Lib.hid ((Below.refl w.heap.size w).alloc (Nat.le_refl _) (.cells #[.int .i64 dim, .int .i64 win, .int .i64 tr, .int .i64 sam, .int .i64 ev, .int .i64 kind, .int .i64 part, .int .i64 whole, .int .i64 tries, .int .i64 keep, .int .i64 notes] 88))
  obtain ⟨hn1, hn2⟩ := hn
  by_cases h : sam ≤ n
  · have hm : n.tmod ev = n % ev := Int.tmod_eq_emod_of_nonneg (by omega)
    have hr := Int.emod_nonneg n (show ev ≠ 0 by omega)
    by_cases h2 : n % ev = 0
    · rw [show decide (turnP sam ev n) = true from decide_eq_true ⟨h, h2⟩]
      rw [h2] at hm
      clear h2 hr
      go_enter Try.func101, Try.ntmps101
      go_wp2
      go_ret
      exact ⟨rfl, HB.out⟩
    · rw [show decide (turnP sam ev n) = false from decide_eq_false fun hh => h2 hh.2]
      generalize n % ev = r at *
      have h3 : (r == 0) = false := by simp; omega
      go_enter Try.func101, Try.ntmps101
      go_wp2
      go_ret
      exact ⟨rfl, HB.out⟩
  · rw [show decide (turnP sam ev n) = false from decide_eq_false fun hh => h hh.1]
    go_enter Try.func101, Try.ntmps101
    go_wp2
    go_ret
    exact ⟨rfl, HB.out⟩
end Go.Proofs.Ytmfgegebnjpanaa
