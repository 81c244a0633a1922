/- Layer 20 (sched): which births may be; Due of both. -/
import Derived.Test.YtmfgegebnjpanaaSchF
namespace Go.Proofs.Ytmfgegebnjpanaa
open Go.RowKit
set_option linter.unusedVariables false
set_option linter.unusedSimpArgs false

/-- may these births be? -/
def fitB (T : Nat) (n : Int) (b : List Int) : Prop := b.length ≤ T ∧ ∀ x ∈ b, 0 ≤ x ∧ x ≤ n
instance (T : Nat) (n : Int) (b : List Int) : Decidable (fitB T n b) := by unfold fitB; infer_instance
theorem fit_bad {T : Nat} {n : Int} {b : List Int} {k : Nat} (hk : k < b.length) (h : ¬ (0 ≤ b.getD k 0 ∧ b.getD k 0 ≤ n)) : decide (fitB T n b) = false :=
  decide_eq_false fun hh => h (hh.2 _ (by rw [List.getD_eq_getElem?_getD, List.getElem?_eq_getElem hk]; exact List.getElem_mem _))
theorem fit_ok {T : Nat} {n : Int} {b : List Int} (hT : b.length ≤ T) (h : ∀ j, j < b.length → 0 ≤ b.getD j 0 ∧ b.getD j 0 ≤ n) : decide (fitB T n b) = true := by
  refine decide_eq_true ⟨hT, fun x hx => ?_⟩
  obtain ⟨j, hj, rfl⟩ := List.mem_iff_getElem.1 hx
  have := h j hj
  rwa [List.getD_eq_getElem?_getD, List.getElem?_eq_getElem hj] at this
set_option maxRecDepth 100000 in
set_option maxHeartbeats 4000000 in
theorem sch_fits (dim win sam ev kind part whole tries keep notes : Int) (T : Nat) (n : Int) (A : Option Addr) (b : List Int) (c : Nat) (w : World) (hA : Lies w w.heap.size A b) (hT2 : T ≤ 1000) (hl : (b.length : Int) ≤ 9223372036854775807) :
    Calls Try.prog 109 #[cfV dim win (T : Nat) sam ev kind part whole tries keep notes, .int .i64 n, .slice A b.length c] w fun e w' => e = .returned (.bool (decide (fitB T n b))) ∧ Below w.heap.size w w' := by
  have HX := Lib.hid (Box.new w #[.int .i64 dim, .int .i64 win, .int .i64 ((T : Nat) : Int), .int .i64 sam, .int .i64 ev, .int .i64 kind, .int .i64 part, .int .i64 whole, .int .i64 tries, .int .i64 keep, .int .i64 notes] 88)
  obtain ⟨y0, y1, y2, y3, y4, y5, y6, y7, y8, y9, y10⟩ := box11 HX.out
  have HB := Lib.hid ((Below.refl w.heap.size w).alloc (Nat.le_refl _) (.cells #[.int .i64 dim, .int .i64 win, .int .i64 ((T : Nat) : Int), .int .i64 sam, .int .i64 ev, .int .i64 kind, .int .i64 part, .int .i64 whole, .int .i64 tries, .int .i64 keep, .int .i64 notes] 88))
  by_cases h : T < b.length
  · rw [show decide (fitB T n b) = false from decide_eq_false fun hh => by have := hh.1; omega]
    have h' : (T : Int) < (b.length : Int) := by omega
    clear hA
    generalize b.length = N at *
    go_enter Try.func109, Try.ntmps109
    go_wp2
    go_ret
    exact ⟨rfl, HB.out⟩
  · have h' : ¬ (T : Int) < (b.length : Int) := by omega
    have HC : Hid (0 < b.length → ∃ ad : Addr, A = some ad ∧ ∀ wr, Below w.heap.size w wr → ∀ j, j < b.length → wr.cell? (ad.add j) = some (.int .i64 (b.getD j 0))) := by
      intro h0
      obtain ⟨ad, rfl, hadb, hc⟩ := hA h0
      exact ⟨ad, rfl, fun wr hb j hj => (hb.cell (by rw [add_block]; omega)).trans (hc j hj)⟩
    have HBAD := Lib.hid (fun k (hk : k < b.length) h => fit_bad (T := T) (n := n) (b := b) hk h)
    have HOK := Lib.hid (fun h2 => fit_ok (T := T) (n := n) (b := b) (by omega) h2)
    have hb := HB.out
    clear hA
    generalize decide (fitB T n b) = r at *
    generalize hN : b.length = N at *
    clear hN
    go_enter Try.func109, Try.ntmps109
    go_wp2
    go_loop [16] (fun i => ∃ k : Nat, k ≤ N ∧ i = .int .i64 k ∧ Hid (∀ j, j < k → 0 ≤ b.getD j 0 ∧ b.getD j 0 ≤ n)) (fun i => N - (intOf i).toNat)
    case atStart => exact ⟨0, by omega, rfl, fun j hj => absurd hj (by omega)⟩
    case round =>
      obtain ⟨k, hk, rfl, HJ⟩ := hrel
      by_cases hlt : k < N
      · have hki : (k : Int) < (N : Int) := by omega
        obtain ⟨ad, rfl, hc⟩ := HC.out (by omega)
        have c1 := hc _ hb k hlt
        have HB1 := Lib.hid (HBAD.out k hlt)
        have HJ' : Hid (0 ≤ b.getD k 0 ∧ b.getD k 0 ≤ n → ∀ j, j < k + 1 → 0 ≤ b.getD j 0 ∧ b.getD j 0 ≤ n) := by
          intro h j hj
          rcases Nat.lt_succ_iff_lt_or_eq.1 hj with h' | rfl
          · exact HJ.out j h'
          · exact h
        clear hc HC HBAD HOK HJ
        generalize b.getD k 0 = x at *
        by_cases h0 : x < 0
        · have hr := Lib.hid (HB1.out (by omega))
          go_wp2
          go_ret
          exact ⟨by rw [hr.out]; rfl, hb⟩
        · by_cases h1 : n < x
          · have hr := Lib.hid (HB1.out (by omega))
            go_wp2
            go_ret
            exact ⟨by rw [hr.out]; rfl, hb⟩
          · have HJ2 := Lib.hid (HJ'.out (by omega))
            clear HJ' HB1
            go_wp2
            exact ⟨⟨k + 1, by omega, by go_num, HJ2⟩, by simp [intOf]; omega⟩
      · obtain rfl : k = N := by omega
        have hr := Lib.hid (HOK.out HJ.out)
        clear HC HBAD HOK HJ
        go_wp2
        go_ret
        exact ⟨by rw [hr.out]; rfl, hb⟩
def dueB (q : Bool) (tr sam ev n : Int) (b : List Int) : Bool := q && decide (turnP sam ev n ∧ (b.length : Int) ≤ tr)
def dueN (q : Bool) (tr sam ev n : Int) (b : List Int) : Int := if dueB q tr sam ev n b = true then (placeV tr.toNat b : Nat) else 0
abbrev dueV (q : Bool) (tr sam ev n : Int) (b : List Int) : Value := .tuple #[.int .i64 (dueN q tr sam ev n b), .bool (dueB q tr sam ev n b)]
theorem due_no {tr sam ev n : Int} {b : List Int} : dueV false tr sam ev n b = .tuple #[.int .i64 0, .bool false] := rfl
theorem due_bad {tr sam ev n : Int} {b : List Int} (h : ¬ (turnP sam ev n ∧ (b.length : Int) ≤ tr)) : dueV true tr sam ev n b = .tuple #[.int .i64 0, .bool false] := by
  have e : dueB true tr sam ev n b = false := by unfold dueB; rw [decide_eq_false h]; rfl
  unfold dueV dueN; rw [e]; rfl
theorem due_ok {tr sam ev n : Int} {b : List Int} (h : turnP sam ev n ∧ (b.length : Int) ≤ tr) : dueV true tr sam ev n b = .tuple #[.int .i64 (placeV tr.toNat b : Nat), .bool true] := by
  have e : dueB true tr sam ev n b = true := by unfold dueB; rw [decide_eq_true h]; rfl
  unfold dueV dueN; rw [e]; rfl
set_option maxRecDepth 100000 in
set_option maxHeartbeats 8000000 in
theorem sch_Due (dim win tr sam ev kind part whole tries keep notes : Int) (hwh : I64 whole) (n : Int) (hn : I64 n) (A : Option Addr) (b : List Int) (c : Nat) (w : World) (hA : Lies w w.heap.size A b) (hl : b.length ≤ 1000000) :
    Calls Try.prog 58 #[cfV dim win tr sam ev kind part whole tries keep notes, .int .i64 n, .slice A b.length c] w fun e w' => e = .returned (dueV (decide (CfOk dim win tr sam ev kind part whole tries keep notes)) tr sam ev n b) ∧ Below w.heap.size w w' := by
  have HX := Lib.hid (Box.new w #[.int .i64 dim, .int .i64 win, .int .i64 tr, .int .i64 sam, .int .i64 ev, .int .i64 kind, .int .i64 part, .int .i64 whole, .int .i64 tries, .int .i64 keep, .int .i64 notes] 88)
  obtain ⟨y0, y1, y2, y3, y4, y5, y6, y7, y8, y9, y10⟩ := box11 HX.out
  have HB := Lib.hid ((Below.refl w.heap.size w).alloc (Nat.le_refl _) (.cells #[.int .i64 dim, .int .i64 win, .int .i64 tr, .int .i64 sam, .int .i64 ev, .int .i64 kind, .int .i64 part, .int .i64 whole, .int .i64 tries, .int .i64 keep, .int .i64 notes] 88))
  have K1 := Lib.hid (fun W => sch_Right dim win tr sam ev kind part whole tries keep notes hwh W)
  by_cases hok : CfOk dim win tr sam ev kind part whole tries keep notes
  · rw [okB.1 hok] at K1 ⊢
    have hev : 1 ≤ ev ∧ ev ≤ 256 := by unfold CfOk at hok; omega
    have hsa : 2 ≤ sam ∧ sam ≤ 64 := by unfold CfOk at hok; omega
    have htr : 1 ≤ tr ∧ tr ≤ 16 := by unfold CfOk at hok; omega
    clear hok hwh
    by_cases h1 : n < sam
    · rw [due_bad (fun h => by have := h.1.1; omega)]
      clear hA
      generalize b.length = N at *
      go_enter Try.func58, Try.ntmps58
      go_wp2_with fail
      refine (K1.out _).mono ?_
      rintro e w1 ⟨rfl, b1⟩
      have HX1 := Lib.hid (HX.out.below b1 HX.out.lt)
      have HB1 := Lib.hid (HB.out.trans (b1.mono HB.out.size))
      clear b1 y0 y1 y2 y3 y4 y5 y6 y7 y8 y9 y10 HX HB K1
      obtain ⟨y0, y1, y2, y3, y4, y5, y6, y7, y8, y9, y10⟩ := box11 HX1.out
      go_wp2
      go_ret2
      exact ⟨rfl, HB1.out⟩
    · have hm : n.tmod ev = n % ev := Int.tmod_eq_emod_of_nonneg (by omega)
      have hr := Int.emod_nonneg n (show ev ≠ 0 by omega)
      unfold I64 at hn
      by_cases h2 : n % ev = 0
      · by_cases h3 : (b.length : Int) ≤ tr
        · rw [due_ok ⟨⟨by omega, h2⟩, h3⟩]
          obtain ⟨T, rfl⟩ : ∃ T : Nat, tr = T := ⟨tr.toNat, by omega⟩
          have K2 := Lib.hid (fun W (h : Lies W W.heap.size A b) => sch_place dim win sam ev kind part whole tries keep notes T A b c W.heap.size W h (Nat.le_refl _) (by omega) (by omega) hl)
          rw [show ((T : Nat) : Int).toNat = T from by omega]
          have HA := Lib.hid (fun W (h : Below w.heap.size w W) => (hA.below h).mono h.size)
          rw [h2] at hm
          have h3' : ¬ (T : Int) < (b.length : Int) := by omega
          generalize placeV T b = P at *
          clear hA h2 hr
          generalize b.length = N at *
          go_enter Try.func58, Try.ntmps58
          go_wp2_with fail
          refine (K1.out _).mono ?_
          rintro e w1 ⟨rfl, b1⟩
          have HX1 := Lib.hid (HX.out.below b1 HX.out.lt)
          have HB1 := Lib.hid (HB.out.trans (b1.mono HB.out.size))
          clear b1 y0 y1 y2 y3 y4 y5 y6 y7 y8 y9 y10 HX HB K1
          obtain ⟨y0, y1, y2, y3, y4, y5, y6, y7, y8, y9, y10⟩ := box11 HX1.out
          go_wp2_with fail
          refine (K2.out _ (HA.out _ HB1.out)).mono ?_
          rintro e w2 ⟨rfl, b2⟩
          have HB2 := Lib.hid (HB1.out.trans (b2.mono HB1.out.size))
          clear b2 y0 y1 y2 y3 y4 y5 y6 y7 y8 y9 y10
          go_wp2
          go_ret2
          exact ⟨rfl, HB2.out⟩
        · rw [due_bad (fun h => h3 h.2)]
          rw [h2] at hm
          have h3' : tr < (b.length : Int) := by omega
          clear hA h2 hr h3
          generalize b.length = N at *
          go_enter Try.func58, Try.ntmps58
          go_wp2_with fail
          refine (K1.out _).mono ?_
          rintro e w1 ⟨rfl, b1⟩
          have HX1 := Lib.hid (HX.out.below b1 HX.out.lt)
          have HB1 := Lib.hid (HB.out.trans (b1.mono HB.out.size))
          clear b1 y0 y1 y2 y3 y4 y5 y6 y7 y8 y9 y10 HX HB K1
          obtain ⟨y0, y1, y2, y3, y4, y5, y6, y7, y8, y9, y10⟩ := box11 HX1.out
          go_wp2
          go_ret2
          exact ⟨rfl, HB1.out⟩
      · rw [due_bad (fun h => h2 h.1.2)]
        clear hA
        generalize b.length = N at *
        generalize n % ev = r at *
        have h3 : (r == 0) = false := by simp; omega
        go_enter Try.func58, Try.ntmps58
        go_wp2_with fail
        refine (K1.out _).mono ?_
        rintro e w1 ⟨rfl, b1⟩
        have HX1 := Lib.hid (HX.out.below b1 HX.out.lt)
        have HB1 := Lib.hid (HB.out.trans (b1.mono HB.out.size))
        clear b1 y0 y1 y2 y3 y4 y5 y6 y7 y8 y9 y10 HX HB K1
        obtain ⟨y0, y1, y2, y3, y4, y5, y6, y7, y8, y9, y10⟩ := box11 HX1.out
        go_wp2
        go_ret2
        exact ⟨rfl, HB1.out⟩
  · rw [okB.2 hok] at K1 ⊢
    rw [due_no]
    clear hok hwh hA
    generalize b.length = N at *
    go_enter Try.func58, Try.ntmps58
    go_wp2_with fail
    refine (K1.out _).mono ?_
    rintro e w1 ⟨rfl, b1⟩
    have HX1 := Lib.hid (HX.out.below b1 HX.out.lt)
    have HB1 := Lib.hid (HB.out.trans (b1.mono HB.out.size))
    clear b1 y0 y1 y2 y3 y4 y5 y6 y7 y8 y9 y10 HX HB K1
    obtain ⟨y0, y1, y2, y3, y4, y5, y6, y7, y8, y9, y10⟩ := box11 HX1.out
    go_wp2
    go_ret2
    exact ⟨rfl, HB1.out⟩
set_option maxRecDepth 100000 in
set_option maxHeartbeats 8000000 in
theorem ref20_Due (dim win tr sam ev kind part whole tries keep notes : Int) (n : Int) (hn : I64 n) (A : Option Addr) (b : List Int) (c : Nat) (w : World) (hA : Lies w w.heap.size A b) (hl : b.length ≤ 1000000) :
    Calls Try.prog 59 #[cfV dim win tr sam ev kind part whole tries keep notes, .int .i64 n, .slice A b.length c] w fun e w' => e = .returned (dueV (decide (CfOk dim win tr sam ev kind part whole tries keep notes)) tr sam ev n b) ∧ Below w.heap.size w w' := by
  have HX := Lib.hid (Box.new w #[.int .i64 dim, .int .i64 win, .int .i64 tr, .int .i64 sam, .int .i64 ev, .int .i64 kind, .int .i64 part, .int .i64 whole, .int .i64 tries, .int .i64 keep, .int .i64 notes] 88)
  obtain ⟨y0, y1, y2, y3, y4, y5, y6, y7, y8, y9, y10⟩ := box11 HX.out
  have HB := Lib.hid ((Below.refl w.heap.size w).alloc (Nat.le_refl _) (.cells #[.int .i64 dim, .int .i64 win, .int .i64 tr, .int .i64 sam, .int .i64 ev, .int .i64 kind, .int .i64 part, .int .i64 whole, .int .i64 tries, .int .i64 keep, .int .i64 notes] 88))
  have K1 := Lib.hid (fun W => ref20_Right dim win tr sam ev kind part whole tries keep notes W)
  by_cases hok : CfOk dim win tr sam ev kind part whole tries keep notes
  · rw [okB.1 hok] at K1 ⊢
    have hev : 1 ≤ ev ∧ ev ≤ 256 := by unfold CfOk at hok; omega
    have hsa : 2 ≤ sam ∧ sam ≤ 64 := by unfold CfOk at hok; omega
    have htr : 1 ≤ tr ∧ tr ≤ 16 := by unfold CfOk at hok; omega
    have KT := Lib.hid (fun W => ref20_Turn dim win tr sam ev kind part whole tries keep notes n W hev hsa hn)
    clear hok
    by_cases h3 : (b.length : Int) ≤ tr
    · have h3' : ¬ tr < (b.length : Int) := by omega
      by_cases h2 : turnP sam ev n
      · rw [due_ok ⟨h2, h3⟩]
        rw [decide_eq_true h2] at KT
        obtain ⟨T, rfl⟩ : ∃ T : Nat, tr = T := ⟨tr.toNat, by omega⟩
        have K2 := Lib.hid (fun W (h : Lies W W.heap.size A b) => ref20_place dim win sam ev kind part whole tries keep notes T A b c W.heap.size W h (Nat.le_refl _) (by omega) (by omega) hl)
        rw [show ((T : Nat) : Int).toNat = T from by omega]
        have HA := Lib.hid (fun W (h : Below w.heap.size w W) => (hA.below h).mono h.size)
        generalize placeV T b = P at *
        clear hA h2
        generalize b.length = N at *
        go_enter Try.func59, Try.ntmps59
        go_wp2_with fail
        refine (K1.out _).mono ?_
        rintro e w1 ⟨rfl, b1⟩
        have HX1 := Lib.hid (HX.out.below b1 HX.out.lt)
        have HB1 := Lib.hid (HB.out.trans (b1.mono HB.out.size))
        clear b1 y0 y1 y2 y3 y4 y5 y6 y7 y8 y9 y10 HX HB K1
        obtain ⟨y0, y1, y2, y3, y4, y5, y6, y7, y8, y9, y10⟩ := box11 HX1.out
        go_wp2_with fail
        refine (KT.out _).mono ?_
        rintro e w2 ⟨rfl, b2⟩
        have HX2 := Lib.hid (HX1.out.below b2 HX1.out.lt)
        have HB2 := Lib.hid (HB1.out.trans (b2.mono HB1.out.size))
        clear b2 y0 y1 y2 y3 y4 y5 y6 y7 y8 y9 y10
        obtain ⟨y0, y1, y2, y3, y4, y5, y6, y7, y8, y9, y10⟩ := box11 HX2.out
        go_wp2_with fail
        refine (K2.out _ (HA.out _ HB2.out)).mono ?_
        rintro e w3 ⟨rfl, b3⟩
        have HB3 := Lib.hid (HB2.out.trans (b3.mono HB2.out.size))
        clear b3 y0 y1 y2 y3 y4 y5 y6 y7 y8 y9 y10
        go_wp2
        go_ret2
        exact ⟨rfl, HB3.out⟩
      · rw [due_bad (fun h => h2 h.1)]
        rw [decide_eq_false h2] at KT
        clear hA h2
        generalize b.length = N at *
        go_enter Try.func59, Try.ntmps59
        go_wp2_with fail
        refine (K1.out _).mono ?_
        rintro e w1 ⟨rfl, b1⟩
        have HX1 := Lib.hid (HX.out.below b1 HX.out.lt)
        have HB1 := Lib.hid (HB.out.trans (b1.mono HB.out.size))
        clear b1 y0 y1 y2 y3 y4 y5 y6 y7 y8 y9 y10 HX HB K1
        obtain ⟨y0, y1, y2, y3, y4, y5, y6, y7, y8, y9, y10⟩ := box11 HX1.out
        go_wp2_with fail
        refine (KT.out _).mono ?_
        rintro e w2 ⟨rfl, b2⟩
        have HB2 := Lib.hid (HB1.out.trans (b2.mono HB1.out.size))
        clear b2 y0 y1 y2 y3 y4 y5 y6 y7 y8 y9 y10
        go_wp2
        go_ret2
        exact ⟨rfl, HB2.out⟩
    · rw [due_bad (fun h => h3 h.2)]
      have h3' : tr < (b.length : Int) := by omega
      clear hA h3
      generalize b.length = N at *
      go_enter Try.func59, Try.ntmps59
      go_wp2_with fail
      refine (K1.out _).mono ?_
      rintro e w1 ⟨rfl, b1⟩
      have HX1 := Lib.hid (HX.out.below b1 HX.out.lt)
      have HB1 := Lib.hid (HB.out.trans (b1.mono HB.out.size))
      clear b1 y0 y1 y2 y3 y4 y5 y6 y7 y8 y9 y10 HX HB K1
      obtain ⟨y0, y1, y2, y3, y4, y5, y6, y7, y8, y9, y10⟩ := box11 HX1.out
      go_wp2
      go_ret2
      exact ⟨rfl, HB1.out⟩
  · rw [okB.2 hok] at K1 ⊢
    rw [due_no]
    clear hok hA
    generalize b.length = N at *
    go_enter Try.func59, Try.ntmps59
    go_wp2_with fail
    refine (K1.out _).mono ?_
    rintro e w1 ⟨rfl, b1⟩
    have HX1 := Lib.hid (HX.out.below b1 HX.out.lt)
    have HB1 := Lib.hid (HB.out.trans (b1.mono HB.out.size))
    clear b1 y0 y1 y2 y3 y4 y5 y6 y7 y8 y9 y10 HX HB K1
    obtain ⟨y0, y1, y2, y3, y4, y5, y6, y7, y8, y9, y10⟩ := box11 HX1.out
    go_wp2
    go_ret2
    exact ⟨rfl, HB1.out⟩
end Go.Proofs.Ytmfgegebnjpanaa
