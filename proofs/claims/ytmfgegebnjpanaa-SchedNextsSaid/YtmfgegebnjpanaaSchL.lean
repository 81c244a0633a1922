/- Layer 20 (sched): Plan for all that is asked, of the code and of the reference. -/
import Derived.Test.YtmfgegebnjpanaaSchK
namespace Go.Proofs.Ytmfgegebnjpanaa
open Go.RowKit
set_option linter.unusedVariables false
set_option linter.unusedSimpArgs false

def plOk (tr n : Int) (b : List Int) (t : Int) : Prop := inC n ∧ fitB tr.toNat n b ∧ 0 ≤ t ∧ t ≤ 64
instance (tr n : Int) (b : List Int) (t : Int) : Decidable (plOk tr n b t) := by unfold plOk; infer_instance
def plE (q : Bool) (tr n : Int) (b : List Int) (t : Int) : Int := if q = true then (if plOk tr n b t then 0 else 1) else 200
def plIL (q : Bool) (tr sam ev n : Int) (b : List Int) (t : Int) : List Int := if q = true ∧ plOk tr n b t then plI tr.toNat ev (nextV sam ev n) b t.toNat else []
def plBL (q : Bool) (tr sam ev n : Int) (b : List Int) (t : Int) : List Int := if q = true ∧ plOk tr n b t then plB tr.toNat ev (nextV sam ev n) b t.toNat else []
def GivesP20 (q : Bool) (tr sam ev n : Int) (b : List Int) (t : Int) (w : World) (e : Ending) (w' : World) : Prop := GivesPl (plIL q tr sam ev n b t) (plBL q tr sam ev n b t) (plE q tr n b t) w e w'
theorem gp_no {tr sam ev n : Int} {b : List Int} {t : Int} {w w' : World} {e : Ending} (h : GivesPl [] [] 200 w e w') : GivesP20 false tr sam ev n b t w e w' := h
theorem gp_bad {tr sam ev n : Int} {b : List Int} {t : Int} {w w' : World} {e : Ending} (hb : ¬ plOk tr n b t) (h : GivesPl [] [] 1 w e w') : GivesP20 true tr sam ev n b t w e w' := by
  unfold GivesP20 plIL plBL plE
  rw [if_neg (fun hh => hb hh.2), if_neg (fun hh => hb hh.2), if_pos rfl, if_neg hb]
  exact h
theorem gp_ok {T : Nat} {sam ev n : Int} {b : List Int} {t : Nat} {w w' : World} {e : Ending} (hb : plOk (T : Int) n b (t : Int)) (h : GivesPl (plI T ev (nextV sam ev n) b t) (plB T ev (nextV sam ev n) b t) 0 w e w') : GivesP20 true (T : Int) sam ev n b (t : Int) w e w' := by
  unfold GivesP20 plIL plBL plE
  rw [if_pos ⟨rfl, hb⟩, if_pos ⟨rfl, hb⟩, if_pos rfl, if_pos hb, show ((T : Nat) : Int).toNat = T from by omega, show ((t : Nat) : Int).toNat = t from by omega]
  exact h
set_option maxRecDepth 100000 in
set_option maxHeartbeats 8000000 in
theorem sch_Plan (dim win tr sam ev kind part whole tries keep notes : Int) (hwh : I64 whole) (n : Int) (b : List Int) (t : Int) (A : Option Addr) (c : Nat) (w : World) (hA : Lies w w.heap.size A b) (hl : b.length ≤ 1000000) :
    Calls Try.prog 66 #[cfV dim win tr sam ev kind part whole tries keep notes, .int .i64 n, .slice A b.length c, .int .i64 t] w (GivesP20 (decide (CfOk dim win tr sam ev kind part whole tries keep notes)) tr sam ev n b t w) := by
  by_cases hgood : CfOk dim win tr sam ev kind part whole tries keep notes ∧ plOk tr n b t
  · obtain ⟨hok, hp⟩ := hgood
    have htr : 1 ≤ tr ∧ tr ≤ 16 := by unfold CfOk at hok; omega
    obtain ⟨T, rfl⟩ : ∃ T : Nat, tr = T := ⟨tr.toNat, by omega⟩
    obtain ⟨u, rfl⟩ : ∃ u : Nat, t = u := ⟨t.toNat, by have := hp.2.2.1; omega⟩
    rw [okB.1 hok]
    have hf : fitB T n b := by have := hp.2.1; rwa [show ((T : Nat) : Int).toNat = T from by omega] at this
    exact (sch_Plan_ok dim win sam ev kind part whole tries keep notes T n b u A c w hwh hok hp.1 hf (by have := hp.2.2.2; omega) hA).mono fun e w' h => gp_ok hp h
  have HX := Lib.hid (Box.new w #[.int .i64 dim, .int .i64 win, .int .i64 tr, .int .i64 sam, .int .i64 ev, .int .i64 kind, .int .i64 part, .int .i64 whole, .int .i64 tries, .int .i64 keep, .int .i64 notes] 88)
  obtain ⟨y0, y1, y2, y3, y4, y5, y6, y7, y8, y9, y10⟩ := box11 HX.out
  have HB := Lib.hid ((Below.refl w.heap.size w).alloc (Nat.le_refl _) (.cells #[.int .i64 dim, .int .i64 win, .int .i64 tr, .int .i64 sam, .int .i64 ev, .int .i64 kind, .int .i64 part, .int .i64 whole, .int .i64 tries, .int .i64 keep, .int .i64 notes] 88))
  have K1 := Lib.hid (fun g W hg => check20_one dim win tr sam ev kind part whole tries keep notes hwh n g W hg)
  by_cases hok : CfOk dim win tr sam ev kind part whole tries keep notes
  · have hbad : ¬ plOk tr n b t := fun h => hgood ⟨hok, h⟩
    rw [okB.1 hok] at K1 ⊢
    refine Calls.mono ?_ (fun e w' h => gp_bad hbad h)
    have htr : 1 ≤ tr ∧ tr ≤ 16 := by unfold CfOk at hok; omega
    by_cases hn : inC n
    · rw [(ck_one n).1 hn] at K1
      obtain ⟨T, rfl⟩ : ∃ T : Nat, tr = T := ⟨tr.toNat, by omega⟩
      have HA := Lib.hid (fun W (h : Below w.heap.size w W) => (hA.below h).mono h.size)
      have K2 := Lib.hid (fun W (h : Lies W W.heap.size A b) => sch_fits dim win sam ev kind part whole tries keep notes T n A b c W h (by omega) (by omega))
      by_cases hf : fitB T n b
      · rw [decide_eq_true hf] at K2
        have ht : t < 0 ∨ 64 < t := by
          rcases Int.lt_or_le t 0 with h | h
          · exact .inl h
          · rcases Int.lt_or_le 64 t with h2 | h2
            · exact .inr h2
            · exact absurd ⟨hn, (by rw [show ((T : Nat) : Int).toNat = T from by omega]; exact hf), h, h2⟩ hbad
        clear hgood hbad hok hwh hf hA hn
        generalize b.length = N at *
        rcases ht with ht | ht
        · go_enter Try.func66, Try.ntmps66
          go_wp2_with fail
          refine (K1.out _ _ (by simp)).mono ?_
          rintro e w1 ⟨rfl, b1⟩
          have HX1 := Lib.hid (HX.out.below b1 HX.out.lt)
          have HB1 := Lib.hid (HB.out.trans (b1.mono HB.out.size))
          clear b1 y0 y1 y2 y3 y4 y5 y6 y7 y8 y9 y10 HX HB
          obtain ⟨y0, y1, y2, y3, y4, y5, y6, y7, y8, y9, y10⟩ := box11 HX1.out
          go_wp2_with fail
          refine (K2.out _ (HA.out _ HB1.out)).mono ?_
          rintro e w2 ⟨rfl, b2⟩
          have HB2 := Lib.hid (HB1.out.trans (b2.mono HB1.out.size))
          clear b2 y0 y1 y2 y3 y4 y5 y6 y7 y8 y9 y10
          go_wp2
          go_ret3
          exact givesPl_nil HB2.out
        · have ht2 : ¬ t < 0 := by omega
          go_enter Try.func66, Try.ntmps66
          go_wp2_with fail
          refine (K1.out _ _ (by simp)).mono ?_
          rintro e w1 ⟨rfl, b1⟩
          have HX1 := Lib.hid (HX.out.below b1 HX.out.lt)
          have HB1 := Lib.hid (HB.out.trans (b1.mono HB.out.size))
          clear b1 y0 y1 y2 y3 y4 y5 y6 y7 y8 y9 y10 HX HB
          obtain ⟨y0, y1, y2, y3, y4, y5, y6, y7, y8, y9, y10⟩ := box11 HX1.out
          go_wp2_with fail
          refine (K2.out _ (HA.out _ HB1.out)).mono ?_
          rintro e w2 ⟨rfl, b2⟩
          have HB2 := Lib.hid (HB1.out.trans (b2.mono HB1.out.size))
          clear b2 y0 y1 y2 y3 y4 y5 y6 y7 y8 y9 y10
          go_wp2
          go_ret3
          exact givesPl_nil HB2.out
      · rw [decide_eq_false hf] at K2
        clear hgood hbad hok hwh hf hA hn
        generalize b.length = N at *
        go_enter Try.func66, Try.ntmps66
        go_wp2_with fail
        refine (K1.out _ _ (by simp)).mono ?_
        rintro e w1 ⟨rfl, b1⟩
        have HX1 := Lib.hid (HX.out.below b1 HX.out.lt)
        have HB1 := Lib.hid (HB.out.trans (b1.mono HB.out.size))
        clear b1 y0 y1 y2 y3 y4 y5 y6 y7 y8 y9 y10 HX HB
        obtain ⟨y0, y1, y2, y3, y4, y5, y6, y7, y8, y9, y10⟩ := box11 HX1.out
        go_wp2_with fail
        refine (K2.out _ (HA.out _ HB1.out)).mono ?_
        rintro e w2 ⟨rfl, b2⟩
        have HB2 := Lib.hid (HB1.out.trans (b2.mono HB1.out.size))
        clear b2 y0 y1 y2 y3 y4 y5 y6 y7 y8 y9 y10
        go_wp2
        go_ret3
        exact givesPl_nil HB2.out
    · rw [(ck_one n).2 hn] at K1
      clear hgood hbad hok hwh hA hn
      generalize b.length = N at *
      go_enter Try.func66, Try.ntmps66
      go_wp2_with fail
      refine (K1.out _ _ (by simp)).mono ?_
      rintro e w1 ⟨rfl, b1⟩
      have HX1 := Lib.hid (HX.out.below b1 HX.out.lt)
      have HB1 := Lib.hid (HB.out.trans (b1.mono HB.out.size))
      clear b1 y0 y1 y2 y3 y4 y5 y6 y7 y8 y9 y10 HX HB
      obtain ⟨y0, y1, y2, y3, y4, y5, y6, y7, y8, y9, y10⟩ := box11 HX1.out
      go_wp2
      go_ret3
      exact givesPl_nil HB1.out
  · rw [okB.2 hok] at K1 ⊢
    rw [ckN_no] at K1
    refine Calls.mono ?_ (fun e w' h => gp_no h)
    clear hgood hok hwh hA
    generalize b.length = N at *
    go_enter Try.func66, Try.ntmps66
    go_wp2_with fail
    refine (K1.out _ _ (by simp)).mono ?_
    rintro e w1 ⟨rfl, b1⟩
    have HX1 := Lib.hid (HX.out.below b1 HX.out.lt)
    have HB1 := Lib.hid (HB.out.trans (b1.mono HB.out.size))
    clear b1 y0 y1 y2 y3 y4 y5 y6 y7 y8 y9 y10 HX HB
    obtain ⟨y0, y1, y2, y3, y4, y5, y6, y7, y8, y9, y10⟩ := box11 HX1.out
    go_wp2
    go_ret3
    exact givesPl_nil HB1.out
set_option maxRecDepth 100000 in
set_option maxHeartbeats 8000000 in
theorem ref20_Plan (dim win tr sam ev kind part whole tries keep notes : Int) (n : Int) (b : List Int) (t : Int) (A : Option Addr) (c : Nat) (w : World) (hA : Lies w w.heap.size A b) (hl : b.length ≤ 1000000) :
    Calls Try.prog 67 #[cfV dim win tr sam ev kind part whole tries keep notes, .int .i64 n, .slice A b.length c, .int .i64 t] w (GivesP20 (decide (CfOk dim win tr sam ev kind part whole tries keep notes)) tr sam ev n b t w) := by
  by_cases hgood : CfOk dim win tr sam ev kind part whole tries keep notes ∧ plOk tr n b t
  · obtain ⟨hok, hp⟩ := hgood
    have htr : 1 ≤ tr ∧ tr ≤ 16 := by unfold CfOk at hok; omega
    obtain ⟨T, rfl⟩ : ∃ T : Nat, tr = T := ⟨tr.toNat, by omega⟩
    obtain ⟨u, rfl⟩ : ∃ u : Nat, t = u := ⟨t.toNat, by have := hp.2.2.1; omega⟩
    rw [okB.1 hok]
    have hf : fitB T n b := by have := hp.2.1; rwa [show ((T : Nat) : Int).toNat = T from by omega] at this
    exact (ref20_Plan_ok dim win sam ev kind part whole tries keep notes T n b u A c w hok hp.1 hf (by have := hp.2.2.2; omega) hA).mono fun e w' h => gp_ok hp h
  have HX := Lib.hid (Box.new w #[.int .i64 dim, .int .i64 win, .int .i64 tr, .int .i64 sam, .int .i64 ev, .int .i64 kind, .int .i64 part, .int .i64 whole, .int .i64 tries, .int .i64 keep, .int .i64 notes] 88)
  obtain ⟨y0, y1, y2, y3, y4, y5, y6, y7, y8, y9, y10⟩ := box11 HX.out
  have HB := Lib.hid ((Below.refl w.heap.size w).alloc (Nat.le_refl _) (.cells #[.int .i64 dim, .int .i64 win, .int .i64 tr, .int .i64 sam, .int .i64 ev, .int .i64 kind, .int .i64 part, .int .i64 whole, .int .i64 tries, .int .i64 keep, .int .i64 notes] 88))
  have K1 := Lib.hid (fun W => ref20_Right dim win tr sam ev kind part whole tries keep notes W)
  have KN := Lib.hid (fun W => ref20_in n 0 1099511627776 W)
  have KT := Lib.hid (fun W => ref20_in t 0 64 W)
  by_cases hok : CfOk dim win tr sam ev kind part whole tries keep notes
  · have hbad : ¬ plOk tr n b t := fun h => hgood ⟨hok, h⟩
    rw [okB.1 hok] at K1 ⊢
    refine Calls.mono ?_ (fun e w' h => gp_bad hbad h)
    have htr : 1 ≤ tr ∧ tr ≤ 16 := by unfold CfOk at hok; omega
    by_cases hn : inC n
    · rw [show decide (0 ≤ n ∧ n ≤ 1099511627776) = true from decide_eq_true hn] at KN
      by_cases hlt : tr < (b.length : Int)
      · clear hgood hbad hok hA hn KT
        generalize b.length = N at *
        go_enter Try.func67, Try.ntmps67
        go_wp2_with fail
        refine (K1.out _).mono ?_
        rintro e w1 ⟨rfl, b1⟩
        have HX1 := Lib.hid (HX.out.below b1 HX.out.lt)
        have HB1 := Lib.hid (HB.out.trans (b1.mono HB.out.size))
        clear b1 y0 y1 y2 y3 y4 y5 y6 y7 y8 y9 y10 HX HB
        obtain ⟨y0, y1, y2, y3, y4, y5, y6, y7, y8, y9, y10⟩ := box11 HX1.out
        go_wp2_with fail
        refine (KN.out _).mono ?_
        rintro e w2 ⟨rfl, rfl⟩
        go_wp2
        go_ret3
        exact givesPl_nil HB1.out
      · have hlt' : ¬ tr < (b.length : Int) := hlt
        by_cases ht : 0 ≤ t ∧ t ≤ 64
        · rw [decide_eq_true ht] at KT
          have hnf : ¬ ∀ j, j < b.length → 0 ≤ b.getD j 0 ∧ b.getD j 0 ≤ n := by
            intro h
            refine hbad ⟨hn, ⟨by omega, fun x hx => ?_⟩, ht.1, ht.2⟩
            obtain ⟨j, hj, rfl⟩ := List.mem_iff_getElem.1 hx
            have := h j hj
            rwa [List.getD_eq_getElem?_getD, List.getElem?_eq_getElem hj] at this
          have HC : Hid (0 < b.length → ∃ ad : Addr, A = some ad ∧ ∀ wr, Below w.heap.size w wr → ∀ j, j < b.length → wr.cell? (ad.add j) = some (.int .i64 (b.getD j 0))) := by
            intro h0
            obtain ⟨ad, rfl, hadb, hc⟩ := hA h0
            exact ⟨ad, rfl, fun wr hb j hj => (hb.cell (by rw [add_block]; omega)).trans (hc j hj)⟩
          have HNF := Lib.hid hnf
          obtain ⟨T, rfl⟩ : ∃ T : Nat, tr = T := ⟨tr.toNat, by omega⟩
          clear hgood hbad hok hA hn hnf ht
          generalize b.length = N at *
          have hltd : decide (T < N) = false := decide_eq_false (by omega)
          go_enter Try.func67, Try.ntmps67
          go_wp2_with fail
          refine (K1.out _).mono ?_
          rintro e w1 ⟨rfl, b1⟩
          have HX1 := Lib.hid (HX.out.below b1 HX.out.lt)
          have HB1 := Lib.hid (HB.out.trans (b1.mono HB.out.size))
          clear b1 y0 y1 y2 y3 y4 y5 y6 y7 y8 y9 y10 HX HB
          obtain ⟨y0, y1, y2, y3, y4, y5, y6, y7, y8, y9, y10⟩ := box11 HX1.out
          go_wp2_with fail
          refine (KN.out _).mono ?_
          rintro e w2 ⟨rfl, rfl⟩
          go_wp2_with fail
          refine (KT.out _).mono ?_
          rintro e w2 ⟨rfl, rfl⟩
          go_wp2
          go_loop [11] (fun i => ∃ k : Nat, k ≤ N ∧ i = .int .i64 k ∧ Hid (∀ j, j < k → 0 ≤ b.getD j 0 ∧ b.getD j 0 ≤ n)) (fun i => N - (intOf i).toNat)
          case atStart => exact ⟨0, by omega, rfl, fun j hj => absurd hj (by omega)⟩
          case round =>
            obtain ⟨k, hk, rfl, HJ⟩ := hrel
            by_cases hlt2 : k < N
            · have hki : (k : Int) < (N : Int) := by omega
              obtain ⟨ad, rfl, hc⟩ := HC.out (by omega)
              have c1 := hc _ HB1.out k hlt2
              have KB := Lib.hid (fun W => ref20_in (b.getD k 0) 0 n W)
              by_cases hg : 0 ≤ b.getD k 0 ∧ b.getD k 0 ≤ n
              · rw [decide_eq_true hg] at KB
                have HJ' : Hid (∀ j, j < k + 1 → 0 ≤ b.getD j 0 ∧ b.getD j 0 ≤ n) := by
                  intro j hj
                  rcases Nat.lt_succ_iff_lt_or_eq.1 hj with h' | rfl
                  · exact HJ.out j h'
                  · exact hg
                clear hc HC HNF HJ hg
                generalize b.getD k 0 = x at *
                go_wp2_with fail
                refine (KB.out _).mono ?_
                rintro e w2 ⟨rfl, rfl⟩
                go_wp2
                exact ⟨⟨k + 1, by omega, by go_num, HJ'⟩, by simp [intOf]; omega⟩
              · rw [decide_eq_false hg] at KB
                clear hc HC HNF HJ hg
                generalize b.getD k 0 = x at *
                go_wp2_with fail
                refine (KB.out _).mono ?_
                rintro e w2 ⟨rfl, rfl⟩
                go_wp2
                go_ret3
                exact givesPl_nil HB1.out
            · obtain rfl : k = N := by omega
              exact absurd HJ.out HNF.out
        · rw [decide_eq_false ht] at KT
          clear hgood hbad hok hA hn ht
          generalize b.length = N at *
          go_enter Try.func67, Try.ntmps67
          go_wp2_with fail
          refine (K1.out _).mono ?_
          rintro e w1 ⟨rfl, b1⟩
          have HX1 := Lib.hid (HX.out.below b1 HX.out.lt)
          have HB1 := Lib.hid (HB.out.trans (b1.mono HB.out.size))
          clear b1 y0 y1 y2 y3 y4 y5 y6 y7 y8 y9 y10 HX HB
          obtain ⟨y0, y1, y2, y3, y4, y5, y6, y7, y8, y9, y10⟩ := box11 HX1.out
          go_wp2_with fail
          refine (KN.out _).mono ?_
          rintro e w2 ⟨rfl, rfl⟩
          go_wp2_with fail
          refine (KT.out _).mono ?_
          rintro e w2 ⟨rfl, rfl⟩
          go_wp2
          go_ret3
          exact givesPl_nil HB1.out
    · rw [show decide (0 ≤ n ∧ n ≤ 1099511627776) = false from decide_eq_false hn] at KN
      clear hgood hbad hok hA hn KT
      generalize b.length = N at *
      go_enter Try.func67, Try.ntmps67
      go_wp2_with fail
      refine (K1.out _).mono ?_
      rintro e w1 ⟨rfl, b1⟩
      have HX1 := Lib.hid (HX.out.below b1 HX.out.lt)
      have HB1 := Lib.hid (HB.out.trans (b1.mono HB.out.size))
      clear b1 y0 y1 y2 y3 y4 y5 y6 y7 y8 y9 y10 HX HB
      obtain ⟨y0, y1, y2, y3, y4, y5, y6, y7, y8, y9, y10⟩ := box11 HX1.out
      go_wp2_with fail
      refine (KN.out _).mono ?_
      rintro e w2 ⟨rfl, rfl⟩
      go_wp2
      go_ret3
      exact givesPl_nil HB1.out
  · rw [okB.2 hok] at K1 ⊢
    refine Calls.mono ?_ (fun e w' h => gp_no h)
    clear hgood hok hA KN KT
    generalize b.length = N at *
    go_enter Try.func67, Try.ntmps67
    go_wp2_with fail
    refine (K1.out _).mono ?_
    rintro e w1 ⟨rfl, b1⟩
    have HX1 := Lib.hid (HX.out.below b1 HX.out.lt)
    have HB1 := Lib.hid (HB.out.trans (b1.mono HB.out.size))
    clear b1 y0 y1 y2 y3 y4 y5 y6 y7 y8 y9 y10 HX HB
    obtain ⟨y0, y1, y2, y3, y4, y5, y6, y7, y8, y9, y10⟩ := box11 HX1.out
    go_wp2
    go_ret3
    exact givesPl_nil HB1.out
end Go.Proofs.Ytmfgegebnjpanaa
