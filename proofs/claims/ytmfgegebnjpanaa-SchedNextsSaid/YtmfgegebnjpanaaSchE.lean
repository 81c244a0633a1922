/- Layer 20 (sched): Next and Turns, of the code and of the reference. -/
import Derived.Test.YtmfgegebnjpanaaSchD
namespace Go.Proofs.Ytmfgegebnjpanaa
open Go.RowKit
set_option linter.unusedVariables false
set_option linter.unusedSimpArgs false

def inC (x : Int) : Prop := 0 ≤ x ∧ x ≤ 1099511627776
instance (x : Int) : Decidable (inC x) := by unfold inC; infer_instance
def ckN (q : Bool) (l : List Int) : Int := if q = true then (if ∀ x ∈ l, inC x then 0 else 1) else 200
theorem ckN_no (l : List Int) : ckN false l = 200 := rfl
theorem ckN_bad {l : List Int} {k : Nat} (hk : k < l.length) (h : ¬ inC (l.getD k 0)) : ckN true l = 1 := by
  unfold ckN
  rw [if_pos rfl, if_neg fun hh => h (hh _ (by rw [List.getD_eq_getElem?_getD, List.getElem?_eq_getElem hk]; exact List.getElem_mem _))]
theorem ckN_ok {l : List Int} (h : ∀ j, j < l.length → inC (l.getD j 0)) : ckN true l = 0 := by
  unfold ckN
  rw [if_pos rfl, if_pos]
  intro x hx
  obtain ⟨j, hj, rfl⟩ := List.mem_iff_getElem.1 hx
  have := h j hj
  rwa [List.getD_eq_getElem?_getD, List.getElem?_eq_getElem hj] at this
def nxN (q : Bool) (sam ev n : Int) : Int := if q = true ∧ inC n then nextV sam ev n else 0
def nxE (q : Bool) (n : Int) : Int := if q = true then (if inC n then 0 else 1) else 200
abbrev nxV (q : Bool) (sam ev n : Int) : Value := .tuple #[.int .i64 (nxN q sam ev n), .int .i64 (nxE q n)]
def tuN (q : Bool) (sam ev a b : Int) : Int := if q = true ∧ inC a ∧ inC b then turnsV sam ev a b else 0
def tuE (q : Bool) (a b : Int) : Int := if q = true then (if inC a ∧ inC b then 0 else 1) else 200
abbrev tuV (q : Bool) (sam ev a b : Int) : Value := .tuple #[.int .i64 (tuN q sam ev a b), .int .i64 (tuE q a b)]
theorem nx_no {sam ev n : Int} : nxN false sam ev n = 0 ∧ nxE false n = 200 := ⟨rfl, rfl⟩
theorem nx_bad {sam ev n : Int} (h : ¬ inC n) : nxN true sam ev n = 0 ∧ nxE true n = 1 := by unfold nxN nxE; rw [if_neg (fun hh => h hh.2), if_pos rfl, if_neg h]; exact ⟨rfl, rfl⟩
theorem nx_ok {sam ev n : Int} (h : inC n) : nxN true sam ev n = nextV sam ev n ∧ nxE true n = 0 := by unfold nxN nxE; rw [if_pos ⟨rfl, h⟩, if_pos rfl, if_pos h]; exact ⟨rfl, rfl⟩
theorem tu_no {sam ev a b : Int} : tuN false sam ev a b = 0 ∧ tuE false a b = 200 := ⟨rfl, rfl⟩
theorem tu_bad {sam ev a b : Int} (h : ¬ (inC a ∧ inC b)) : tuN true sam ev a b = 0 ∧ tuE true a b = 1 := by unfold tuN tuE; rw [if_neg (fun hh => h hh.2), if_pos rfl, if_neg h]; exact ⟨rfl, rfl⟩
theorem tu_ok {sam ev a b : Int} (h : inC a ∧ inC b) : tuN true sam ev a b = turnsV sam ev a b ∧ tuE true a b = 0 := by unfold tuN tuE; rw [if_pos ⟨rfl, h⟩, if_pos rfl, if_pos h]; exact ⟨rfl, rfl⟩
theorem okB {dim win tr sam ev kind part whole tries keep notes : Int} : (CfOk dim win tr sam ev kind part whole tries keep notes → decide (CfOk dim win tr sam ev kind part whole tries keep notes) = true) ∧ (¬ CfOk dim win tr sam ev kind part whole tries keep notes → decide (CfOk dim win tr sam ev kind part whole tries keep notes) = false) := ⟨fun h => decide_eq_true h, fun h => decide_eq_false h⟩
set_option maxRecDepth 100000 in
set_option maxHeartbeats 4000000 in
theorem sch_check (dim win tr sam ev kind part whole tries keep notes : Int) (hwh : I64 whole) (A : Option Addr) (l : List Int) (c : Nat) (w : World) (hA : Lies w w.heap.size A l) (hl : l.length ≤ 1000) :
    Calls Try.prog 106 #[cfV dim win tr sam ev kind part whole tries keep notes, .slice A l.length c] w fun e w' => e = .returned (.int .i64 (ckN (decide (CfOk dim win tr sam ev kind part whole tries keep notes)) l)) ∧ Below w.heap.size w w' := by
  have HX := Lib.hid (Box.new w #[.int .i64 dim, .int .i64 win, .int .i64 tr, .int .i64 sam, .int .i64 ev, .int .i64 kind, .int .i64 part, .int .i64 whole, .int .i64 tries, .int .i64 keep, .int .i64 notes] 88)
  obtain ⟨y0, y1, y2, y3, y4, y5, y6, y7, y8, y9, y10⟩ := box11 HX.out
  have HB := Lib.hid ((Below.refl w.heap.size w).alloc (Nat.le_refl _) (.cells #[.int .i64 dim, .int .i64 win, .int .i64 tr, .int .i64 sam, .int .i64 ev, .int .i64 kind, .int .i64 part, .int .i64 whole, .int .i64 tries, .int .i64 keep, .int .i64 notes] 88))
  have K1 := Lib.hid (fun W => sch_Right dim win tr sam ev kind part whole tries keep notes hwh W)
  generalize decide (CfOk dim win tr sam ev kind part whole tries keep notes) = q at *
  cases q
  · rw [ckN_no]
    clear hA
    go_enter Try.func106, Try.ntmps106
    go_wp2_with fail
    refine (K1.out _).mono ?_
    rintro e w1 ⟨rfl, b1⟩
    have hb1 : Below w.heap.size w w1 := HB.out.trans (b1.mono HB.out.size)
    clear b1
    go_wp2
    go_ret
    exact ⟨rfl, hb1⟩
  · have HC : Hid (0 < l.length → ∃ ad : Addr, A = some ad ∧ ∀ wr, Below w.heap.size w wr → ∀ j, j < l.length → wr.cell? (ad.add j) = some (.int .i64 (l.getD j 0))) := by
      intro h0
      obtain ⟨ad, rfl, hadb, hc⟩ := hA h0
      exact ⟨ad, rfl, fun wr hb j hj => (hb.cell (by rw [add_block]; omega)).trans (hc j hj)⟩
    have HBAD := Lib.hid (fun k (hk : k < l.length) h => ckN_bad (l := l) (k := k) hk h)
    have HOK := Lib.hid (fun h => ckN_ok (l := l) h)
    clear hA
    generalize ckN true l = r at *
    generalize hN : l.length = N at *
    clear hN
    go_enter Try.func106, Try.ntmps106
    go_wp2_with fail
    refine (K1.out _).mono ?_
    rintro e w1 ⟨rfl, b1⟩
    have hb1 : Below w.heap.size w w1 := HB.out.trans (b1.mono HB.out.size)
    clear b1 y0 y1 y2 y3 y4 y5 y6 y7 y8 y9 y10 HX HB K1
    go_wp2
    go_loop [12] (fun i => ∃ k : Nat, k ≤ N ∧ i = .int .i64 k ∧ Hid (∀ j, j < k → inC (l.getD j 0))) (fun i => N - (intOf i).toNat)
    case atStart => exact ⟨0, by omega, rfl, fun j hj => absurd hj (by omega)⟩
    case round =>
      obtain ⟨k, hk, rfl, HJ⟩ := hrel
      by_cases hlt : k < N
      · have hki : (k : Int) < (N : Int) := by omega
        obtain ⟨ad, rfl, hc⟩ := HC.out (by omega)
        have c1 := hc _ hb1 k hlt
        have HB1 := Lib.hid (HBAD.out k hlt)
        have HJ' : Hid (inC (l.getD k 0) → ∀ j, j < k + 1 → inC (l.getD j 0)) := by
          intro h j hj
          rcases Nat.lt_succ_iff_lt_or_eq.1 hj with h' | rfl
          · exact HJ.out j h'
          · exact h
        clear hc HC HBAD HOK HJ
        generalize l.getD k 0 = x at *
        by_cases h0 : x < 0
        · have hr := Lib.hid (HB1.out (by unfold inC; omega))
          go_wp2
          go_ret
          exact ⟨by rw [hr.out]; rfl, hb1⟩
        · by_cases h1 : 1099511627776 < x
          · have hr := Lib.hid (HB1.out (by unfold inC; omega))
            go_wp2
            go_ret
            exact ⟨by rw [hr.out]; rfl, hb1⟩
          · have HJ2 := Lib.hid (HJ'.out (by unfold inC; omega))
            clear HJ' HB1
            go_wp2
            exact ⟨⟨k + 1, by omega, by go_num, HJ2⟩, by simp [intOf]; omega⟩
      · obtain rfl : k = N := by omega
        have hr := Lib.hid (HOK.out HJ.out)
        clear HC HBAD HOK HJ
        go_wp2
        go_ret
        exact ⟨by rw [hr.out]; rfl, hb1⟩
theorem check20_one (dim win tr sam ev kind part whole tries keep notes : Int) (hwh : I64 whole) (n : Int) (g : Nat) (W : World) (hg : W.heap.size = g) : Calls Try.prog 106 #[cfV dim win tr sam ev kind part whole tries keep notes, .slice (some ⟨g, 0, none⟩) 1 1] (W.alloc (.cells #[.int .i64 n] 3)) fun e w' => e = .returned (.int .i64 (ckN (decide (CfOk dim win tr sam ev kind part whole tries keep notes)) [n])) ∧ Below W.heap.size W w' := by
  subst hg
  have h := sch_check dim win tr sam ev kind part whole tries keep notes hwh (some ⟨W.heap.size, 0, none⟩) [n] 1 (W.alloc (.cells ([n].map (Value.int .i64)).toArray 3)) ((lies_new W _).mono (by simp)) (by simp)
  refine Calls.mono h fun e w' h => ?_
  obtain ⟨he, hb⟩ := h
  exact ⟨he, ((Below.refl _ _).alloc (Nat.le_refl _) _).trans (hb.mono (by simp))⟩
theorem check20_two (dim win tr sam ev kind part whole tries keep notes : Int) (hwh : I64 whole) (n m : Int) (g : Nat) (W : World) (hg : W.heap.size = g) : Calls Try.prog 106 #[cfV dim win tr sam ev kind part whole tries keep notes, .slice (some ⟨g, 0, none⟩) 2 2] (W.alloc (.cells #[.int .i64 n, .int .i64 m] 3)) fun e w' => e = .returned (.int .i64 (ckN (decide (CfOk dim win tr sam ev kind part whole tries keep notes)) [n, m])) ∧ Below W.heap.size W w' := by
  subst hg
  have h := sch_check dim win tr sam ev kind part whole tries keep notes hwh (some ⟨W.heap.size, 0, none⟩) [n, m] 2 (W.alloc (.cells ([n, m].map (Value.int .i64)).toArray 3)) ((lies_new W _).mono (by simp)) (by simp)
  refine Calls.mono h fun e w' h => ?_
  obtain ⟨he, hb⟩ := h
  exact ⟨he, ((Below.refl _ _).alloc (Nat.le_refl _) _).trans (hb.mono (by simp))⟩
theorem ck_one (n : Int) : (inC n → ckN true [n] = 0) ∧ (¬ inC n → ckN true [n] = 1) :=
  ⟨fun h => ckN_ok fun j hj => by obtain rfl : j = 0 := by (simp at hj; omega)
                                  exact h, fun h => ckN_bad (k := 0) (by simp) h⟩
theorem ck_two (n m : Int) : (inC n ∧ inC m → ckN true [n, m] = 0) ∧ (¬ (inC n ∧ inC m) → ckN true [n, m] = 1) := by
  refine ⟨fun h => ckN_ok fun j hj => ?_, fun h => ?_⟩
  · have : j = 0 ∨ j = 1 := by simp at hj; omega
    rcases this with rfl | rfl
    · exact h.1
    · exact h.2
  · by_cases h1 : inC n
    · exact ckN_bad (k := 1) (by simp) fun h2 => h ⟨h1, h2⟩
    · exact ckN_bad (k := 0) (by simp) h1
set_option maxRecDepth 100000 in
set_option maxHeartbeats 4000000 in
theorem sch_Next (dim win tr sam ev kind part whole tries keep notes : Int) (hwh : I64 whole) (n : Int) (w : World) :
    Calls Try.prog 62 #[cfV dim win tr sam ev kind part whole tries keep notes, .int .i64 n] w fun e w' => e = .returned (nxV (decide (CfOk dim win tr sam ev kind part whole tries keep notes)) sam ev n) ∧ Below w.heap.size w w' := by
  have HX := Lib.hid (Box.new w #[.int .i64 dim, .int .i64 win, .int .i64 tr, .int .i64 sam, .int .i64 ev, .int .i64 kind, .int .i64 part, .int .i64 whole, .int .i64 tries, .int .i64 keep, .int .i64 notes] 88)
  obtain ⟨y0, y1, y2, y3, y4, y5, y6, y7, y8, y9, y10⟩ := box11 HX.out
  have HB := Lib.hid ((Below.refl w.heap.size w).alloc (Nat.le_refl _) (.cells #[.int .i64 dim, .int .i64 win, .int .i64 tr, .int .i64 sam, .int .i64 ev, .int .i64 kind, .int .i64 part, .int .i64 whole, .int .i64 tries, .int .i64 keep, .int .i64 notes] 88))
  have K1 := Lib.hid (fun g W hg => check20_one dim win tr sam ev kind part whole tries keep notes hwh n g W hg)
  by_cases hok : CfOk dim win tr sam ev kind part whole tries keep notes
  · rw [okB.1 hok] at K1 ⊢
    by_cases hn : inC n
    · rw [(ck_one n).1 hn] at K1
      unfold nxV
      rw [(nx_ok (sam := sam) (ev := ev) hn).1, (nx_ok (sam := sam) (ev := ev) hn).2]
      have K2 := Lib.hid (fun W => sch_next dim win tr sam ev kind part whole tries keep notes n W (by unfold CfOk at hok; omega) (by unfold CfOk at hok; omega) hn)
      clear hok hn hwh
      go_enter Try.func62, Try.ntmps62
      go_wp2_with fail
      refine (K1.out _ _ (by simp)).mono ?_
      rintro e w1 ⟨rfl, b1⟩
      have HX1 := Lib.hid (HX.out.below b1 HX.out.lt)
      have HB1 := Lib.hid (HB.out.trans (b1.mono HB.out.size))
      clear b1 y0 y1 y2 y3 y4 y5 y6 y7 y8 y9 y10 HX HB K1
      obtain ⟨y0, y1, y2, y3, y4, y5, y6, y7, y8, y9, y10⟩ := box11 HX1.out
      go_wp2_with fail
      refine (K2.out _).mono ?_
      rintro e w2 ⟨rfl, b2⟩
      have HB2 := Lib.hid (HB1.out.trans (b2.mono HB1.out.size))
      clear b2 y0 y1 y2 y3 y4 y5 y6 y7 y8 y9 y10
      go_wp2
      go_ret2
      exact ⟨rfl, HB2.out⟩
    · rw [(ck_one n).2 hn] at K1
      unfold nxV
      rw [(nx_bad (sam := sam) (ev := ev) hn).1, (nx_bad (sam := sam) (ev := ev) hn).2]
      clear hok hn hwh
      go_enter Try.func62, Try.ntmps62
      go_wp2_with fail
      refine (K1.out _ _ (by simp)).mono ?_
      rintro e w1 ⟨rfl, b1⟩
      have HB1 := Lib.hid (HB.out.trans (b1.mono HB.out.size))
      clear b1 y0 y1 y2 y3 y4 y5 y6 y7 y8 y9 y10 HX HB K1
      go_wp2
      go_ret2
      exact ⟨rfl, HB1.out⟩
  · rw [okB.2 hok] at K1 ⊢
    rw [ckN_no] at K1
    unfold nxV
    rw [(nx_no (sam := sam) (ev := ev) (n := n)).1, (nx_no (sam := sam) (ev := ev) (n := n)).2]
    clear hok hwh
    go_enter Try.func62, Try.ntmps62
    go_wp2_with fail
    refine (K1.out _ _ (by simp)).mono ?_
    rintro e w1 ⟨rfl, b1⟩
    have HB1 := Lib.hid (HB.out.trans (b1.mono HB.out.size))
    clear b1 y0 y1 y2 y3 y4 y5 y6 y7 y8 y9 y10 HX HB K1
    go_wp2
    go_ret2
    exact ⟨rfl, HB1.out⟩
set_option maxRecDepth 100000 in
set_option maxHeartbeats 4000000 in
theorem ref20_Next (dim win tr sam ev kind part whole tries keep notes : Int) (n : Int) (w : World) :
    Calls Try.prog 63 #[cfV dim win tr sam ev kind part whole tries keep notes, .int .i64 n] w fun e w' => e = .returned (nxV (decide (CfOk dim win tr sam ev kind part whole tries keep notes)) sam ev n) ∧ Below w.heap.size w w' := by
  have HX := Lib.hid (Box.new w #[.int .i64 dim, .int .i64 win, .int .i64 tr, .int .i64 sam, .int .i64 ev, .int .i64 kind, .int .i64 part, .int .i64 whole, .int .i64 tries, .int .i64 keep, .int .i64 notes] 88)
  obtain ⟨y0, y1, y2, y3, y4, y5, y6, y7, y8, y9, y10⟩ := box11 HX.out
  have HB := Lib.hid ((Below.refl w.heap.size w).alloc (Nat.le_refl _) (.cells #[.int .i64 dim, .int .i64 win, .int .i64 tr, .int .i64 sam, .int .i64 ev, .int .i64 kind, .int .i64 part, .int .i64 whole, .int .i64 tries, .int .i64 keep, .int .i64 notes] 88))
  have K1 := Lib.hid (fun W => ref20_Right dim win tr sam ev kind part whole tries keep notes W)
  by_cases hok : CfOk dim win tr sam ev kind part whole tries keep notes
  · rw [okB.1 hok] at K1 ⊢
    by_cases hn : inC n
    · unfold nxV
      rw [(nx_ok (sam := sam) (ev := ev) hn).1, (nx_ok (sam := sam) (ev := ev) hn).2]
      have hev : 1 ≤ ev ∧ ev ≤ 256 := by unfold CfOk at hok; omega
      have hsa : 2 ≤ sam ∧ sam ≤ 64 := by unfold CfOk at hok; omega
      have hdn : decide (0 ≤ n ∧ n ≤ 1099511627776) = true := decide_eq_true hn
      have K4 := Lib.hid (fun W => ref20_in n 0 1099511627776 W)
      rw [hdn] at K4
      clear hdn
      have hnb := next_bd (sam := sam) (n := n) hev.1
      unfold inC at hn
      obtain ⟨hn0, hn1⟩ := hn
      have K2 := Lib.hid (fun m W hm => ref20_Turn dim win tr sam ev kind part whole tries keep notes m W hev hsa hm)
      have HT := Lib.hid (next_turn (sam := sam) (n := n) hev.1)
      have HL := Lib.hid (fun m (h1 : n < m) h2 => next_least (sam := sam) hev.1 h1 h2)
      generalize nextV sam ev n = X at *
      clear hok
      go_enter Try.func63, Try.ntmps63
      go_wp2_with fail
      refine (K1.out _).mono ?_
      rintro e w1 ⟨rfl, b1⟩
      have HX1 := Lib.hid (HX.out.below b1 HX.out.lt)
      have HB1 := Lib.hid (HB.out.trans (b1.mono HB.out.size))
      clear b1 y0 y1 y2 y3 y4 y5 y6 y7 y8 y9 y10 HX HB K1
      go_wp2_with (go_at_call 105; refine (K4.out _).mono ?_; rintro e w1 ⟨rfl, rfl⟩)
      go_loopw [6] (fun i wr => ∃ m : Int, i = .int .i64 m ∧ n < m ∧ m ≤ X ∧ Hid (Box wr w.heap.size #[.int .i64 dim, .int .i64 win, .int .i64 tr, .int .i64 sam, .int .i64 ev, .int .i64 kind, .int .i64 part, .int .i64 whole, .int .i64 tries, .int .i64 keep, .int .i64 notes] 88) ∧ Hid (Below w.heap.size w wr)) (fun i _ => (X - intOf i).toNat)
      case atStart => exact ⟨n + 1, by go_num, by omega, by omega, HX1, HB1⟩
      case round =>
        obtain ⟨m, rfl, hm1, hm2, HX2, HB2⟩ := hrel
        clear HX1 HB1
        obtain ⟨y0, y1, y2, y3, y4, y5, y6, y7, y8, y9, y10⟩ := box11 HX2.out
        by_cases hlt : m < X
        · have hd := decide_eq_false (HL.out m hm1 hlt)
          have K3 := Lib.hid (fun W => K2.out m W (by unfold I64; omega))
          rw [hd] at K3
          clear hd HT HL K2
          go_wp2_with fail
          refine (K3.out _).mono ?_
          rintro e w3 ⟨rfl, b3⟩
          have HX3 := Lib.hid (HX2.out.below b3 HX2.out.lt)
          have HB3 := Lib.hid (HB2.out.trans (b3.mono HB2.out.size))
          clear b3 y0 y1 y2 y3 y4 y5 y6 y7 y8 y9 y10 HX2 HB2
          go_wp2
          exact ⟨⟨m + 1, by go_num, by omega, by omega, HX3, HB3⟩, by simp [intOf]; omega⟩
        · obtain rfl : m = X := by omega
          have hd := decide_eq_true HT.out
          have K3 := Lib.hid (fun W => K2.out m W (by unfold I64; omega))
          rw [hd] at K3
          clear hd HT HL K2
          go_wp2_with fail
          refine (K3.out _).mono ?_
          rintro e w3 ⟨rfl, b3⟩
          have HB3 := Lib.hid (HB2.out.trans (b3.mono HB2.out.size))
          clear b3 y0 y1 y2 y3 y4 y5 y6 y7 y8 y9 y10 HX2 HB2
          go_wp2
          go_ret2
          exact ⟨rfl, HB3.out⟩
    · unfold nxV
      rw [(nx_bad (sam := sam) (ev := ev) hn).1, (nx_bad (sam := sam) (ev := ev) hn).2]
      have hdn : decide (0 ≤ n ∧ n ≤ 1099511627776) = false := decide_eq_false hn
      have K4 := Lib.hid (fun W => ref20_in n 0 1099511627776 W)
      rw [hdn] at K4
      clear hdn
      clear hok hn
      go_enter Try.func63, Try.ntmps63
      go_wp2_with fail
      refine (K1.out _).mono ?_
      rintro e w1 ⟨rfl, b1⟩
      have HB1 := Lib.hid (HB.out.trans (b1.mono HB.out.size))
      clear b1 y0 y1 y2 y3 y4 y5 y6 y7 y8 y9 y10 HX HB K1
      go_wp2_with (go_at_call 105; refine (K4.out _).mono ?_; rintro e w1 ⟨rfl, rfl⟩)
      go_ret2
      exact ⟨rfl, HB1.out⟩
  · rw [okB.2 hok] at K1 ⊢
    unfold nxV
    rw [(nx_no (sam := sam) (ev := ev) (n := n)).1, (nx_no (sam := sam) (ev := ev) (n := n)).2]
    clear hok
    go_enter Try.func63, Try.ntmps63
    go_wp2_with fail
    refine (K1.out _).mono ?_
    rintro e w1 ⟨rfl, b1⟩
    have HB1 := Lib.hid (HB.out.trans (b1.mono HB.out.size))
    clear b1 y0 y1 y2 y3 y4 y5 y6 y7 y8 y9 y10 HX HB K1
    go_wp2
    go_ret2
    exact ⟨rfl, HB1.out⟩
end Go.Proofs.Ytmfgegebnjpanaa
