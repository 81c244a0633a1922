/- ItmA ItmB ItmC ItmD ItmE ItmF ItmG ItmH ItmI ItmJ ItmK -/
import Derived.Test.YtpoemflclbhekaaGreatBinRd
import Derived.Test.YtpoemflclbhekaaGreatScoC
import Derived.IntWalk
import Derived.Test.YtpoemflclbhekaaGreatRegJ
import Derived.Deep.RegionWith
import Derived.Laws.BitsAllLaws

/-! Layer 22 (item): numbers in bounds, numbers as bytes; scores written. -/
namespace Go.Proofs.YtpoemflclbhekaaGreat
open Go.RowKit
set_option linter.unusedVariables false
set_option linter.unusedSimpArgs false

/-- all of them in bounds? -/
def inB (lo hi : Int) (l : List Int) : Bool := l.all fun x => decide (lo ≤ x ∧ x ≤ hi)
theorem inB_no {lo hi : Int} {l : List Int} {i : Nat} (hi' : i < l.length) (h : ¬ (lo ≤ l.getD i 0 ∧ l.getD i 0 ≤ hi)) : inB lo hi l = false := by
  unfold inB
  rw [List.all_eq_false]
  refine ⟨l.getD i 0, ?_, by simpa using h⟩
  rw [List.getD_eq_getElem?_getD, List.getElem?_eq_getElem hi']
  exact List.getElem_mem hi'
theorem inB_yes {lo hi : Int} {l : List Int} (h : ∀ i, i < l.length → lo ≤ l.getD i 0 ∧ l.getD i 0 ≤ hi) : inB lo hi l = true := by
  unfold inB
  rw [List.all_eq_true]
  intro x hx
  obtain ⟨i, hi', e⟩ := List.getElem_of_mem hx
  have := h i hi'
  rw [List.getD_eq_getElem?_getD, List.getElem?_eq_getElem hi', Option.getD_some, e] at this
  simpa using this
set_option maxRecDepth 100000 in
set_option maxHeartbeats 2000000 in
theorem it_within (lo hi : Int) (l : List Int) (A : Option Addr) (c B : Nat) (w : World) (hA : Lies w B A l) (hl : l.length ≤ 1000000) : Calls Tryz.prog 41 #[.int .i64 lo, .int .i64 hi, .slice A l.length c] w fun e w' => e = .returned (.bool (inB lo hi l)) ∧ w = w' := by
  have HA := Lib.hid hA
  have HNO := Lib.hid (fun i => @inB_no lo hi l i)
  have HYES := Lib.hid (@inB_yes lo hi l)
  generalize inB lo hi l = R at *
  clear hA
  generalize hN : l.length = N at *
  have HN := Lib.hid hN
  clear hN
  go_enter Tryz.func41, Tryz.ntmps41
  go_wp2
  go_loop [8, 11] (fun _ iv => ∃ i : Nat, iv = .int .i64 (i : Nat) ∧ i ≤ N ∧ Hid (∀ j, j < i → lo ≤ l.getD j 0 ∧ l.getD j 0 ≤ hi)) (fun _ iv => N - (intOf iv).toNat)
  case atStart => exact ⟨0, rfl, Nat.zero_le _, fun j hj => absurd hj (Nat.not_lt_zero _)⟩
  case round =>
    obtain ⟨i, rfl, hi1, HP⟩ := hrel
    by_cases h0 : i < N
    · have hig : (i : Int) < (N : Int) := by omega
      obtain ⟨ad, eA, -, hc⟩ := HA.out (by rw [HN.out]; omega)
      have hcc := hc i (by rw [HN.out]; exact h0)
      subst eA
      have HNI : Hid (¬ (lo ≤ l.getD i 0 ∧ l.getD i 0 ≤ hi) → R = false) := HNO.out i h0
      have HP2 : Hid ((lo ≤ l.getD i 0 ∧ l.getD i 0 ≤ hi) → ∀ j, j < i + 1 → lo ≤ l.getD j 0 ∧ l.getD j 0 ≤ hi) := fun h j hj => by
        by_cases e : j = i
        · subst e; exact h
        · exact HP.out j (by omega)
      clear hc HNO
      generalize l.getD i 0 = x at *
      by_cases h1 : x < lo
      · have hR := HNI.out (by omega)
        subst hR
        clear HNI HP2 HP HYES
        go_wp2
        go_ret
        exact ⟨rfl, rfl⟩
      · by_cases h2 : hi < x
        · have hR := HNI.out (by omega)
          subst hR
          clear HNI HP2 HP HYES
          go_wp2
          go_ret
          exact ⟨rfl, rfl⟩
        · have HP3 := Lib.hid (HP2.out (by omega))
          clear HNI HP2 HP
          go_wp2
          exact ⟨⟨i + 1, by go_num, by omega, HP3⟩, by simp [intOf]; omega⟩
    · have hiN : N = i := by omega
      subst hiN
      have hR := HYES.out HP.out
      subst hR
      clear HNO HP HYES
      go_wp2
      go_ret
      exact ⟨rfl, rfl⟩
/-- numbers as bytes -/
def nB (l : List Int) : List Int := l.flatMap fun x => uB x.toNat
set_option maxRecDepth 100000 in
set_option maxHeartbeats 2000000 in
theorem it_numbers (l : List Int) (A : Option Addr) (c : Nat) (w : World) (hA : Lies w w.heap.size A l) (hp : ∀ x ∈ l, 0 ≤ x ∧ x < 9223372036854775808) (hl : l.length ≤ 1000) : Calls Tryz.prog 63 #[.slice A l.length c] w (GivesY (nB l) w) := by
  have HA := Lib.hid hA
  have HP := Lib.hid hp
  have hlen : ∀ k, (nB (l.take k)).length ≤ 9 * k := fun k => by
    induction k with
    | zero => simp [nB]
    | succ k ih =>
      by_cases h : k < l.length
      · have e : l.take (k + 1) = l.take k ++ [l[k]] := by rw [List.take_add_one, List.getElem?_eq_getElem h]; rfl
        have := (uB_len (n := (l[k]).toNat) (by have := hp _ (List.getElem_mem h); omega)).2
        rw [e]
        unfold nB at ih ⊢
        rw [List.flatMap_append, List.length_append, List.flatMap_cons, List.flatMap_nil, List.append_nil]
        omega
      · rw [List.take_of_length_le (by omega)] at ih ⊢
        omega
  have HLEN := Lib.hid hlen
  have HST : Hid (∀ k, k < l.length → nB (l.take (k + 1)) = nB (l.take k) ++ uB (l.getD k 0).toNat) := fun k h => by
    rw [List.take_add_one, List.getD_eq_getElem?_getD, List.getElem?_eq_getElem h]
    unfold nB
    rw [List.flatMap_append]
    simp
  have HFIN : Hid (nB (l.take l.length) = nB l) := by show _ = _; rw [List.take_length]
  generalize nB l = D at *
  clear hA hp hlen
  generalize hN : l.length = N at *
  have HN := Lib.hid hN
  clear hN
  go_enter Tryz.func63, Tryz.ntmps63
  go_wp2
  go_loopw [3, 5, 8] (fun v _ iv wr => ∃ i : Nat, iv = .int .i64 (i : Nat) ∧ i ≤ N ∧ Hid (OwnsY wr w.heap.size v (nB (l.take i))) ∧ Hid (Below w.heap.size w wr)) (fun _ _ iv _ => N - (intOf iv).toNat)
  case atStart => exact ⟨0, rfl, Nat.zero_le _, (by rw [List.take_zero]; exact OwnsY.nil _ _), Below.refl _ _⟩
  case round =>
    obtain ⟨i, rfl, hi1, HO, HB⟩ := hrel
    by_cases h0 : i < N
    · have hig : (i : Int) < (N : Int) := by omega
      obtain ⟨ad, eA, hbk, hc⟩ := HA.out (by rw [HN.out]; omega)
      have hcc : wr.cell? (ad.add i) = _ := (HB.out.cell (by rw [add_block]; exact hbk)).trans (hc i (by rw [HN.out]; exact h0))
      subst eA
      have hx := HP.out (l.getD i 0) (by rw [List.getD_eq_getElem?_getD, List.getElem?_eq_getElem (by rw [HN.out]; exact h0)]; exact List.getElem_mem _)
      have HS := Lib.hid (HST.out i h0)
      have hle := HLEN.out i
      clear hc HST
      generalize hxx : l.getD i 0 = x at *
      obtain ⟨n, rfl⟩ := Int.eq_ofNat_of_zero_le hx.1
      rw [Int.toNat_natCast] at HS
      obtain ⟨A1, c1, rfl, q1, q2, q3, -, -⟩ := HO.out.lies
      have K := Lib.hid (bin_U (nB (l.take i)) A1 c1 n wr q3 q1 (by omega) (by omega))
      unfold GivesY at K
      have hun : (n : Int) % 18446744073709551616 = (n : Int) := by omega
      clear q1 q2 q3 hxx
      generalize (nB (l.take i)).length = tl at *
      go_wp2_with fail
      refine (K.out).mono ?_
      rintro e w2 ⟨⟨v2, rfl, g1⟩, g2⟩
      have HO2 : Hid (OwnsY w2 w.heap.size v2 (nB (l.take (i + 1)))) := by
        show OwnsY _ _ _ _
        rw [HS.out]
        refine ⟨g1.1, ?_⟩
        rcases g1.2 with h0 | ⟨g, cap, cur, e1, hbg, hr⟩
        · exact .inl h0
        · exact .inr ⟨g, cap, cur, e1, Nat.le_trans HB.out.size hbg, hr⟩
      have HB2 := Lib.hid (HB.out.trans (g2.mono HB.out.size))
      clear g1 g2
      go_wp2
      exact ⟨⟨i + 1, by go_num, by omega, HO2, HB2⟩, by simp [intOf]; omega⟩
    · have hiN : N = i := by omega
      subst hiN
      have HO2 := HO.out
      rw [HFIN.out] at HO2
      have HO3 := Lib.hid HO2
      clear HO2
      go_wp2
      go_ret
      exact ⟨⟨_, rfl, HO3.out⟩, HB.out⟩
end Go.Proofs.YtpoemflclbhekaaGreat

/-! Layer 22 (item): scores written and read, in the code. -/
namespace Go.Proofs.YtpoemflclbhekaaGreat
open Go.RowKit
set_option linter.unusedVariables false
set_option linter.unusedSimpArgs false

theorem ownY_le {w : World} {B B' : Nat} {v : Value} {l : List Int} (h : OwnsY w B v l) (hB : B' ≤ B) : OwnsY w B' v l := by
  refine ⟨h.1, ?_⟩
  rcases h.2 with h0 | ⟨g, cap, cur, e1, hbg, hr⟩
  · exact .inl h0
  · exact .inr ⟨g, cap, cur, e1, Nat.le_trans hB hbg, hr⟩
/-- the bytes of a score -/
def scB (p q : Int) : List Int := nB [p, q]
theorem scB_len {p q : Int} (h : ScoOk p q) : (scB p q).length ≤ 18 := by
  obtain ⟨h1, h2, h3, h4, -⟩ := h
  have a := (uB_len (n := p.toNat) (by omega)).2
  have b := (uB_len (n := q.toNat) (by omega)).2
  unfold scB nB
  simp only [List.flatMap_cons, List.flatMap_nil, List.append_nil, List.length_append]
  omega
set_option maxRecDepth 100000 in
set_option maxHeartbeats 2000000 in
theorem it_scoreBytes (p q : Int) (h : ScoOk p q) (w : World) : Calls Tryz.prog 30 #[.agg #[.int .i64 p, .int .i64 q]] w (GivesY (scB p q) w) := by
  have hb1 := ((Below.refl w.heap.size w).alloc (Nat.le_refl _) (.cells #[.int .i64 p, .int .i64 q] 23))
  have hb2 := hb1.alloc hb1.size (.cells #[.int .i64 p, .int .i64 q] 3)
  have hbx := Box.new (w.alloc (.cells #[.int .i64 p, .int .i64 q] 23)) #[.int .i64 p, .int .i64 q] 3
  rw [alloc_size'] at hbx
  obtain ⟨h1, h2, h3, h4, -⟩ := h
  have K := Lib.hid (it_numbers [p, q] (some ⟨w.heap.size + 1, 0, none⟩) 2 ((w.alloc (.cells #[.int .i64 p, .int .i64 q] 23)).alloc (.cells #[.int .i64 p, .int .i64 q] 3)) (boxLies hbx rfl) (by intro x hx; simp at hx; omega) (by simp))
  have HB := Lib.hid hb2
  clear hb1 hb2 hbx h1 h2 h3 h4
  unfold GivesY at K
  rw [show nB [p, q] = scB p q from rfl] at K
  generalize scB p q = D at *
  go_enter Tryz.func30, Tryz.ntmps30
  go_wp2_with fail
  refine (K.out).mono ?_
  rintro e w2 ⟨⟨v2, rfl, g1⟩, g2⟩
  have HO := Lib.hid (ownY_le g1 HB.out.size)
  have HB2 := Lib.hid (HB.out.trans (g2.mono HB.out.size))
  clear g1 g2
  go_wp2
  go_ret
  exact ⟨⟨_, rfl, HO.out⟩, HB2.out⟩
set_option maxRecDepth 100000 in
set_option maxHeartbeats 2000000 in
theorem it_putS (p q : Int) (R : Bool) (D l : List Int) (A : Option Addr) (c : Nat) (f1 f2 : Nat) (w : World) (hA : LiesY w w.heap.size A l) (hAc : A = none → c = 0) (hl : l.length ≤ 1000)
    (KR : Hid (∀ W, Below w.heap.size w W → Calls Tryz.prog 29 #[.agg #[.int .i64 p, .int .i64 q]] W fun e w' => e = .returned (.bool R) ∧ Below W.heap.size W w'))
    (KD : Hid (R = true → D.length ≤ 1000 ∧ ∀ W, Below w.heap.size w W → Calls Tryz.prog 30 #[.agg #[.int .i64 p, .int .i64 q]] W (GivesY D W))) :
    Calls Tryz.prog 28 #[.slice A l.length c, .agg #[.int .i64 p, .int .i64 q], .func (.func 29) #[] #[], .func (.func 30) #[] #[]] w (GivesY (l ++ if R = true then D else []) w) := by
  have hb1 := ((Below.refl w.heap.size w).alloc (Nat.le_refl _) (.cells #[.int .i64 p, .int .i64 q] 23))
  have HA := Lib.hid (hA.below hb1)
  have HAc := Lib.hid hAc
  have HB := Lib.hid hb1
  have HX := Lib.hid (Box.new w #[.int .i64 p, .int .i64 q] 23)
  have HLL := Lib.hid hl
  clear hA hAc hb1 hl
  generalize hN : l.length = N at *
  have HN := Lib.hid hN
  clear hN
  unfold GivesY at KD
  have hS : w.heap.size + 1 ≤ (w.alloc (.cells #[.int .i64 p, .int .i64 q] 23)).heap.size := by rw [alloc_size']; exact Nat.le_refl _
  have HS := Lib.hid hS
  clear hS
  cases R
  · rw [if_neg (by simp), List.append_nil]
    clear KD
    go_enter Tryz.func28, Tryz.ntmps28
    go_wp2_with (at_builtin; refine app_own (B := w.heap.size + 1) rfl (.const (.slice none 0 0)) (.tmp 10) rfl _ [] l A c N rfl rfl HN.out HAc.out (OwnsY.nil _ _) HA.out HS.out (by have := HLL.out; simp; omega) ?_; intro v1 w1 g1 g2; have HO1 := Lib.hid g1; have HB1 := Lib.hid (HB.out.trans (g2.mono (Nat.le_succ _))); have HX1 := Lib.hid (HX.out.below g2 (Nat.lt_succ_self _)); clear g1 g2; obtain ⟨x0, x1, -, -⟩ := HX1.out.two)
    refine (KR.out w1 HB1.out).mono ?_
    rintro e w2 ⟨rfl, b2⟩
    have HO2 := Lib.hid (HO1.out.below b2)
    have HB2 := Lib.hid (HB1.out.trans (b2.mono HB1.out.size))
    clear b2 HO1 HX1
    go_wp2
    go_ret
    exact ⟨⟨_, rfl, by have := ownY_le HO2.out (Nat.le_succ _); rw [List.nil_append] at this; exact this⟩, HB2.out⟩
  · rw [if_pos rfl]
    obtain ⟨hD, hK⟩ := KD.out rfl
    have HD := Lib.hid hD
    have HK := Lib.hid hK
    clear KD hD hK
    go_enter Tryz.func28, Tryz.ntmps28
    go_wp2_with (at_builtin; refine app_own (B := w.heap.size + 1) rfl (.const (.slice none 0 0)) (.tmp 10) rfl _ [] l A c N rfl rfl HN.out HAc.out (OwnsY.nil _ _) HA.out HS.out (by have := HLL.out; simp; omega) ?_; intro v1 w1 g1 g2; have HO1 := Lib.hid g1; have HB1 := Lib.hid (HB.out.trans (g2.mono (Nat.le_succ _))); have HX1 := Lib.hid (HX.out.below g2 (Nat.lt_succ_self _)); have HS1 := Lib.hid (Nat.le_trans HS.out g2.size); clear g1 g2; obtain ⟨x0, x1, -, -⟩ := HX1.out.two)
    refine (KR.out w1 HB1.out).mono ?_
    rintro e w2 ⟨rfl, b2⟩
    have HO2 := Lib.hid (HO1.out.below b2)
    have HB2 := Lib.hid (HB1.out.trans (b2.mono HB1.out.size))
    have HX2 := Lib.hid (HX1.out.below b2 HX1.out.lt)
    have HS2 := Lib.hid (Nat.le_trans HS1.out b2.size)
    clear b2 HO1 HX1 x0 x1
    obtain ⟨x0, x1, -, -⟩ := HX2.out.two
    go_wp2_with fail
    refine (HK.out w2 HB2.out).mono ?_
    rintro e w3 ⟨⟨v3, rfl, g1⟩, g2⟩
    obtain ⟨A3, c3, rfl, -, -, q3, q4, -⟩ := g1.lies
    have HQ3 := Lib.hid q3
    have HQ4 := Lib.hid q4
    have HO3 := Lib.hid (HO2.out.below g2)
    have HB3 := Lib.hid (HB2.out.trans (g2.mono HB2.out.size))
    have HS3 := Lib.hid (Nat.le_trans HS2.out g2.size)
    have HLN : Hid (([] ++ l).length + D.length ≤ 1000000000) := by show _ ≤ _; have := HLL.out; have := HN.out; have := HD.out; simp; omega
    clear g1 g2 q3 q4 x0 x1 HX2 HK KR
    go_wp2_with (at_builtin; refine app_own (B := w.heap.size + 1) rfl (.tmp 17) (.tmp 20) rfl v1 ([] ++ l) D A3 c3 D.length rfl rfl rfl HQ4.out HO3.out HQ3.out HS3.out HLN.out ?_; intro v4 w4 g1 g2; have HO4 := Lib.hid g1; have HB4 := Lib.hid (HB3.out.trans (g2.mono (Nat.le_succ _))); clear g1 g2)
    go_ret
    exact ⟨⟨_, rfl, by have := ownY_le HO4.out (Nat.le_succ _); rw [List.nil_append] at this; exact this⟩, HB4.out⟩
end Go.Proofs.YtpoemflclbhekaaGreat

/-! Layer 22 (item): scores written and read, in the code: PutScore, GetScore. -/
namespace Go.Proofs.YtpoemflclbhekaaGreat
open Go.RowKit
set_option linter.unusedVariables false
set_option linter.unusedSimpArgs false

/-- what is written of a score -/
def scW (p q : Int) : List Int := if scoB p q = true then scB p q else []
theorem scoB_ok {p q : Int} (h : scoB p q = true) : ScoOk p q := by
  by_cases g : ScoOk p q
  · exact g
  · rw [scoB_no g] at h; cases h
set_option maxRecDepth 100000 in
set_option maxHeartbeats 2000000 in
theorem it_PutScore (p q : Int) (hp : I64 p) (hq : I64 q) (l : List Int) (A : Option Addr) (c : Nat) (w : World) (hA : LiesY w w.heap.size A l) (hAc : A = none → c = 0) (hl : l.length ≤ 1000) :
    Calls Tryz.prog 6 #[.slice A l.length c, .agg #[.int .i64 p, .int .i64 q]] w (GivesY (l ++ scW p q) w) := by
  have hb1 := ((Below.refl w.heap.size w).alloc (Nat.le_refl _) (.cells #[.int .i64 p, .int .i64 q] 23))
  have K := Lib.hid (it_putS p q (scoB p q) (scB p q) l A c 0 0 _ (hA.up hb1) hAc hl (fun W h => sco_is p q hp hq W) (fun hR => ⟨Nat.le_trans (scB_len (scoB_ok hR)) (by omega), fun W h => it_scoreBytes p q (scoB_ok hR) W⟩))
  rw [show (if scoB p q = true then scB p q else []) = scW p q from rfl] at K
  have HB := Lib.hid hb1
  clear hA hAc hl hb1
  unfold GivesY at K
  generalize l ++ scW p q = D at *
  generalize l.length = N at *
  go_enter Tryz.func6, Tryz.ntmps6
  go_wp2_with fail
  refine (K.out).mono ?_
  rintro e w2 ⟨⟨v2, rfl, g1⟩, g2⟩
  have HO := Lib.hid (ownY_le g1 HB.out.size)
  have HB2 := Lib.hid (HB.out.trans (g2.mono HB.out.size))
  clear g1 g2
  go_wp2
  go_ret
  exact ⟨⟨_, rfl, HO.out⟩, HB2.out⟩
theorem Wr.setNewI {g : Nat} {w X : World} {p : Addr} (h : Wr g w X) (hp : w.heap.size ≤ p.block) (u : Value) : Wr g w (X.setCell p u) :=
  ⟨h.os, h.tape, h.output, Nat.le_trans h.size (by simp [World.setCell]), fun k hk hg => (Below.heap_setCell _ _ _ _ (by omega)).trans (h.block k hk hg)⟩
/-- the error behind a check -/
def chkF (R : Bool) (e : Int) : Int := if R = true then e else failE e 211
set_option maxRecDepth 100000 in
set_option maxHeartbeats 4000000 in
theorem it_checkedS (p q : Int) (R : Bool) (b : List Int) (B g k : Nat) (e : Int) (w : World) (hR : RdAt w B g b k e)
    (KR : Hid (∀ W, Below w.heap.size w W → Calls Tryz.prog 29 #[.agg #[.int .i64 p, .int .i64 q]] W fun e w' => e = .returned (.bool R) ∧ Below W.heap.size W w')) :
    Calls Tryz.prog 34 #[.pointer (some ⟨g, 0, none⟩), .agg #[.int .i64 p, .int .i64 q], .func (.func 29) #[] #[]] w fun r w' => r = .returned (if chkF R e = 0 then .agg #[.int .i64 p, .int .i64 q] else .agg #[.int .i64 0, .int .i64 0]) ∧ RdAt w' B g b k (chkF R e) ∧ Wr g w w' := by
  obtain ⟨hg, hBg, hk, hbl, hby⟩ := hR.lt
  have hb1 := ((Below.refl w.heap.size w).alloc (Nat.le_refl _) (.cells #[.int .i64 p, .int .i64 q] 23))
  have hb2 := hb1.alloc hb1.size (.cells #[.int .i64 0, .int .i64 0] 23)
  have HX0 := Lib.hid ((Box.new w #[.int .i64 p, .int .i64 q] 23).alloc (.cells #[.int .i64 0, .int .i64 0] 23))
  have hx1 := Box.new (w.alloc (.cells #[.int .i64 p, .int .i64 q] 23)) #[.int .i64 0, .int .i64 0] 23
  rw [alloc_size'] at hx1
  have HX1 := Lib.hid hx1
  have HR := Lib.hid (hR.below hb2)
  have HB := Lib.hid hb2
  have KR2 := Lib.hid (KR.out _ hb2)
  have HRF := Lib.hid (fun W (h : RdAt W B g b k e) => rd_Fail h 211)
  have HRE := Lib.hid (fun W e2 (h : RdAt W B g b k e2) => rd_Err h)
  have hn1 : ¬ w.heap.size = g := by omega
  have hn2 : ¬ w.heap.size + 1 = g := by omega
  clear hR hb1 hb2 hx1 KR
  cases R
  · have hf : chkF false e = failE e 211 := rfl
    have hne : ¬ failE e 211 = 0 := by unfold failE; split <;> simp_all
    rw [hf, if_neg hne]
    have hneb : (failE e 211 == 0) = false := by simpa using hne
    have hneb2 : (failE e 211 != 0) = true := by simpa using hne
    clear hf hne
    generalize failE e 211 = E at *
    go_enter Tryz.func34, Tryz.ntmps34
    go_wp2_with fail
    refine (KR2.out).mono ?_
    rintro r w1 ⟨rfl, b1⟩
    have HR1 := Lib.hid (HR.out.below b1)
    have HX1 := Lib.hid (HX1.out.below b1 HX1.out.lt)
    have HB := Lib.hid (HB.out.trans (b1.mono HB.out.size))
    clear b1 HX0
    go_wp2_with fail
    refine (HRF.out w1 HR1.out).mono ?_
    rintro r w2 ⟨rfl, h1, h2⟩
    have HR2 := Lib.hid h1
    have HX1 := Lib.hid (h2.box HX1.out hn2)
    have HW := Lib.hid ((Wr.of g HB.out).trans h2)
    clear h1 h2 HR1
    go_wp2_with fail
    refine (HRE.out w2 _ HR2.out).mono ?_
    rintro r w3 ⟨rfl, rfl⟩
    have hal := (Below.refl w2.heap.size w2).alloc (Nat.le_refl _) (.cells #[.int .i64 0, .int .i64 0] 23)
    have HX1 := Lib.hid (HX1.out.below hal HX1.out.lt)
    have HR3 := Lib.hid (HR2.out.below hal)
    have HW := Lib.hid (HW.out.trans (Wr.of g hal))
    obtain ⟨x0, x1, y0, y1⟩ := HX1.out.two
    have hlt := HX1.out.lt
    rw [alloc_size'] at hlt
    clear hal
    go_wp2
    have s0 := (HX1.out.set 0 (.int .i64 0)).cell 0
    have s1 := ((HX1.out.set 0 (.int .i64 0)).set 1 (.int .i64 0)).cell 1
    refine bodyPost_ret (v := .agg #[.int .i64 0, .int .i64 0]) (by simp [results, Tryz.results34, go_sem, s0, s1, x0, x1]) rfl ⟨rfl, ?_, ?_⟩
    · exact (HR3.out.wr (Wr.set (w.heap.size + 1) 0 _ _) (.inr (by omega))).wr (Wr.set (w.heap.size + 1) 1 _ _) (.inr (by omega))
    · exact (HW.out.setNewI (p := ⟨w.heap.size + 1, 0, none⟩) (by show w.heap.size ≤ w.heap.size + 1; omega) _).setNewI (p := ⟨w.heap.size + 1, 1, none⟩) (by show w.heap.size ≤ w.heap.size + 1; omega) _
  · have hf : chkF true e = e := rfl
    rw [hf]
    clear hf HRF
    by_cases he : e = 0
    · subst he
      rw [if_pos rfl]
      go_enter Tryz.func34, Tryz.ntmps34
      go_wp2_with fail
      refine (KR2.out).mono ?_
      rintro r w1 ⟨rfl, b1⟩
      have HR1 := Lib.hid (HR.out.below b1)
      have HX0 := Lib.hid (HX0.out.below b1 HX0.out.lt)
      have HX1 := Lib.hid (HX1.out.below b1 HX1.out.lt)
      have HW := Lib.hid (Wr.of g (HB.out.trans (b1.mono HB.out.size)))
      clear b1
      go_wp2_with fail
      refine (HRE.out w1 _ HR1.out).mono ?_
      rintro r w3 ⟨rfl, rfl⟩
      obtain ⟨z0, z1, -, -⟩ := HX0.out.two
      obtain ⟨x0, x1, y0, y1⟩ := HX1.out.two
      go_wp2
      have s0 := (HX1.out.set 0 (.int .i64 p)).cell 0
      have s1 := ((HX1.out.set 0 (.int .i64 p)).set 1 (.int .i64 q)).cell 1
      refine bodyPost_ret (v := .agg #[.int .i64 p, .int .i64 q]) (by simp [results, Tryz.results34, go_sem, s0, s1]) rfl ⟨rfl, ?_, ?_⟩
      · exact (HR1.out.wr (Wr.set (w.heap.size + 1) 0 _ _) (.inr (by omega))).wr (Wr.set (w.heap.size + 1) 1 _ _) (.inr (by omega))
      · exact (HW.out.setNewI (p := ⟨w.heap.size + 1, 0, none⟩) (by show w.heap.size ≤ w.heap.size + 1; omega) _).setNewI (p := ⟨w.heap.size + 1, 1, none⟩) (by show w.heap.size ≤ w.heap.size + 1; omega) _
    · rw [if_neg he]
      have hneb : (e == 0) = false := by simpa using he
      have hneb2 : (e != 0) = true := by simpa using he
      clear he
      go_enter Tryz.func34, Tryz.ntmps34
      go_wp2_with fail
      refine (KR2.out).mono ?_
      rintro r w2 ⟨rfl, b1⟩
      have HR2 := Lib.hid (HR.out.below b1)
      have HX1 := Lib.hid (HX1.out.below b1 HX1.out.lt)
      have HW := Lib.hid (Wr.of g (HB.out.trans (b1.mono HB.out.size)))
      clear b1 HX0
      go_wp2_with fail
      refine (HRE.out w2 _ HR2.out).mono ?_
      rintro r w3 ⟨rfl, rfl⟩
      have hal := (Below.refl w2.heap.size w2).alloc (Nat.le_refl _) (.cells #[.int .i64 0, .int .i64 0] 23)
      have HX1 := Lib.hid (HX1.out.below hal HX1.out.lt)
      have HR3 := Lib.hid (HR2.out.below hal)
      have HW := Lib.hid (HW.out.trans (Wr.of g hal))
      obtain ⟨x0, x1, y0, y1⟩ := HX1.out.two
      have hlt := HX1.out.lt
      rw [alloc_size'] at hlt
      clear hal
      go_wp2
      have s0 := (HX1.out.set 0 (.int .i64 0)).cell 0
      have s1 := ((HX1.out.set 0 (.int .i64 0)).set 1 (.int .i64 0)).cell 1
      refine bodyPost_ret (v := .agg #[.int .i64 0, .int .i64 0]) (by simp [results, Tryz.results34, go_sem, s0, s1, x0, x1]) rfl ⟨rfl, ?_, ?_⟩
      · exact (HR3.out.wr (Wr.set (w.heap.size + 1) 0 _ _) (.inr (by omega))).wr (Wr.set (w.heap.size + 1) 1 _ _) (.inr (by omega))
      · exact (HW.out.setNewI (p := ⟨w.heap.size + 1, 0, none⟩) (by show w.heap.size ≤ w.heap.size + 1; omega) _).setNewI (p := ⟨w.heap.size + 1, 1, none⟩) (by show w.heap.size ≤ w.heap.size + 1; omega) _
end Go.Proofs.YtpoemflclbhekaaGreat

/-! Layer 22 (item): GetScore, in the code. -/
namespace Go.Proofs.YtpoemflclbhekaaGreat
open Go.RowKit
set_option linter.unusedVariables false
set_option linter.unusedSimpArgs false

/-- a score that is read: ((place, error), score) -/
def gS (b : List Int) (k : Nat) (e : Int) : (Nat × Int) × (Int × Int) :=
  let a := rN b k e 274877906944
  let c := rN b a.1.1 a.1.2 1099511627776
  let E := chkF (scoB (a.2 : Nat) (c.2 : Nat)) c.1.2
  ((c.1.1, E), if E = 0 then (((a.2 : Nat) : Int), ((c.2 : Nat) : Int)) else (0, 0))
theorem rN_i64 {b : List Int} {k : Nat} {e most : Int} (hm : I64 most) : I64 (((rN b k e most).2 : Nat) : Int) := by
  unfold I64 at hm ⊢
  by_cases c1 : (rN b k e most).1.2 = 0
  · have := (rN_bd c1).1
    omega
  · rw [(rN_err c1).2]; omega
theorem rN_at {b : List Int} (hb : byt b) {k : Nat} (hk : k ≤ b.length) (e most : Int) : (rN b k e most).1.1 ≤ b.length := by
  by_cases c1 : (rN b k e most).1.2 = 0
  · rw [(rN_bd c1).2.2]; exact rU_at hb hk
  · rw [(rN_err c1).1]; exact hk
set_option maxRecDepth 100000 in
set_option maxHeartbeats 4000000 in
theorem it_GetScore (b : List Int) (B g k : Nat) (e : Int) (w : World) (hR : RdAt w B g b k e) :
    Calls Tryz.prog 10 #[.pointer (some ⟨g, 0, none⟩)] w fun r w' => r = .returned (.agg #[.int .i64 (gS b k e).2.1, .int .i64 (gS b k e).2.2]) ∧ RdAt w' B g b (gS b k e).1.1 (gS b k e).1.2 ∧ Wr g w w' := by
  obtain ⟨hg, hBg, hk, hbl, hby⟩ := hR.lt
  have i1 : I64 274877906944 := by unfold I64; omega
  have i2 : I64 1099511627776 := by unfold I64; omega
  have hb1 := ((Below.refl w.heap.size w).alloc (Nat.le_refl _) (.cells #[.int .i64 0, .int .i64 0] 23))
  have K1 := Lib.hid (rd_N 274877906944 i1 (hR.below hb1))
  have HX := Lib.hid (Box.new w #[.int .i64 0, .int .i64 0] 23)
  have HW := Lib.hid (Wr.of g hb1)
  have hp := rN_i64 (b := b) (k := k) (e := e) i1
  obtain ⟨ra, hra⟩ : ∃ ra, ra = rN b k e 274877906944 := ⟨_, rfl⟩
  have hgs : gS b k e = ((((rN b ra.1.1 ra.1.2 1099511627776).1.1, chkF (scoB (ra.2 : Nat) ((rN b ra.1.1 ra.1.2 1099511627776).2 : Nat)) (rN b ra.1.1 ra.1.2 1099511627776).1.2)), if chkF (scoB (ra.2 : Nat) ((rN b ra.1.1 ra.1.2 1099511627776).2 : Nat)) (rN b ra.1.1 ra.1.2 1099511627776).1.2 = 0 then (((ra.2 : Nat) : Int), (((rN b ra.1.1 ra.1.2 1099511627776).2 : Nat) : Int)) else (0, 0)) := by
    rw [hra]; rfl
  rw [← hra] at K1 hp
  have hq := rN_i64 (b := b) (k := ra.1.1) (e := ra.1.2) i2
  have K2 := Lib.hid (fun W (h : RdAt W B g b ra.1.1 ra.1.2) => rd_N 1099511627776 i2 h)
  obtain ⟨rc, hrc⟩ : ∃ rc, rc = rN b ra.1.1 ra.1.2 1099511627776 := ⟨_, rfl⟩
  rw [← hrc] at K2 hgs hq
  have K3 := Lib.hid (fun W (h : RdAt W B g b rc.1.1 rc.1.2) => it_checkedS (ra.2 : Nat) (rc.2 : Nat) (scoB (ra.2 : Nat) (rc.2 : Nat)) b B g rc.1.1 rc.1.2 W h (fun W h => sco_is _ _ hp hq W))
  rw [hgs]
  have HP : Hid ((if chkF (scoB (ra.2 : Nat) (rc.2 : Nat)) rc.1.2 = 0 then Value.agg #[.int .i64 (ra.2 : Nat), .int .i64 (rc.2 : Nat)] else .agg #[.int .i64 0, .int .i64 0]) = .agg #[.int .i64 (if chkF (scoB (ra.2 : Nat) (rc.2 : Nat)) rc.1.2 = 0 then (((ra.2 : Nat) : Int), ((rc.2 : Nat) : Int)) else (0, 0)).1, .int .i64 (if chkF (scoB (ra.2 : Nat) (rc.2 : Nat)) rc.1.2 = 0 then (((ra.2 : Nat) : Int), ((rc.2 : Nat) : Int)) else (0, 0)).2]) := by
    show _ = _
    split <;> rfl
  rw [HP.out] at K3
  simp only
  have hn1 : ¬ w.heap.size = g := by omega
  clear hgs HP hR hb1 hp hq hra hrc
  generalize (if chkF (scoB (ra.2 : Nat) (rc.2 : Nat)) rc.1.2 = 0 then (((ra.2 : Nat) : Int), ((rc.2 : Nat) : Int)) else (0, 0)) = out at *
  generalize chkF (scoB (ra.2 : Nat) (rc.2 : Nat)) rc.1.2 = E at *
  generalize ra.1.1 = k1 at *
  generalize ra.1.2 = e1 at *
  generalize rc.1.1 = k2 at *
  generalize rc.1.2 = e2 at *
  generalize ra.2 = p at *
  generalize rc.2 = q at *
  go_enter Tryz.func10, Tryz.ntmps10
  go_wp2_with fail
  refine (K1.out).mono ?_
  rintro r w1 ⟨rfl, h1, h2⟩
  have HR1 := Lib.hid h1
  have HX := Lib.hid (h2.box HX.out hn1)
  have HW := Lib.hid (HW.out.trans h2)
  clear h1 h2 K1
  go_wp2_with fail
  refine (K2.out w1 HR1.out).mono ?_
  rintro r w2 ⟨rfl, h1, h2⟩
  have HR2 := Lib.hid h1
  have HX := Lib.hid (h2.box HX.out hn1)
  have HW := Lib.hid (HW.out.trans h2)
  clear h1 h2 K2
  go_wp2_with fail
  refine (K3.out w2 HR2.out).mono ?_
  rintro r w3 ⟨rfl, h1, h2⟩
  have HR3 := Lib.hid h1
  have HX := Lib.hid (h2.box HX.out hn1)
  have HW := Lib.hid (HW.out.trans h2)
  clear h1 h2 K3
  obtain ⟨x0, x1, y0, y1⟩ := HX.out.two
  obtain ⟨o1, o2⟩ := out
  go_wp2
  have s0 := (HX.out.set 0 (.int .i64 o1)).cell 0
  have s1 := ((HX.out.set 0 (.int .i64 o1)).set 1 (.int .i64 o2)).cell 1
  refine bodyPost_ret (v := .agg #[.int .i64 o1, .int .i64 o2]) (by simp [results, Tryz.results10, go_sem, s0, s1]) rfl ⟨rfl, ?_, ?_⟩
  · exact (HR3.out.wr (Wr.set w.heap.size 0 _ _) (.inr (by omega))).wr (Wr.set w.heap.size 1 _ _) (.inr (by omega))
  · exact (HW.out.setNewI (p := ⟨w.heap.size, 0, none⟩) (Nat.le_refl _) _).setNewI (p := ⟨w.heap.size, 1, none⟩) (Nat.le_refl _) _
end Go.Proofs.YtpoemflclbhekaaGreat

/-! Layer 22 (item): requests: which are right, in the code. -/
namespace Go.Proofs.YtpoemflclbhekaaGreat
open Go.RowKit
set_option linter.unusedVariables false
set_option linter.unusedSimpArgs false

/-- the kinds -/
def okK (k : Int) : Bool := decide (1 ≤ k ∧ k ≤ 7)
/-- what a kind names -/
def nmI (k : Int) : Bool := decide (k = 1)
def nmX (k : Int) : Bool := decide (k = 1 ∨ k = 2 ∨ k = 7)
def nmN (k : Int) : Bool := decide (k = 3 ∨ k = 4)
def nmM (k : Int) : Bool := decide (k = 3)
def usedF (k : Int) : Nat := (if nmI k then 1 else 0) + (if nmX k then 2 else 0) + (if nmN k then 4 else 0) + (if nmM k then 8 else 0)
theorem kinds (k : Int) : k = 1 ∨ k = 2 ∨ k = 3 ∨ k = 4 ∨ k = 5 ∨ k = 6 ∨ k = 7 ∨ (okK k = false ∧ usedF k = 0 ∧ (k == 1) = false ∧ (k == 2) = false ∧ (k == 3) = false ∧ (k == 4) = false ∧ (k == 5) = false ∧ (k == 6) = false ∧ (k == 7) = false) := by
  by_cases h : 1 ≤ k ∧ k ≤ 7
  · have : k = 1 ∨ k = 2 ∨ k = 3 ∨ k = 4 ∨ k = 5 ∨ k = 6 ∨ k = 7 := by omega
    rcases this with h | h | h | h | h | h | h <;> simp [h]
  · refine .inr (.inr (.inr (.inr (.inr (.inr (.inr ⟨decide_eq_false h, ?_, ?_⟩))))))
    · unfold usedF nmI nmX nmN nmM
      rw [decide_eq_false (by omega), decide_eq_false (by omega), decide_eq_false (by omega), decide_eq_false (by omega)]
      rfl
    · refine ⟨?_, ?_, ?_, ?_, ?_, ?_, ?_⟩ <;> (rw [beq_eq_false_iff_ne]; intro e; omega)
set_option maxRecDepth 100000 in
set_option maxHeartbeats 4000000 in
theorem it_used (k : Int) (w : World) : Calls Tryz.prog 50 #[.int .i64 k] w fun e w' => e = .returned (.tuple #[.int .u64 (usedF k : Nat), .bool (okK k)]) ∧ w = w' := by
  rcases kinds k with rfl | rfl | rfl | rfl | rfl | rfl | rfl | ⟨h0, hu, h1, h2, h3, h4, h5, h6, h7⟩
  case inr.inr.inr.inr.inr.inr.inr =>
    rw [h0, hu]
    clear h0 hu
    go_enter Tryz.func50, Tryz.ntmps50
    go_wp2
    refine bodyPost_ret (v := .tuple #[.int .u64 0, .bool false]) (by simp [results, Tryz.results50, go_sem]) rfl ⟨rfl, rfl⟩
  all_goals
    have o1 : bits .or .u64 0 1 = 1 := by kernel_rfl
    have o2 : bits .or .u64 1 2 = 3 := by kernel_rfl
    have o3 : bits .or .u64 0 2 = 2 := by kernel_rfl
    have o4 : bits .or .u64 0 8 = 8 := by kernel_rfl
    have o5 : bits .or .u64 8 4 = 12 := by kernel_rfl
    have o6 : bits .or .u64 0 4 = 4 := by kernel_rfl
    go_enter Tryz.func50, Tryz.ntmps50
    go_wp2
  · exact bodyPost_ret (v := .tuple #[.int .u64 3, .bool true]) (by simp [results, Tryz.results50, go_sem]) rfl ⟨rfl, rfl⟩
  · exact bodyPost_ret (v := .tuple #[.int .u64 2, .bool true]) (by simp [results, Tryz.results50, go_sem]) rfl ⟨rfl, rfl⟩
  · exact bodyPost_ret (v := .tuple #[.int .u64 12, .bool true]) (by simp [results, Tryz.results50, go_sem]) rfl ⟨rfl, rfl⟩
  · exact bodyPost_ret (v := .tuple #[.int .u64 4, .bool true]) (by simp [results, Tryz.results50, go_sem]) rfl ⟨rfl, rfl⟩
  · exact bodyPost_ret (v := .tuple #[.int .u64 0, .bool true]) (by simp [results, Tryz.results50, go_sem]) rfl ⟨rfl, rfl⟩
  · exact bodyPost_ret (v := .tuple #[.int .u64 0, .bool true]) (by simp [results, Tryz.results50, go_sem]) rfl ⟨rfl, rfl⟩
  · exact bodyPost_ret (v := .tuple #[.int .u64 2, .bool true]) (by simp [results, Tryz.results50, go_sem]) rfl ⟨rfl, rfl⟩
/-- the fields that are not zero -/
def fillF (id n m : Int) (x : Nat) : Nat := (if id = 0 then 0 else 1) + (if x = 0 then 0 else 2) + (if n = 0 then 0 else 4) + (if m = 0 then 0 else 8)
theorem Box.five {w : World} {g : Nat} {a b c d e : Value} {t : TypeId} (h : Box w g #[a, b, c, d, e] t) : w.cell? ⟨g, 0, none⟩ = some a ∧ w.cell? ⟨g, 1, none⟩ = some b ∧ w.cell? ⟨g, 2, none⟩ = some c ∧ w.cell? ⟨g, 3, none⟩ = some d ∧ w.cell? ⟨g, 4, none⟩ = some e :=
  ⟨h.cell 0, h.cell 1, h.cell 2, h.cell 3, h.cell 4⟩
theorem Box.frees {w : World} {g : Nat} {cs : Array Value} {t : TypeId} (h : Box w g cs t) : w.frozen? ⟨g, 0, none⟩ = false ∧ w.frozen? ⟨g, 1, none⟩ = false ∧ w.frozen? ⟨g, 2, none⟩ = false ∧ w.frozen? ⟨g, 3, none⟩ = false ∧ w.frozen? ⟨g, 4, none⟩ = false :=
  ⟨h.free 0, h.free 1, h.free 2, h.free 3, h.free 4⟩
set_option maxRecDepth 100000 in
set_option maxHeartbeats 8000000 in
theorem it_filled (k id n m : Int) (A : Option Addr) (N c : Nat) (w : World) : Calls Tryz.prog 57 #[.agg #[.int .i64 k, .int .i64 id, .slice A N c, .int .i64 n, .int .i64 m]] w fun e w' => e = .returned (.int .u64 (fillF id n m N : Nat)) ∧ Below w.heap.size w w' := by
  have HB := Lib.hid ((Below.refl w.heap.size w).alloc (Nat.le_refl _) (.cells #[.int .i64 k, .int .i64 id, .slice A N c, .int .i64 n, .int .i64 m] 51))
  have o1 : bits .or .u64 0 1 = 1 := by kernel_rfl
  have o2 : bits .or .u64 1 2 = 3 := by kernel_rfl
  have o3 : bits .or .u64 0 2 = 2 := by kernel_rfl
  have o4 : bits .or .u64 0 4 = 4 := by kernel_rfl
  have o5 : bits .or .u64 1 4 = 5 := by kernel_rfl
  have o6 : bits .or .u64 2 4 = 6 := by kernel_rfl
  have o7 : bits .or .u64 3 4 = 7 := by kernel_rfl
  have p0 : bits .or .u64 0 8 = 8 := by kernel_rfl
  have p1 : bits .or .u64 1 8 = 9 := by kernel_rfl
  have p2 : bits .or .u64 2 8 = 10 := by kernel_rfl
  have p3 : bits .or .u64 3 8 = 11 := by kernel_rfl
  have p4 : bits .or .u64 4 8 = 12 := by kernel_rfl
  have p5 : bits .or .u64 5 8 = 13 := by kernel_rfl
  have p6 : bits .or .u64 6 8 = 14 := by kernel_rfl
  have p7 : bits .or .u64 7 8 = 15 := by kernel_rfl
  obtain ⟨F, hF⟩ : ∃ F : Int, F = ((fillF id n m N : Nat) : Int) := ⟨_, rfl⟩
  rw [← hF]
  unfold fillF at hF
  have q : ∀ x : Int, ¬ x = 0 → (x == 0) = false := fun x h => by simpa using h
  have hN0 : ∀ x : Nat, ¬ x = 0 → (0 : Int) < (x : Int) := fun x h => by omega
  by_cases h1 : id = 0 <;> by_cases h2 : N = 0 <;> by_cases h3 : n = 0 <;> by_cases h4 : m = 0
  all_goals
    (try simp only [h1, h2, h3, h4, if_true, if_false, Nat.zero_add, Nat.add_zero] at hF)
    (try simp only [h1, h2, h3, h4, if_true, if_false, Nat.zero_add, Nat.add_zero, Nat.reduceAdd] at hF)
    first | subst h1 | (have g1 := q _ h1; clear h1)
    first | subst h2 | (have g2 := hN0 _ h2; clear h2)
    first | subst h3 | (have g3 := q _ h3; clear h3)
    first | subst h4 | (have g4 := q _ h4; clear h4)
    clear q hN0
    go_enter Tryz.func57, Tryz.ntmps57
    go_wp2
    go_ret
    exact ⟨by rw [hF]; rfl, HB.out⟩
end Go.Proofs.YtpoemflclbhekaaGreat

/-! Layer 22 (item): RightAsk, in the code. -/
namespace Go.Proofs.YtpoemflclbhekaaGreat
open Go.RowKit
set_option linter.unusedVariables false
set_option linter.unusedSimpArgs false

def cF (f : Nat) : Nat := 18446744073709551615 ^^^ f
/-- a field that the kind does not name is filled -/
def badB (a b : Nat) : Bool := decide (a &&& b ≠ 0)
def rightA (k id n m : Int) (X : List Int) : Bool := okK k && !badB (fillF id n m X.length) (cF (usedF k)) && inB 0 1099511627776 [id, n, m] && (decide (X.length = 0) || isV X X.length)
theorem fill_lt (id n m : Int) (x : Nat) : fillF id n m x < 16 := by
  unfold fillF
  split <;> split <;> split <;> split <;> omega
theorem used_lt (k : Int) : usedF k < 16 := by
  unfold usedF
  split <;> split <;> split <;> split <;> omega
theorem cF_lt {f : Nat} (h : f < 16) : cF f < 18446744073709551616 := Nat.xor_lt_two_pow (n := 64) (by omega) (by omega)
theorem u64not (f : Nat) (h : f < 16) : bits .xor .u64 IntKind.u64.max (f : Int) = ((cF f : Nat) : Int) := by
  have := u64_xor_nat 18446744073709551615 f (by omega) (by omega)
  rw [show IntKind.u64.max = ((18446744073709551615 : Nat) : Int) from by decide]
  exact this
set_option maxRecDepth 100000 in
set_option maxHeartbeats 2000000 in
theorem it_has (a b : Nat) (ha : a < 18446744073709551616) (hb : b < 18446744073709551616) (w : World) : Calls Tryz.prog 51 #[.int .u64 (a : Int), .int .u64 (b : Int)] w fun e w' => e = .returned (.bool (badB a b)) ∧ w = w' := by
  unfold badB
  have h := u64_and_nat a b ha hb
  generalize a &&& b = x at *
  have hx : ((x : Int) != 0) = decide (x ≠ 0) := by
    by_cases h0 : x = 0
    · subst h0; rfl
    · rw [decide_eq_true h0]; simp; omega
  generalize decide (x ≠ 0) = q at *
  go_enter Tryz.func51, Tryz.ntmps51
  go_wp2
  go_ret
  exact ⟨by first | rw [hx] | (simp [hx]; done) | simp_all, rfl⟩
theorem belq22 {w w' : World} (h : ∃ n, w' = w.drewN n) : Below w.heap.size w w' := by
  obtain ⟨n, rfl⟩ := h
  exact below_drewN2 (Below.refl _ _) n
set_option maxRecDepth 100000 in
set_option maxHeartbeats 8000000 in
theorem it_RightAsk (k id n m : Int) (X : List Int) (A : Option Addr) (c : Nat) (w : World) (hA : Lies w w.heap.size A X) (hX : X.length ≤ 9223372036854775807) (hc : X.length ≤ c) : Calls Tryz.prog 25 #[.agg #[.int .i64 k, .int .i64 id, .slice A X.length c, .int .i64 n, .int .i64 m]] w fun e w' => e = .returned (.bool (rightA k id n m X)) ∧ Below w.heap.size w w' := by
  have hb1 := (Below.refl w.heap.size w).alloc (Nat.le_refl _) (.cells #[.int .i64 k, .int .i64 id, .slice A X.length c, .int .i64 n, .int .i64 m] 51)
  have HB := Lib.hid hb1
  have HX := Lib.hid (Box.new w #[.int .i64 k, .int .i64 id, .slice A X.length c, .int .i64 n, .int .i64 m] 51)
  have K1 := Lib.hid (fun W => it_used k W)
  have K2 := Lib.hid (fun W => it_filled k id n m A X.length c W)
  have hn := u64not (usedF k) (used_lt k)
  have K3 := Lib.hid (fun W => it_has (fillF id n m X.length) (cF (usedF k)) (Nat.lt_trans (fill_lt id n m X.length) (by omega)) (cF_lt (used_lt k)) W)
  have K4 : Hid (∀ (W : World) (g : Nat), W.heap.size = g → Calls Tryz.prog 41 #[.int .i64 0, .int .i64 1099511627776, .slice (some ⟨g, 0, none⟩) 3 3] (W.alloc (.cells #[.int .i64 id, .int .i64 n, .int .i64 m] 3)) fun e w' => e = .returned (.bool (inB 0 1099511627776 [id, n, m])) ∧ W.alloc (.cells #[.int .i64 id, .int .i64 n, .int .i64 m] 3) = w') := fun W g hg => by
    subst hg
    exact it_within 0 1099511627776 [id, n, m] (some ⟨W.heap.size, 0, none⟩) 3 _ _ (boxLies (Box.new W _ _) rfl) (by simp)
  have K5 : Hid (∀ (W : World), Below w.heap.size w W → Calls Tryz.prog 42 #[.slice A X.length c, .int .i64 (X.length : Nat)] W fun e w' => e = .returned (.bool (isV X X.length)) ∧ Below W.heap.size W w') := fun W h => (vec_is A X c w.heap.size X.length W (hA.below h) (by omega) hc).mono fun e w' h => ⟨h.1, belq22 h.2⟩
  unfold rightA
  have hlt := HX.out.lt
  have hN0 : X.length = 0 ∨ ¬ X.length = 0 := by omega
  clear hA hb1
  generalize okK k = ok at *
  generalize badB (fillF id n m X.length) (cF (usedF k)) = bd at *
  generalize inB 0 1099511627776 [id, n, m] = ib at *
  generalize isV X X.length = iv at *
  generalize cF (usedF k) = cf at *
  generalize usedF k = f at *
  generalize fillF id n m X.length = F at *
  generalize X.length = N at *
  cases ok
  · clear K2 K3 K4 K5
    go_enter Tryz.func25, Tryz.ntmps25
    go_wp2_with fail
    refine (K1.out _).mono ?_
    rintro e w1 ⟨rfl, rfl⟩
    go_wp2
    go_ret
    exact ⟨rfl, HB.out⟩
  have HSZ := Lib.hid HB.out.size
  cases bd
  case true =>
    clear K4 K5
    go_enter Tryz.func25, Tryz.ntmps25
    go_wp2_with fail
    refine (K1.out _).mono ?_
    rintro e w1 ⟨rfl, rfl⟩
    go_wp2_with fail
    refine (K2.out _).mono ?_
    rintro e w2 ⟨rfl, b2⟩
    have HB2 := Lib.hid (HB.out.trans (b2.mono HSZ.out))
    clear b2
    go_wp2_with fail
    refine (K3.out _).mono ?_
    rintro e w3 ⟨rfl, rfl⟩
    go_wp2
    go_ret
    exact ⟨rfl, HB2.out⟩
  cases ib
  · clear K5
    go_enter Tryz.func25, Tryz.ntmps25
    go_wp2_with fail
    refine (K1.out _).mono ?_
    rintro e w1 ⟨rfl, rfl⟩
    go_wp2_with fail
    refine (K2.out _).mono ?_
    rintro e w2 ⟨rfl, b2⟩
    have HB2 := Lib.hid (HB.out.trans (b2.mono HSZ.out))
    obtain ⟨x0, x1, x2, x3, x4⟩ := (HX.out.below b2 HX.out.lt).five
    clear b2
    go_wp2_with fail
    refine (K3.out _).mono ?_
    rintro e w3 ⟨rfl, rfl⟩
    have HB3 := Lib.hid (HB2.out.alloc HB2.out.size (.cells #[.int .i64 id, .int .i64 n, .int .i64 m] 3))
    go_wp2_with fail
    refine (K4.out w2 _ rfl).mono ?_
    rintro e w3 ⟨rfl, rfl⟩
    go_wp2
    go_ret
    exact ⟨rfl, HB3.out⟩
  rcases hN0 with h0 | h0
  · subst h0
    clear K5
    go_enter Tryz.func25, Tryz.ntmps25
    go_wp2_with fail
    refine (K1.out _).mono ?_
    rintro e w1 ⟨rfl, rfl⟩
    go_wp2_with fail
    refine (K2.out _).mono ?_
    rintro e w2 ⟨rfl, b2⟩
    have HB2 := Lib.hid (HB.out.trans (b2.mono HSZ.out))
    have hx2 := HX.out.below b2 HX.out.lt
    obtain ⟨x0, x1, x2, x3, x4⟩ := hx2.five
    obtain ⟨z0, z1, z2, z3, z4⟩ := (hx2.alloc (.cells #[.int .i64 id, .int .i64 n, .int .i64 m] 3)).five
    clear b2 hx2
    go_wp2_with fail
    refine (K3.out _).mono ?_
    rintro e w3 ⟨rfl, rfl⟩
    have HB3 := Lib.hid (HB2.out.alloc HB2.out.size (.cells #[.int .i64 id, .int .i64 n, .int .i64 m] 3))
    go_wp2_with fail
    refine (K4.out w2 _ rfl).mono ?_
    rintro e w3 ⟨rfl, rfl⟩
    go_wp2
    go_ret
    exact ⟨rfl, HB3.out⟩
  · have hng : (N == 0) = false := by simpa using h0
    have hngi : ((N : Int) == 0) = false := by simp; omega
    rw [decide_eq_false h0]
    clear h0
    go_enter Tryz.func25, Tryz.ntmps25
    go_wp2_with fail
    refine (K1.out _).mono ?_
    rintro e w1 ⟨rfl, rfl⟩
    go_wp2_with fail
    refine (K2.out _).mono ?_
    rintro e w2 ⟨rfl, b2⟩
    have HB2 := Lib.hid (HB.out.trans (b2.mono HSZ.out))
    have hx2 := HX.out.below b2 HX.out.lt
    obtain ⟨x0, x1, x2, x3, x4⟩ := hx2.five
    obtain ⟨z0, z1, z2, z3, z4⟩ := (hx2.alloc (.cells #[.int .i64 id, .int .i64 n, .int .i64 m] 3)).five
    clear b2 hx2
    go_wp2_with fail
    refine (K3.out _).mono ?_
    rintro e w3 ⟨rfl, rfl⟩
    have HB3 := Lib.hid (HB2.out.alloc HB2.out.size (.cells #[.int .i64 id, .int .i64 n, .int .i64 m] 3))
    go_wp2_with fail
    refine (K4.out w2 _ rfl).mono ?_
    rintro e w3 ⟨rfl, rfl⟩
    go_wp2_with fail
    refine (K5.out _ HB3.out).mono ?_
    rintro e w4 ⟨rfl, b4⟩
    have HB4 := Lib.hid (HB3.out.trans (b4.mono HB3.out.size))
    clear b4
    go_wp2
    go_ret
    exact ⟨rfl, HB4.out⟩
end Go.Proofs.YtpoemflclbhekaaGreat

/-! Layer 22 (item): RightAsk, in the reference. -/
namespace Go.Proofs.YtpoemflclbhekaaGreat
open Go.RowKit
set_option linter.unusedVariables false
set_option linter.unusedSimpArgs false

def rightP (k id n m : Int) (X : List Int) : Prop :=
  (1 ≤ k ∧ k ≤ 7) ∧ X.length ≤ 8 ∧ (0 ≤ id ∧ id ≤ 1099511627776) ∧ (0 ≤ n ∧ n ≤ 1099511627776) ∧ (0 ≤ m ∧ m ≤ 1099511627776) ∧ (∀ x ∈ X, -2147483648 ≤ x ∧ x ≤ 2147483647) ∧
    (nmI k = true ∨ id = 0) ∧ (nmX k = true ∨ X.length = 0) ∧ (nmN k = true ∨ n = 0) ∧ (nmM k = true ∨ m = 0)
def fb (a b c d : Bool) : Nat := (if a = true then 0 else 1) + (if b = true then 0 else 2) + (if c = true then 0 else 4) + (if d = true then 0 else 8)
def ub (a b c d : Bool) : Nat := (if a = true then 1 else 0) + (if b = true then 2 else 0) + (if c = true then 4 else 0) + (if d = true then 8 else 0)
theorem fb_ub : ∀ a b c d e f g h : Bool, badB (fb a b c d) (cF (ub e f g h)) = false ↔ (e = true ∨ a = true) ∧ (f = true ∨ b = true) ∧ (g = true ∨ c = true) ∧ (h = true ∨ d = true) := by decide +kernel
theorem bad_iff (k id n m : Int) (x : Nat) : badB (fillF id n m x) (cF (usedF k)) = false ↔ (nmI k = true ∨ id = 0) ∧ (nmX k = true ∨ x = 0) ∧ (nmN k = true ∨ n = 0) ∧ (nmM k = true ∨ m = 0) := by
  have h1 : fillF id n m x = fb (decide (id = 0)) (decide (x = 0)) (decide (n = 0)) (decide (m = 0)) := by
    unfold fillF fb
    simp only [decide_eq_true_eq]
  have h2 : usedF k = ub (nmI k) (nmX k) (nmN k) (nmM k) := rfl
  rw [h1, h2, fb_ub]
  simp only [decide_eq_true_eq]
theorem right_iff (k id n m : Int) (X : List Int) : rightA k id n m X = true ↔ rightP k id n m X := by
  unfold rightA rightP
  rw [Bool.and_eq_true, Bool.and_eq_true, Bool.and_eq_true, Bool.not_eq_true', bad_iff, Bool.or_eq_true, decide_eq_true_iff, isV_iff]
  have hi : inB 0 1099511627776 [id, n, m] = true ↔ (0 ≤ id ∧ id ≤ 1099511627776) ∧ (0 ≤ n ∧ n ≤ 1099511627776) ∧ (0 ≤ m ∧ m ≤ 1099511627776) := by
    unfold inB
    simp [List.all_cons, Bool.and_eq_true, decide_eq_true_iff]
  rw [hi, show okK k = true ↔ 1 ≤ k ∧ k ≤ 7 from decide_eq_true_iff]
  constructor
  · rintro ⟨⟨⟨h1, h2, h3, h4, h5⟩, h6, h7, h8⟩, h9⟩
    refine ⟨h1, ?_, h6, h7, h8, ?_, h2, h3, h4, h5⟩
    · rcases h9 with h | h <;> omega
    · rcases h9 with h | h
      · intro x hx
        rw [List.eq_nil_of_length_eq_zero h] at hx
        cases hx
      · exact h.2.2.2
  · rintro ⟨h1, h2, h6, h7, h8, h9, h3, h4, h5, h10⟩
    refine ⟨⟨⟨h1, h3, h4, h5, h10⟩, h6, h7, h8⟩, ?_⟩
    by_cases h : X.length = 0
    · exact .inl h
    · exact .inr ⟨by omega, by omega, rfl, h9⟩
end Go.Proofs.YtpoemflclbhekaaGreat

/-! Layer 22 (item): put and checked at requests. -/
namespace Go.Proofs.YtpoemflclbhekaaGreat
open Go.RowKit
set_option linter.unusedVariables false
set_option linter.unusedSimpArgs false

set_option maxRecDepth 100000 in
set_option maxHeartbeats 2000000 in
theorem it_putA (k id n m : Int) (AX : Option Addr) (NX cX : Nat) (R : Bool) (D l : List Int) (A : Option Addr) (c : Nat) (f1 f2 : Nat) (w : World) (hA : LiesY w w.heap.size A l) (hAc : A = none → c = 0) (hl : l.length ≤ 1000)
    (KR : Hid (∀ W, Below w.heap.size w W → Calls Tryz.prog 25 #[.agg #[.int .i64 k, .int .i64 id, .slice AX NX cX, .int .i64 n, .int .i64 m]] W fun e w' => e = .returned (.bool R) ∧ Below W.heap.size W w'))
    (KD : Hid (R = true → D.length ≤ 1000 ∧ ∀ W, Below w.heap.size w W → Calls Tryz.prog 55 #[.agg #[.int .i64 k, .int .i64 id, .slice AX NX cX, .int .i64 n, .int .i64 m]] W (GivesY D W))) :
    Calls Tryz.prog 54 #[.slice A l.length c, .agg #[.int .i64 k, .int .i64 id, .slice AX NX cX, .int .i64 n, .int .i64 m], .func (.func 25) #[] #[], .func (.func 55) #[] #[]] w (GivesY (l ++ if R = true then D else []) w) := by
  have hb1 := ((Below.refl w.heap.size w).alloc (Nat.le_refl _) (.cells #[.int .i64 k, .int .i64 id, .slice AX NX cX, .int .i64 n, .int .i64 m] 51))
  have HA := Lib.hid (hA.below hb1)
  have HAc := Lib.hid hAc
  have HB := Lib.hid hb1
  have HX := Lib.hid (Box.new w #[.int .i64 k, .int .i64 id, .slice AX NX cX, .int .i64 n, .int .i64 m] 51)
  have HLL := Lib.hid hl
  clear hA hAc hb1 hl
  generalize hN : l.length = N at *
  have HN := Lib.hid hN
  clear hN
  unfold GivesY at KD
  have hS : w.heap.size + 1 ≤ (w.alloc (.cells #[.int .i64 k, .int .i64 id, .slice AX NX cX, .int .i64 n, .int .i64 m] 51)).heap.size := by rw [alloc_size']; exact Nat.le_refl _
  have HS := Lib.hid hS
  clear hS
  cases R
  · rw [if_neg (by simp), List.append_nil]
    clear KD
    go_enter Tryz.func54, Tryz.ntmps54
    go_wp2_with (at_builtin; refine app_own (B := w.heap.size + 1) rfl (.const (.slice none 0 0)) (.tmp 10) rfl _ [] l A c N rfl rfl HN.out HAc.out (OwnsY.nil _ _) HA.out HS.out (by have := HLL.out; simp; omega) ?_; intro v1 w1 g1 g2; have HO1 := Lib.hid g1; have HB1 := Lib.hid (HB.out.trans (g2.mono (Nat.le_succ _))); have HX1 := Lib.hid (HX.out.below g2 (Nat.lt_succ_self _)); clear g1 g2; obtain ⟨x0, x1, x2, x3, x4⟩ := HX1.out.five)
    refine (KR.out w1 HB1.out).mono ?_
    rintro e w2 ⟨rfl, b2⟩
    have HO2 := Lib.hid (HO1.out.below b2)
    have HB2 := Lib.hid (HB1.out.trans (b2.mono HB1.out.size))
    clear b2 HO1 HX1
    go_wp2
    go_ret
    exact ⟨⟨_, rfl, by have := ownY_le HO2.out (Nat.le_succ _); rw [List.nil_append] at this; exact this⟩, HB2.out⟩
  · rw [if_pos rfl]
    obtain ⟨hD, hK⟩ := KD.out rfl
    have HD := Lib.hid hD
    have HK := Lib.hid hK
    clear KD hD hK
    go_enter Tryz.func54, Tryz.ntmps54
    go_wp2_with (at_builtin; refine app_own (B := w.heap.size + 1) rfl (.const (.slice none 0 0)) (.tmp 10) rfl _ [] l A c N rfl rfl HN.out HAc.out (OwnsY.nil _ _) HA.out HS.out (by have := HLL.out; simp; omega) ?_; intro v1 w1 g1 g2; have HO1 := Lib.hid g1; have HB1 := Lib.hid (HB.out.trans (g2.mono (Nat.le_succ _))); have HX1 := Lib.hid (HX.out.below g2 (Nat.lt_succ_self _)); have HS1 := Lib.hid (Nat.le_trans HS.out g2.size); clear g1 g2; obtain ⟨x0, x1, x2, x3, x4⟩ := HX1.out.five)
    refine (KR.out w1 HB1.out).mono ?_
    rintro e w2 ⟨rfl, b2⟩
    have HO2 := Lib.hid (HO1.out.below b2)
    have HB2 := Lib.hid (HB1.out.trans (b2.mono HB1.out.size))
    have HX2 := Lib.hid (HX1.out.below b2 HX1.out.lt)
    have HS2 := Lib.hid (Nat.le_trans HS1.out b2.size)
    clear b2 HO1 HX1 x0 x1 x2 x3 x4
    obtain ⟨x0, x1, x2, x3, x4⟩ := HX2.out.five
    go_wp2_with fail
    refine (HK.out w2 HB2.out).mono ?_
    rintro e w3 ⟨⟨v3, rfl, g1⟩, g2⟩
    obtain ⟨A3, c3, rfl, -, -, q3, q4, -⟩ := g1.lies
    have HQ3 := Lib.hid q3
    have HQ4 := Lib.hid q4
    have HO3 := Lib.hid (HO2.out.below g2)
    have HB3 := Lib.hid (HB2.out.trans (g2.mono HB2.out.size))
    have HS3 := Lib.hid (Nat.le_trans HS2.out g2.size)
    have HLN : Hid (([] ++ l).length + D.length ≤ 1000000000) := by show _ ≤ _; have := HLL.out; have := HN.out; have := HD.out; simp; omega
    clear g1 g2 q3 q4 x0 x1 x2 x3 x4 HX2 HK KR
    go_wp2_with (at_builtin; refine app_own (B := w.heap.size + 1) rfl (.tmp 17) (.tmp 20) rfl v1 ([] ++ l) D A3 c3 D.length rfl rfl rfl HQ4.out HO3.out HQ3.out HS3.out HLN.out ?_; intro v4 w4 g1 g2; have HO4 := Lib.hid g1; have HB4 := Lib.hid (HB3.out.trans (g2.mono (Nat.le_succ _))); clear g1 g2)
    go_ret
    exact ⟨⟨_, rfl, by have := ownY_le HO4.out (Nat.le_succ _); rw [List.nil_append] at this; exact this⟩, HB4.out⟩
set_option maxRecDepth 100000 in
set_option maxHeartbeats 4000000 in
theorem it_checkedA (k id n m : Int) (AX : Option Addr) (NX cX : Nat) (R : Bool) (b : List Int) (B g k' : Nat) (e : Int) (w : World) (hR : RdAt w B g b k' e)
    (KR : Hid (∀ W, Below w.heap.size w W → Calls Tryz.prog 25 #[.agg #[.int .i64 k, .int .i64 id, .slice AX NX cX, .int .i64 n, .int .i64 m]] W fun e w' => e = .returned (.bool R) ∧ Below W.heap.size W w')) :
    Calls Tryz.prog 53 #[.pointer (some ⟨g, 0, none⟩), .agg #[.int .i64 k, .int .i64 id, .slice AX NX cX, .int .i64 n, .int .i64 m], .func (.func 25) #[] #[]] w fun r w' => r = .returned (if chkF R e = 0 then .agg #[.int .i64 k, .int .i64 id, .slice AX NX cX, .int .i64 n, .int .i64 m] else .agg #[.int .i64 0, .int .i64 0, .slice none 0 0, .int .i64 0, .int .i64 0]) ∧ RdAt w' B g b k' (chkF R e) ∧ Wr g w w' := by
  obtain ⟨hg, hBg, hk, hbl, hby⟩ := hR.lt
  have hb1 := ((Below.refl w.heap.size w).alloc (Nat.le_refl _) (.cells #[.int .i64 k, .int .i64 id, .slice AX NX cX, .int .i64 n, .int .i64 m] 51))
  have hb2 := hb1.alloc hb1.size (.cells #[.int .i64 0, .int .i64 0, .slice none 0 0, .int .i64 0, .int .i64 0] 51)
  have HX0 := Lib.hid ((Box.new w #[.int .i64 k, .int .i64 id, .slice AX NX cX, .int .i64 n, .int .i64 m] 51).alloc (.cells #[.int .i64 0, .int .i64 0, .slice none 0 0, .int .i64 0, .int .i64 0] 51))
  have hx1 := Box.new (w.alloc (.cells #[.int .i64 k, .int .i64 id, .slice AX NX cX, .int .i64 n, .int .i64 m] 51)) #[.int .i64 0, .int .i64 0, .slice none 0 0, .int .i64 0, .int .i64 0] 51
  rw [alloc_size'] at hx1
  have HX1 := Lib.hid hx1
  have HR := Lib.hid (hR.below hb2)
  have HB := Lib.hid hb2
  have KR2 := Lib.hid (KR.out _ hb2)
  have HRF := Lib.hid (fun W (h : RdAt W B g b k' e) => rd_Fail h 211)
  have HRE := Lib.hid (fun W e2 (h : RdAt W B g b k' e2) => rd_Err h)
  have hn1 : ¬ w.heap.size = g := by omega
  have hn2 : ¬ w.heap.size + 1 = g := by omega
  clear hR hb1 hb2 hx1 KR
  cases R
  · have hf : chkF false e = failE e 211 := rfl
    have hne : ¬ failE e 211 = 0 := by unfold failE; split <;> simp_all
    rw [hf, if_neg hne]
    have hneb : (failE e 211 == 0) = false := by simpa using hne
    have hneb2 : (failE e 211 != 0) = true := by simpa using hne
    clear hf hne
    generalize failE e 211 = E at *
    go_enter Tryz.func53, Tryz.ntmps53
    go_wp2_with fail
    refine (KR2.out).mono ?_
    rintro r w1 ⟨rfl, b1⟩
    have HR1 := Lib.hid (HR.out.below b1)
    have HX1 := Lib.hid (HX1.out.below b1 HX1.out.lt)
    have HB := Lib.hid (HB.out.trans (b1.mono HB.out.size))
    clear b1 HX0
    go_wp2_with fail
    refine (HRF.out w1 HR1.out).mono ?_
    rintro r w2 ⟨rfl, h1, h2⟩
    have HR2 := Lib.hid h1
    have HX1 := Lib.hid (h2.box HX1.out hn2)
    have HW := Lib.hid ((Wr.of g HB.out).trans h2)
    clear h1 h2 HR1
    go_wp2_with fail
    refine (HRE.out w2 _ HR2.out).mono ?_
    rintro r w3 ⟨rfl, rfl⟩
    have hal := (Below.refl w2.heap.size w2).alloc (Nat.le_refl _) (.cells #[.int .i64 0, .int .i64 0, .slice none 0 0, .int .i64 0, .int .i64 0] 51)
    have HX1 := Lib.hid (HX1.out.below hal HX1.out.lt)
    have HR3 := Lib.hid (HR2.out.below hal)
    have HW := Lib.hid (HW.out.trans (Wr.of g hal))
    obtain ⟨x0, x1, x2, x3, x4⟩ := HX1.out.five
    obtain ⟨y0, y1, y2, y3, y4⟩ := HX1.out.frees
    have hlt := HX1.out.lt
    rw [alloc_size'] at hlt
    clear hal
    go_wp2
    have s0 := (HX1.out.set 0 (.int .i64 0)).cell 0
    have s1 := ((HX1.out.set 0 (.int .i64 0)).set 1 (.int .i64 0)).cell 1
    have s2 := (((HX1.out.set 0 (.int .i64 0)).set 1 (.int .i64 0)).set 2 (.slice none 0 0)).cell 2
    have s3 := ((((HX1.out.set 0 (.int .i64 0)).set 1 (.int .i64 0)).set 2 (.slice none 0 0)).set 3 (.int .i64 0)).cell 3
    have s4 := (((((HX1.out.set 0 (.int .i64 0)).set 1 (.int .i64 0)).set 2 (.slice none 0 0)).set 3 (.int .i64 0)).set 4 (.int .i64 0)).cell 4
    refine bodyPost_ret (v := .agg #[.int .i64 0, .int .i64 0, .slice none 0 0, .int .i64 0, .int .i64 0]) (by simp [results, Tryz.results53, go_sem, s0, s1, s2, s3, s4]) rfl ⟨rfl, ?_, ?_⟩
    · exact (((((HR3.out.wr (Wr.set (w.heap.size + 1) 0 _ _) (.inr (by omega))).wr (Wr.set (w.heap.size + 1) 1 _ _) (.inr (by omega))).wr (Wr.set (w.heap.size + 1) 2 _ _) (.inr (by omega))).wr (Wr.set (w.heap.size + 1) 3 _ _) (.inr (by omega))).wr (Wr.set (w.heap.size + 1) 4 _ _) (.inr (by omega)))
    · exact (((((HW.out.setNewI (p := ⟨w.heap.size + 1, 0, none⟩) (by show w.heap.size ≤ w.heap.size + 1; omega) _).setNewI (p := ⟨w.heap.size + 1, 1, none⟩) (by show w.heap.size ≤ w.heap.size + 1; omega) _).setNewI (p := ⟨w.heap.size + 1, 2, none⟩) (by show w.heap.size ≤ w.heap.size + 1; omega) _).setNewI (p := ⟨w.heap.size + 1, 3, none⟩) (by show w.heap.size ≤ w.heap.size + 1; omega) _).setNewI (p := ⟨w.heap.size + 1, 4, none⟩) (by show w.heap.size ≤ w.heap.size + 1; omega) _)
  · have hf : chkF true e = e := rfl
    rw [hf]
    clear hf HRF
    by_cases he : e = 0
    · subst he
      rw [if_pos rfl]
      go_enter Tryz.func53, Tryz.ntmps53
      go_wp2_with fail
      refine (KR2.out).mono ?_
      rintro r w1 ⟨rfl, b1⟩
      have HR1 := Lib.hid (HR.out.below b1)
      have HX0 := Lib.hid (HX0.out.below b1 HX0.out.lt)
      have HX1 := Lib.hid (HX1.out.below b1 HX1.out.lt)
      have HW := Lib.hid (Wr.of g (HB.out.trans (b1.mono HB.out.size)))
      clear b1
      go_wp2_with fail
      refine (HRE.out w1 _ HR1.out).mono ?_
      rintro r w3 ⟨rfl, rfl⟩
      obtain ⟨z0, z1, z2, z3, z4⟩ := HX0.out.five
      obtain ⟨x0, x1, x2, x3, x4⟩ := HX1.out.five
      obtain ⟨y0, y1, y2, y3, y4⟩ := HX1.out.frees
      go_wp2
      have s0 := (HX1.out.set 0 (.int .i64 k)).cell 0
      have s1 := ((HX1.out.set 0 (.int .i64 k)).set 1 (.int .i64 id)).cell 1
      have s2 := (((HX1.out.set 0 (.int .i64 k)).set 1 (.int .i64 id)).set 2 (.slice AX NX cX)).cell 2
      have s3 := ((((HX1.out.set 0 (.int .i64 k)).set 1 (.int .i64 id)).set 2 (.slice AX NX cX)).set 3 (.int .i64 n)).cell 3
      have s4 := (((((HX1.out.set 0 (.int .i64 k)).set 1 (.int .i64 id)).set 2 (.slice AX NX cX)).set 3 (.int .i64 n)).set 4 (.int .i64 m)).cell 4
      refine bodyPost_ret (v := .agg #[.int .i64 k, .int .i64 id, .slice AX NX cX, .int .i64 n, .int .i64 m]) (by simp [results, Tryz.results53, go_sem, s0, s1, s2, s3, s4]) rfl ⟨rfl, ?_, ?_⟩
      · exact (((((HR1.out.wr (Wr.set (w.heap.size + 1) 0 _ _) (.inr (by omega))).wr (Wr.set (w.heap.size + 1) 1 _ _) (.inr (by omega))).wr (Wr.set (w.heap.size + 1) 2 _ _) (.inr (by omega))).wr (Wr.set (w.heap.size + 1) 3 _ _) (.inr (by omega))).wr (Wr.set (w.heap.size + 1) 4 _ _) (.inr (by omega)))
      · exact (((((HW.out.setNewI (p := ⟨w.heap.size + 1, 0, none⟩) (by show w.heap.size ≤ w.heap.size + 1; omega) _).setNewI (p := ⟨w.heap.size + 1, 1, none⟩) (by show w.heap.size ≤ w.heap.size + 1; omega) _).setNewI (p := ⟨w.heap.size + 1, 2, none⟩) (by show w.heap.size ≤ w.heap.size + 1; omega) _).setNewI (p := ⟨w.heap.size + 1, 3, none⟩) (by show w.heap.size ≤ w.heap.size + 1; omega) _).setNewI (p := ⟨w.heap.size + 1, 4, none⟩) (by show w.heap.size ≤ w.heap.size + 1; omega) _)
    · rw [if_neg he]
      have hneb : (e == 0) = false := by simpa using he
      have hneb2 : (e != 0) = true := by simpa using he
      clear he
      go_enter Tryz.func53, Tryz.ntmps53
      go_wp2_with fail
      refine (KR2.out).mono ?_
      rintro r w2 ⟨rfl, b1⟩
      have HR2 := Lib.hid (HR.out.below b1)
      have HX1 := Lib.hid (HX1.out.below b1 HX1.out.lt)
      have HW := Lib.hid (Wr.of g (HB.out.trans (b1.mono HB.out.size)))
      clear b1 HX0
      go_wp2_with fail
      refine (HRE.out w2 _ HR2.out).mono ?_
      rintro r w3 ⟨rfl, rfl⟩
      have hal := (Below.refl w2.heap.size w2).alloc (Nat.le_refl _) (.cells #[.int .i64 0, .int .i64 0, .slice none 0 0, .int .i64 0, .int .i64 0] 51)
      have HX1 := Lib.hid (HX1.out.below hal HX1.out.lt)
      have HR3 := Lib.hid (HR2.out.below hal)
      have HW := Lib.hid (HW.out.trans (Wr.of g hal))
      obtain ⟨x0, x1, x2, x3, x4⟩ := HX1.out.five
      obtain ⟨y0, y1, y2, y3, y4⟩ := HX1.out.frees
      have hlt := HX1.out.lt
      rw [alloc_size'] at hlt
      clear hal
      go_wp2
      have s0 := (HX1.out.set 0 (.int .i64 0)).cell 0
      have s1 := ((HX1.out.set 0 (.int .i64 0)).set 1 (.int .i64 0)).cell 1
      have s2 := (((HX1.out.set 0 (.int .i64 0)).set 1 (.int .i64 0)).set 2 (.slice none 0 0)).cell 2
      have s3 := ((((HX1.out.set 0 (.int .i64 0)).set 1 (.int .i64 0)).set 2 (.slice none 0 0)).set 3 (.int .i64 0)).cell 3
      have s4 := (((((HX1.out.set 0 (.int .i64 0)).set 1 (.int .i64 0)).set 2 (.slice none 0 0)).set 3 (.int .i64 0)).set 4 (.int .i64 0)).cell 4
      refine bodyPost_ret (v := .agg #[.int .i64 0, .int .i64 0, .slice none 0 0, .int .i64 0, .int .i64 0]) (by simp [results, Tryz.results53, go_sem, s0, s1, s2, s3, s4]) rfl ⟨rfl, ?_, ?_⟩
      · exact (((((HR3.out.wr (Wr.set (w.heap.size + 1) 0 _ _) (.inr (by omega))).wr (Wr.set (w.heap.size + 1) 1 _ _) (.inr (by omega))).wr (Wr.set (w.heap.size + 1) 2 _ _) (.inr (by omega))).wr (Wr.set (w.heap.size + 1) 3 _ _) (.inr (by omega))).wr (Wr.set (w.heap.size + 1) 4 _ _) (.inr (by omega)))
      · exact (((((HW.out.setNewI (p := ⟨w.heap.size + 1, 0, none⟩) (by show w.heap.size ≤ w.heap.size + 1; omega) _).setNewI (p := ⟨w.heap.size + 1, 1, none⟩) (by show w.heap.size ≤ w.heap.size + 1; omega) _).setNewI (p := ⟨w.heap.size + 1, 2, none⟩) (by show w.heap.size ≤ w.heap.size + 1; omega) _).setNewI (p := ⟨w.heap.size + 1, 3, none⟩) (by show w.heap.size ≤ w.heap.size + 1; omega) _).setNewI (p := ⟨w.heap.size + 1, 4, none⟩) (by show w.heap.size ≤ w.heap.size + 1; omega) _)
end Go.Proofs.YtpoemflclbhekaaGreat

/-! Layer 22 (item): requests as bytes, in the code. -/
namespace Go.Proofs.YtpoemflclbhekaaGreat
open Go.RowKit
set_option linter.unusedVariables false
set_option linter.unusedSimpArgs false

/-- the bytes of a request -/
def aB (k id n m : Int) (X : List Int) : List Int := uB k.toNat ++ (if nmI k = true then uB id.toNat else []) ++ (if nmX k = true then lB X else []) ++ (if nmN k = true then uB n.toNat else []) ++ (if nmM k = true then uB m.toNat else [])
theorem ub_has : ∀ a b c d : Bool, badB (ub a b c d) 1 = a ∧ badB (ub a b c d) 2 = b ∧ badB (ub a b c d) 4 = c ∧ badB (ub a b c d) 8 = d := by decide +kernel
theorem used_has (k : Int) : badB (usedF k) 1 = nmI k ∧ badB (usedF k) 2 = nmX k ∧ badB (usedF k) 4 = nmN k ∧ badB (usedF k) 8 = nmM k := ub_has _ _ _ _
theorem pats (k : Int) : (nmI k = true ∧ nmX k = true ∧ nmN k = false ∧ nmM k = false) ∨ (nmI k = false ∧ nmX k = true ∧ nmN k = false ∧ nmM k = false) ∨ (nmI k = false ∧ nmX k = false ∧ nmN k = true ∧ nmM k = true) ∨ (nmI k = false ∧ nmX k = false ∧ nmN k = true ∧ nmM k = false) ∨ (nmI k = false ∧ nmX k = false ∧ nmN k = false ∧ nmM k = false) := by
  rcases kinds k with rfl | rfl | rfl | rfl | rfl | rfl | rfl | ⟨h0, hu, h1, h2, h3, h4, h5, h6, h7⟩
  case inr.inr.inr.inr.inr.inr.inr =>
    have q : ∀ j : Int, (k == j) = false → ¬ k = j := fun j h => by simpa using h
    refine .inr (.inr (.inr (.inr ⟨decide_eq_false (q 1 h1), decide_eq_false ?_, decide_eq_false ?_, decide_eq_false (q 3 h3)⟩)))
    · have := q 1 h1; have := q 2 h2; have := q 7 h7; omega
    · have := q 3 h3; have := q 4 h4; omega
  all_goals decide
set_option maxRecDepth 100000 in
set_option maxHeartbeats 8000000 in
theorem it_askBytes (k id n m : Int) (X : List Int) (A : Option Addr) (c : Nat) (w : World) (hA : Lies w w.heap.size A X) (hr : rightA k id n m X = true) : Calls Tryz.prog 55 #[.agg #[.int .i64 k, .int .i64 id, .slice A X.length c, .int .i64 n, .int .i64 m]] w (GivesY (aB k id n m X) w) := by
  obtain ⟨⟨k1, k2⟩, hX8, ⟨i1, i2⟩, ⟨n1, n2⟩, ⟨m1, m2⟩, hXr, -⟩ := (right_iff ..).mp hr
  have hb1 := (Below.refl w.heap.size w).alloc (Nat.le_refl _) (.cells #[.int .i64 k, .int .i64 id, .slice A X.length c, .int .i64 n, .int .i64 m] 51)
  have hb2 := hb1.alloc hb1.size (.cells #[.int .i64 k] 3)
  have hbx := Box.new (w.alloc (.cells #[.int .i64 k, .int .i64 id, .slice A X.length c, .int .i64 n, .int .i64 m] 51)) #[.int .i64 k] 3
  rw [alloc_size'] at hbx
  have hx0 := (Box.new w #[.int .i64 k, .int .i64 id, .slice A X.length c, .int .i64 n, .int .i64 m] 51).alloc (.cells #[.int .i64 k] 3)
  have KN := Lib.hid (it_numbers [k] (some ⟨w.heap.size + 1, 0, none⟩) 1 _ (boxLies hbx rfl) (by intro x hx; simp at hx; omega) (by simp))
  rw [show nB [k] = uB k.toNat from by unfold nB; simp] at KN
  unfold GivesY at KN
  have HX := Lib.hid hx0
  have HB := Lib.hid hb2
  have KS := Lib.hid (fun W => it_used k W)
  obtain ⟨hh1, hh2, hh4, hh8⟩ := used_has k
  have KH : Hid (∀ W (j : Nat) (q : Bool), j < 18446744073709551616 → badB (usedF k) j = q → Calls Tryz.prog 51 #[.int .u64 (usedF k : Nat), .int .u64 (j : Int)] W fun e w' => e = .returned (.bool q) ∧ W = w') := fun W j q hj hq => by
    have := it_has (usedF k) j (Nat.lt_trans (used_lt k) (by omega)) hj W
    rw [hq] at this
    exact this
  have KH1 := Lib.hid (fun W => KH.out W 1 _ (by omega) hh1)
  have KH2 := Lib.hid (fun W => KH.out W 2 _ (by omega) hh2)
  have KH4 := Lib.hid (fun W => KH.out W 4 _ (by omega) hh4)
  have KH8 := Lib.hid (fun W => KH.out W 8 _ (by omega) hh8)
  have KU : Hid (∀ (W : World) (v : Value) (l : List Int) (x : Int), Below w.heap.size w W → OwnsY W w.heap.size v l → l.length ≤ 10000 → 0 ≤ x → x < 18446744073709551616 → Calls Tryz.prog 72 #[v, .int .u64 x] W fun e w' => (∃ v', e = .returned v' ∧ OwnsY w' w.heap.size v' (l ++ uB x.toNat)) ∧ Below W.heap.size W w') := fun W v l x h ho hl h0 h1 => by
    obtain ⟨A1, c1, rfl, q1, q2, q3, -, q5⟩ := ho.lies
    obtain ⟨j, rfl⟩ := Int.eq_ofNat_of_zero_le h0
    refine (bin_U l A1 c1 j W q3 q1 (by omega) (by omega)).mono ?_
    rintro e w' ⟨⟨v', rfl, g1⟩, g2⟩
    rw [Int.toNat_natCast]
    exact ⟨⟨v', rfl, ownY_le g1 h.size⟩, g2⟩
  have KL : Hid (∀ (W : World) (v : Value) (l : List Int), Below w.heap.size w W → OwnsY W w.heap.size v l → l.length ≤ 10000 → Calls Tryz.prog 77 #[v, .slice A X.length c] W fun e w' => (∃ v', e = .returned v' ∧ OwnsY w' w.heap.size v' (l ++ lB X)) ∧ Below W.heap.size W w') := fun W v l h ho hl => by
    obtain ⟨A1, c1, rfl, q1, q2, q3, -, q5⟩ := ho.lies
    refine (bin_Ints l A1 c1 X A c W q3 q1 (by omega) ((hA.below h).mono h.size) (by omega) (fun x hx => by have := hXr x hx; unfold I64; omega)).mono ?_
    rintro e w' ⟨⟨v', rfl, g1⟩, g2⟩
    exact ⟨⟨v', rfl, ownY_le g1 h.size⟩, g2⟩
  have HK9 : Hid ((uB k.toNat).length ≤ 9) := (uB_len (by omega)).2
  have HI9 : Hid ((uB id.toNat).length ≤ 9) := (uB_len (by omega)).2
  have HN9 : Hid ((uB n.toNat).length ≤ 9) := (uB_len (by omega)).2
  have HL9 : Hid ((lB X).length ≤ 9 + 9 * X.length) := by
    show _ ≤ _
    have := (uB_len (n := X.length) (by omega)).2
    have h3 := flat_iB X (fun x hx => by have := hXr x hx; unfold I64; omega)
    unfold lB
    rw [List.length_append]
    omega
  have hX8' := hX8
  have ei : id % 18446744073709551616 = id := by omega
  have en : n % 18446744073709551616 = n := by omega
  have em : m % 18446744073709551616 = m := by omega
  have HX8 := Lib.hid hX8
  clear hA hr hXr hb1 hb2 hbx hx0 KH hX8 hX8'
  unfold aB
  have HSX := HX.out.lt
  generalize usedF k = f at *
  generalize X.length = N at *
  generalize hXL : lB X = XL at *
  clear hXL
  rcases pats k with ⟨p1, p2, p3, p4⟩ | ⟨p1, p2, p3, p4⟩ | ⟨p1, p2, p3, p4⟩ | ⟨p1, p2, p3, p4⟩ | ⟨p1, p2, p3, p4⟩
  · rw [p1] at KH1
    rw [p2] at KH2
    rw [p3] at KH4
    rw [p4] at KH8
    rw [p1, p2, p3, p4]
    simp only [if_true, if_false, Bool.false_eq_true, List.append_nil]
    clear p1 p2 p3 p4 hh1 hh2 hh4 hh8
    go_enter Tryz.func55, Tryz.ntmps55
    go_wp2_with fail
    refine (KN.out).mono ?_
    rintro e w1 ⟨⟨v1, rfl, g1⟩, g2⟩
    have HO := Lib.hid (ownY_le g1 HB.out.size)
    have HBW := Lib.hid (HB.out.trans (g2.mono HB.out.size))
    have HXW := Lib.hid (HX.out.below g2 HSX)
    clear g1 g2
    obtain ⟨x0, x1, x2, x3, x4⟩ := HXW.out.five
    go_wp2_with fail
    refine (KS.out _).mono ?_
    rintro e w2 ⟨rfl, rfl⟩
    go_wp2_with fail
    refine (KH1.out _).mono ?_
    rintro e wq ⟨rfl, rfl⟩
    go_wp2_with fail
    refine (KU.out _ _ _ id HBW.out HO.out (by have := HK9.out; have := HI9.out; have := HL9.out; have := HN9.out; have := HX8.out; (try simp only [List.length_append]); omega) (by omega) (by omega)).mono ?_
    rintro e wa ⟨⟨va, rfl, g1⟩, g2⟩
    have HO := Lib.hid g1
    have HXW := Lib.hid (HXW.out.below g2 HXW.out.lt)
    have HBW := Lib.hid (HBW.out.trans (g2.mono HBW.out.size))
    clear g1 g2 x0 x1 x2 x3 x4
    obtain ⟨x0, x1, x2, x3, x4⟩ := HXW.out.five
    go_wp2_with fail
    refine (KH2.out _).mono ?_
    rintro e wq ⟨rfl, rfl⟩
    go_wp2_with fail
    refine (KL.out _ _ _ HBW.out HO.out (by have := HK9.out; have := HI9.out; have := HL9.out; have := HN9.out; have := HX8.out; (try simp only [List.length_append]); omega)).mono ?_
    rintro e wb ⟨⟨vb, rfl, g1⟩, g2⟩
    have HO := Lib.hid g1
    have HXW := Lib.hid (HXW.out.below g2 HXW.out.lt)
    have HBW := Lib.hid (HBW.out.trans (g2.mono HBW.out.size))
    clear g1 g2 x0 x1 x2 x3 x4
    obtain ⟨x0, x1, x2, x3, x4⟩ := HXW.out.five
    go_wp2_with fail
    refine (KH4.out _).mono ?_
    rintro e wq ⟨rfl, rfl⟩
    go_wp2_with fail
    refine (KH8.out _).mono ?_
    rintro e wq ⟨rfl, rfl⟩
    go_wp2
    go_ret
    exact ⟨⟨_, rfl, HO.out⟩, HBW.out⟩
  · rw [p1] at KH1
    rw [p2] at KH2
    rw [p3] at KH4
    rw [p4] at KH8
    rw [p1, p2, p3, p4]
    simp only [if_true, if_false, Bool.false_eq_true, List.append_nil]
    clear p1 p2 p3 p4 hh1 hh2 hh4 hh8
    go_enter Tryz.func55, Tryz.ntmps55
    go_wp2_with fail
    refine (KN.out).mono ?_
    rintro e w1 ⟨⟨v1, rfl, g1⟩, g2⟩
    have HO := Lib.hid (ownY_le g1 HB.out.size)
    have HBW := Lib.hid (HB.out.trans (g2.mono HB.out.size))
    have HXW := Lib.hid (HX.out.below g2 HSX)
    clear g1 g2
    obtain ⟨x0, x1, x2, x3, x4⟩ := HXW.out.five
    go_wp2_with fail
    refine (KS.out _).mono ?_
    rintro e w2 ⟨rfl, rfl⟩
    go_wp2_with fail
    refine (KH1.out _).mono ?_
    rintro e wq ⟨rfl, rfl⟩
    go_wp2_with fail
    refine (KH2.out _).mono ?_
    rintro e wq ⟨rfl, rfl⟩
    go_wp2_with fail
    refine (KL.out _ _ _ HBW.out HO.out (by have := HK9.out; have := HI9.out; have := HL9.out; have := HN9.out; have := HX8.out; (try simp only [List.length_append]); omega)).mono ?_
    rintro e wb ⟨⟨vb, rfl, g1⟩, g2⟩
    have HO := Lib.hid g1
    have HXW := Lib.hid (HXW.out.below g2 HXW.out.lt)
    have HBW := Lib.hid (HBW.out.trans (g2.mono HBW.out.size))
    clear g1 g2 x0 x1 x2 x3 x4
    obtain ⟨x0, x1, x2, x3, x4⟩ := HXW.out.five
    go_wp2_with fail
    refine (KH4.out _).mono ?_
    rintro e wq ⟨rfl, rfl⟩
    go_wp2_with fail
    refine (KH8.out _).mono ?_
    rintro e wq ⟨rfl, rfl⟩
    go_wp2
    go_ret
    exact ⟨⟨_, rfl, HO.out⟩, HBW.out⟩
  · rw [p1] at KH1
    rw [p2] at KH2
    rw [p3] at KH4
    rw [p4] at KH8
    rw [p1, p2, p3, p4]
    simp only [if_true, if_false, Bool.false_eq_true, List.append_nil]
    clear p1 p2 p3 p4 hh1 hh2 hh4 hh8
    go_enter Tryz.func55, Tryz.ntmps55
    go_wp2_with fail
    refine (KN.out).mono ?_
    rintro e w1 ⟨⟨v1, rfl, g1⟩, g2⟩
    have HO := Lib.hid (ownY_le g1 HB.out.size)
    have HBW := Lib.hid (HB.out.trans (g2.mono HB.out.size))
    have HXW := Lib.hid (HX.out.below g2 HSX)
    clear g1 g2
    obtain ⟨x0, x1, x2, x3, x4⟩ := HXW.out.five
    go_wp2_with fail
    refine (KS.out _).mono ?_
    rintro e w2 ⟨rfl, rfl⟩
    go_wp2_with fail
    refine (KH1.out _).mono ?_
    rintro e wq ⟨rfl, rfl⟩
    go_wp2_with fail
    refine (KH2.out _).mono ?_
    rintro e wq ⟨rfl, rfl⟩
    go_wp2_with fail
    refine (KH4.out _).mono ?_
    rintro e wq ⟨rfl, rfl⟩
    go_wp2_with fail
    refine (KU.out _ _ _ n HBW.out HO.out (by have := HK9.out; have := HI9.out; have := HL9.out; have := HN9.out; have := HX8.out; (try simp only [List.length_append]); omega) (by omega) (by omega)).mono ?_
    rintro e wc ⟨⟨vc, rfl, g1⟩, g2⟩
    have HO := Lib.hid g1
    have HXW := Lib.hid (HXW.out.below g2 HXW.out.lt)
    have HBW := Lib.hid (HBW.out.trans (g2.mono HBW.out.size))
    clear g1 g2 x0 x1 x2 x3 x4
    obtain ⟨x0, x1, x2, x3, x4⟩ := HXW.out.five
    go_wp2_with fail
    refine (KH8.out _).mono ?_
    rintro e wq ⟨rfl, rfl⟩
    go_wp2_with fail
    refine (KU.out _ _ _ m HBW.out HO.out (by have := HK9.out; have := HI9.out; have := HL9.out; have := HN9.out; have := HX8.out; (try simp only [List.length_append]); omega) (by omega) (by omega)).mono ?_
    rintro e wd ⟨⟨vd, rfl, g1⟩, g2⟩
    have HO := Lib.hid g1
    have HXW := Lib.hid (HXW.out.below g2 HXW.out.lt)
    have HBW := Lib.hid (HBW.out.trans (g2.mono HBW.out.size))
    clear g1 g2 x0 x1 x2 x3 x4
    obtain ⟨x0, x1, x2, x3, x4⟩ := HXW.out.five
    go_wp2
    go_ret
    exact ⟨⟨_, rfl, HO.out⟩, HBW.out⟩
  · rw [p1] at KH1
    rw [p2] at KH2
    rw [p3] at KH4
    rw [p4] at KH8
    rw [p1, p2, p3, p4]
    simp only [if_true, if_false, Bool.false_eq_true, List.append_nil]
    clear p1 p2 p3 p4 hh1 hh2 hh4 hh8
    go_enter Tryz.func55, Tryz.ntmps55
    go_wp2_with fail
    refine (KN.out).mono ?_
    rintro e w1 ⟨⟨v1, rfl, g1⟩, g2⟩
    have HO := Lib.hid (ownY_le g1 HB.out.size)
    have HBW := Lib.hid (HB.out.trans (g2.mono HB.out.size))
    have HXW := Lib.hid (HX.out.below g2 HSX)
    clear g1 g2
    obtain ⟨x0, x1, x2, x3, x4⟩ := HXW.out.five
    go_wp2_with fail
    refine (KS.out _).mono ?_
    rintro e w2 ⟨rfl, rfl⟩
    go_wp2_with fail
    refine (KH1.out _).mono ?_
    rintro e wq ⟨rfl, rfl⟩
    go_wp2_with fail
    refine (KH2.out _).mono ?_
    rintro e wq ⟨rfl, rfl⟩
    go_wp2_with fail
    refine (KH4.out _).mono ?_
    rintro e wq ⟨rfl, rfl⟩
    go_wp2_with fail
    refine (KU.out _ _ _ n HBW.out HO.out (by have := HK9.out; have := HI9.out; have := HL9.out; have := HN9.out; have := HX8.out; (try simp only [List.length_append]); omega) (by omega) (by omega)).mono ?_
    rintro e wc ⟨⟨vc, rfl, g1⟩, g2⟩
    have HO := Lib.hid g1
    have HXW := Lib.hid (HXW.out.below g2 HXW.out.lt)
    have HBW := Lib.hid (HBW.out.trans (g2.mono HBW.out.size))
    clear g1 g2 x0 x1 x2 x3 x4
    obtain ⟨x0, x1, x2, x3, x4⟩ := HXW.out.five
    go_wp2_with fail
    refine (KH8.out _).mono ?_
    rintro e wq ⟨rfl, rfl⟩
    go_wp2
    go_ret
    exact ⟨⟨_, rfl, HO.out⟩, HBW.out⟩
  · rw [p1] at KH1
    rw [p2] at KH2
    rw [p3] at KH4
    rw [p4] at KH8
    rw [p1, p2, p3, p4]
    simp only [if_true, if_false, Bool.false_eq_true, List.append_nil]
    clear p1 p2 p3 p4 hh1 hh2 hh4 hh8
    go_enter Tryz.func55, Tryz.ntmps55
    go_wp2_with fail
    refine (KN.out).mono ?_
    rintro e w1 ⟨⟨v1, rfl, g1⟩, g2⟩
    have HO := Lib.hid (ownY_le g1 HB.out.size)
    have HBW := Lib.hid (HB.out.trans (g2.mono HB.out.size))
    have HXW := Lib.hid (HX.out.below g2 HSX)
    clear g1 g2
    obtain ⟨x0, x1, x2, x3, x4⟩ := HXW.out.five
    go_wp2_with fail
    refine (KS.out _).mono ?_
    rintro e w2 ⟨rfl, rfl⟩
    go_wp2_with fail
    refine (KH1.out _).mono ?_
    rintro e wq ⟨rfl, rfl⟩
    go_wp2_with fail
    refine (KH2.out _).mono ?_
    rintro e wq ⟨rfl, rfl⟩
    go_wp2_with fail
    refine (KH4.out _).mono ?_
    rintro e wq ⟨rfl, rfl⟩
    go_wp2_with fail
    refine (KH8.out _).mono ?_
    rintro e wq ⟨rfl, rfl⟩
    go_wp2
    go_ret
    exact ⟨⟨_, rfl, HO.out⟩, HBW.out⟩
end Go.Proofs.YtpoemflclbhekaaGreat

/-! Layer 22 (item): requests written and read, in the code: PutAsk, GetAsk. -/
namespace Go.Proofs.YtpoemflclbhekaaGreat
open Go.RowKit
set_option linter.unusedVariables false
set_option linter.unusedSimpArgs false

/-- what is written of a request -/
def aW (k id n m : Int) (X : List Int) : List Int := if rightA k id n m X = true then aB k id n m X else []
theorem aB_len {k id n m : Int} {X : List Int} (hr : rightA k id n m X = true) : (aB k id n m X).length ≤ 1000 := by
  obtain ⟨⟨k1, k2⟩, hX8, ⟨i1, i2⟩, ⟨n1, n2⟩, ⟨m1, m2⟩, hXr, -⟩ := (right_iff ..).mp hr
  have h1 := (uB_len (n := k.toNat) (by omega)).2
  have h2 := (uB_len (n := id.toNat) (by omega)).2
  have h3 := (uB_len (n := n.toNat) (by omega)).2
  have h4 := (uB_len (n := m.toNat) (by omega)).2
  have h5 := (uB_len (n := X.length) (by omega)).2
  have h6 := flat_iB X (fun x hx => by have := hXr x hx; unfold I64; omega)
  unfold aB lB
  simp only [List.length_append]
  split <;> split <;> split <;> split <;> simp only [List.length_append, List.length_nil] <;> omega
set_option maxRecDepth 100000 in
set_option maxHeartbeats 2000000 in
theorem it_PutAsk (k id n m : Int) (X : List Int) (AX : Option Addr) (cX : Nat) (l : List Int) (A : Option Addr) (c : Nat) (w : World) (hX : Lies w w.heap.size AX X) (hX8 : X.length ≤ 1000000) (hXc : X.length ≤ cX) (hA : LiesY w w.heap.size A l) (hAc : A = none → c = 0) (hl : l.length ≤ 1000) :
    Calls Tryz.prog 21 #[.slice A l.length c, .agg #[.int .i64 k, .int .i64 id, .slice AX X.length cX, .int .i64 n, .int .i64 m]] w (GivesY (l ++ aW k id n m X) w) := by
  have hb1 := ((Below.refl w.heap.size w).alloc (Nat.le_refl _) (.cells #[.int .i64 k, .int .i64 id, .slice AX X.length cX, .int .i64 n, .int .i64 m] 51))
  have up : ∀ W, Below (w.alloc (.cells #[.int .i64 k, .int .i64 id, .slice AX X.length cX, .int .i64 n, .int .i64 m] 51)).heap.size (w.alloc (.cells #[.int .i64 k, .int .i64 id, .slice AX X.length cX, .int .i64 n, .int .i64 m] 51)) W → Lies W W.heap.size AX X := fun W h => (hX.below (hb1.trans (h.mono hb1.size))).mono (Nat.le_trans hb1.size h.size)
  have K := Lib.hid (it_putA k id n m AX X.length cX (rightA k id n m X) (aB k id n m X) l A c 0 0 _ (hA.up hb1) hAc hl (fun W h => it_RightAsk k id n m X AX cX W (up W h) (by omega) hXc) (fun hR => ⟨aB_len hR, fun W h => it_askBytes k id n m X AX cX W (up W h) hR⟩))
  rw [show (if rightA k id n m X = true then aB k id n m X else []) = aW k id n m X from rfl] at K
  have HB := Lib.hid hb1
  clear hA hAc hl hb1 up hX hX8 hXc
  unfold GivesY at K
  generalize l ++ aW k id n m X = D at *
  generalize l.length = N at *
  generalize X.length = NX at *
  go_enter Tryz.func21, Tryz.ntmps21
  go_wp2_with fail
  refine (K.out).mono ?_
  rintro e w2 ⟨⟨v2, rfl, g1⟩, g2⟩
  have HO := Lib.hid (ownY_le g1 HB.out.size)
  have HB2 := Lib.hid (HB.out.trans (g2.mono HB.out.size))
  clear g1 g2
  go_wp2
  go_ret
  exact ⟨⟨_, rfl, HO.out⟩, HB2.out⟩
/-- a request that is read -/
def rdI (b : List Int) (q : Bool) (s : Nat × Int) : (Nat × Int) × Nat := if q = true then rN b s.1 s.2 1099511627776 else (s, 0)
def rdX (b : List Int) (q : Bool) (s : Nat × Int) : (Nat × Int) × List Int := if q = true then rL b s.1 s.2 8 else (s, [])
def finA (kind id : Nat) (X : List Int) (n : Nat) (rm : (Nat × Int) × Nat) : (Nat × Int) × (Nat × Nat × List Int × Nat × Nat) :=
  ((rm.1.1, chkF (rightA kind id n rm.2 X) rm.1.2), if chkF (rightA kind id n rm.2 X) rm.1.2 = 0 then (kind, id, X, n, rm.2) else (0, 0, [], 0, 0))
def gA5 (b : List Int) (bi bx bn bm : Bool) (kind : Nat) (s : Nat × Int) : (Nat × Int) × (Nat × Nat × List Int × Nat × Nat) :=
  finA kind (rdI b bi s).2 (rdX b bx (rdI b bi s).1).2 (rdI b bn (rdX b bx (rdI b bi s).1).1).2 (rdI b bm (rdI b bn (rdX b bx (rdI b bi s).1).1).1)
def gA (b : List Int) (k : Nat) (e : Int) : (Nat × Int) × (Nat × Nat × List Int × Nat × Nat) :=
  gA5 b (nmI (rN b k e 1099511627776).2) (nmX (rN b k e 1099511627776).2) (nmN (rN b k e 1099511627776).2) (nmM (rN b k e 1099511627776).2) (rN b k e 1099511627776).2 ((rN b k e 1099511627776).1.1, chkF (okK (rN b k e 1099511627776).2) (rN b k e 1099511627776).1.2)
def GivesA (B g : Nat) (b : List Int) (out : (Nat × Int) × (Nat × Nat × List Int × Nat × Nat)) (w : World) (r : Ending) (w' : World) : Prop :=
  ∃ A c, r = .returned (.agg #[.int .i64 (out.2.1 : Nat), .int .i64 (out.2.2.1 : Nat), .slice A out.2.2.2.1.length c, .int .i64 (out.2.2.2.2.1 : Nat), .int .i64 (out.2.2.2.2.2 : Nat)]) ∧
    w'.ownsRow w.heap.size 3 1 (.slice A out.2.2.2.1.length c) out.2.2.2.1.length (litI out.2.2.2.1) ∧ RdAt w' B g b out.1.1 out.1.2 ∧ Wr g w w'
theorem finA_bad {kind id n : Nat} {X : List Int} {rm : (Nat × Int) × Nat} (h : rightA kind id n rm.2 X = false) : finA kind id X n rm = ((rm.1.1, failE rm.1.2 211), (0, 0, [], 0, 0)) := by
  unfold finA
  rw [h]
  have hne : ¬ failE rm.1.2 211 = 0 := by unfold failE; split <;> simp_all
  show (_, if failE rm.1.2 211 = 0 then _ else _) = _
  rw [if_neg hne]
  rfl
theorem failE_twice (e : Int) : failE (failE e 211) 211 = failE e 211 := by
  unfold failE
  split <;> simp_all
end Go.Proofs.YtpoemflclbhekaaGreat

/-! Layer 22 (item): requests read, in the code: GetAsk. -/
namespace Go.Proofs.YtpoemflclbhekaaGreat
open Go.RowKit
set_option linter.unusedVariables false
set_option linter.unusedSimpArgs false

theorem chk_out (kind id n : Nat) (X : List Int) (rm : (Nat × Int) × Nat) (AX : Option Addr) (cX : Nat) : ∃ oA oc,
    (if chkF (rightA kind id n rm.2 X) rm.1.2 = 0 then Value.agg #[.int .i64 (kind : Nat), .int .i64 (id : Nat), .slice AX X.length cX, .int .i64 (n : Nat), .int .i64 (rm.2 : Nat)] else .agg #[.int .i64 0, .int .i64 0, .slice none 0 0, .int .i64 0, .int .i64 0]) =
      .agg #[.int .i64 ((finA kind id X n rm).2.1 : Nat), .int .i64 ((finA kind id X n rm).2.2.1 : Nat), .slice oA (finA kind id X n rm).2.2.2.1.length oc, .int .i64 ((finA kind id X n rm).2.2.2.2.1 : Nat), .int .i64 ((finA kind id X n rm).2.2.2.2.2 : Nat)] ∧
    ∀ (W : World) (B : Nat), W.ownsRow B 3 1 (.slice AX X.length cX) X.length (litI X) → W.ownsRow B 3 1 (.slice oA (finA kind id X n rm).2.2.2.1.length oc) (finA kind id X n rm).2.2.2.1.length (litI (finA kind id X n rm).2.2.2.1) := by
  unfold finA
  by_cases h : chkF (rightA kind id n rm.2 X) rm.1.2 = 0
  · simp only [if_pos h]
    exact ⟨AX, cX, rfl, fun W B h => h⟩
  · simp only [if_neg h]
    exact ⟨none, 0, rfl, fun W B _ => World.ownsRow_nil _ _ _ _⟩
theorem ownI_le {w : World} {B B' : Nat} {v : Value} {l : List Int} (h : w.ownsRow B 3 1 v l.length (litI l)) (hB : B' ≤ B) : w.ownsRow B' 3 1 v l.length (litI l) := ownI_keep h hB (fun j h1 h2 => rfl)
theorem ownI_wr2 {w w' : World} {B g : Nat} {v : Value} {l : List Int} (h : w.ownsRow B 3 1 v l.length (litI l)) (hw : Wr g w w') (hg : g < B) : w'.ownsRow B 3 1 v l.length (litI l) := ownI_keep h (Nat.le_refl _) (fun j h1 h2 => hw.block j h2 (by omega))
theorem nm_no {k : Int} (h : okK k = false) : nmI k = false ∧ nmX k = false ∧ nmN k = false ∧ nmM k = false := by
  unfold okK at h
  rw [decide_eq_false_iff_not] at h
  refine ⟨decide_eq_false ?_, decide_eq_false ?_, decide_eq_false ?_, decide_eq_false ?_⟩ <;> omega
set_option maxRecDepth 100000 in
set_option maxHeartbeats 16000000 in
theorem it_GetAsk (b : List Int) (B g k : Nat) (e : Int) (w : World) (hR : RdAt w B g b k e) : Calls Tryz.prog 20 #[.pointer (some ⟨g, 0, none⟩)] w (GivesA B g b (gA b k e) w) := by
  obtain ⟨hg, hBg, hk, hbl, hby⟩ := hR.lt
  have i2 : I64 1099511627776 := by unfold I64; omega
  have i8 : I64 8 := by unfold I64; omega
  have hb1 := ((Below.refl w.heap.size w).alloc (Nat.le_refl _) (.cells #[.int .i64 0, .int .i64 0, .slice none 0 0, .int .i64 0, .int .i64 0] 51))
  have K1 := Lib.hid (rd_N 1099511627776 i2 (hR.below hb1))
  have HG := Lib.hid (Box.new w #[.int .i64 0, .int .i64 0, .slice none 0 0, .int .i64 0, .int .i64 0] 51)
  have HW := Lib.hid (Wr.of g hb1)
  have KS := Lib.hid (fun (j : Int) W => it_used j W)
  have KF := Lib.hid (fun W kk ee (h : RdAt W B g b kk ee) => rd_Fail h 211)
  have HI := Lib.hid (fun (b : List Int) (k : Nat) (e : Int) => rN_i64 (b := b) (k := k) (e := e) i2)
  have KRI : Hid (∀ (W : World) (s : Nat × Int), RdAt W B g b s.1 s.2 → Calls Tryz.prog 33 #[.pointer (some ⟨g, 0, none⟩), .int .i64 1099511627776] W fun r w' => r = .returned (.int .i64 ((rdI b true s).2 : Nat)) ∧ RdAt w' B g b (rdI b true s).1.1 (rdI b true s).1.2 ∧ Wr g W w') := fun W s h => rd_N 1099511627776 i2 h
  have KRX : Hid (∀ (W : World) (s : Nat × Int), RdAt W B g b s.1 s.2 → Calls Tryz.prog 52 #[.pointer (some ⟨g, 0, none⟩), .int .i64 8] W fun r w' => ∃ A c, r = .returned (.slice A (rdX b true s).2.length c) ∧ w'.ownsRow W.heap.size 3 1 (.slice A (rdX b true s).2.length c) (rdX b true s).2.length (litI (rdX b true s).2) ∧ RdAt w' B g b (rdX b true s).1.1 (rdX b true s).1.2 ∧ Wr g W w') := fun W s h => rd_Ints 8 i8 h
  have KC := Lib.hid (fun (kind id n m : Nat) (X : List Int) (AX : Option Addr) (cX : Nat) (W : World) (kk : Nat) (ee : Int) (hR : RdAt W B g b kk ee) (hX : Lies W W.heap.size AX X) (h8 : X.length ≤ 9223372036854775807) (hc : X.length ≤ cX) => it_checkedA kind id n m AX X.length cX (rightA kind id n m X) b B g kk ee W hR (fun W' h' => it_RightAsk kind id n m X AX cX W' ((hX.below h').mono h'.size) h8 hc))
  have KH : Hid (∀ (W : World) (f j : Nat) (q : Bool), f < 16 → j < 16 → badB f j = q → Calls Tryz.prog 51 #[.int .u64 (f : Nat), .int .u64 (j : Int)] W fun e w' => e = .returned (.bool q) ∧ W = w') := fun W f j q hf hj hq => by
    have := it_has f j (by omega) (by omega) W
    rw [hq] at this
    exact this
  unfold gA
  obtain ⟨r1, hr1⟩ : ∃ r1, r1 = rN b k e 1099511627776 := ⟨_, rfl⟩
  rw [← hr1] at K1 ⊢
  clear hr1 hR hb1
  obtain ⟨⟨k1, e1⟩, kd⟩ := r1
  simp only at K1 ⊢
  have hn1 : ¬ w.heap.size = g := by omega
  have hul := used_lt (kd : Nat)
  obtain ⟨hh1, hh2, hh4, hh8⟩ := used_has (kd : Nat)
  have KH1 := Lib.hid (fun W => KH.out W _ 1 _ hul (by omega) hh1)
  have KH2 := Lib.hid (fun W => KH.out W _ 2 _ hul (by omega) hh2)
  have KH4 := Lib.hid (fun W => KH.out W _ 4 _ hul (by omega) hh4)
  have KH8 := Lib.hid (fun W => KH.out W _ 8 _ hul (by omega) hh8)
  clear KH hul hh1 hh2 hh4 hh8
  have KSK := Lib.hid (KS.out (kd : Nat))
  clear KS
  generalize usedF (kd : Nat) = f at *

  have hpt := pats (kd : Nat)
  by_cases hok : okK (kd : Nat) = true
  case neg =>
    have hok2 : okK (kd : Nat) = false := by simpa using hok
    obtain ⟨p1, p2, p3, p4⟩ := nm_no hok2
    have hbad : rightA (kd : Nat) (0 : Nat) (0 : Nat) (0 : Nat) ([] : List Int) = false := by unfold rightA; rw [hok2]; rfl
    have hfin : gA5 b false false false false kd (k1, chkF false e1) = ((k1, failE e1 211), (0, 0, [], 0, 0)) := by
      have h := finA_bad (kind := kd) (id := 0) (n := 0) (X := []) (rm := ((k1, failE e1 211), 0)) hbad
      rw [show gA5 b false false false false kd (k1, chkF false e1) = finA kd 0 [] 0 ((k1, failE e1 211), 0) from rfl, h, failE_twice]
    rw [p1, p2, p3, p4, hok2, hfin]
    rw [hok2] at KSK
    unfold GivesA
    clear p1 p2 p3 p4 hok hok2 hbad hfin hpt KH1 KH2 KH4 KH8 KC KRI KRX
    go_enter Tryz.func20, Tryz.ntmps20
    go_wp2_with fail
    refine (K1.out).mono ?_
    rintro r w1 ⟨rfl, h1, h2⟩
    have hgw1 : g < w1.heap.size := h1.lt.1
    have hsz1 : w.heap.size + 1 ≤ w1.heap.size := by have := h2.size; rw [alloc_size'] at this; exact this
    have hal := (Below.refl w1.heap.size w1).alloc (Nat.le_refl _) (.cells #[.int .i64 (kd : Nat), .int .i64 0, .slice none 0 0, .int .i64 0, .int .i64 0] 51)
    have HA3 := Lib.hid (Box.new w1 #[.int .i64 (kd : Nat), .int .i64 0, .slice none 0 0, .int .i64 0, .int .i64 0] 51)
    have HG := Lib.hid ((h2.box HG.out hn1).alloc (.cells #[.int .i64 (kd : Nat), .int .i64 0, .slice none 0 0, .int .i64 0, .int .i64 0] 51))
    have HR := Lib.hid (h1.below hal)
    have HW := Lib.hid ((HW.out.trans h2).trans (Wr.of g hal))
    clear h1 h2 hal K1
    go_wp2_with fail
    generalize w1.alloc (.cells #[.int .i64 (kd : Nat), .int .i64 0, .slice none 0 0, .int .i64 0, .int .i64 0] 51) = w2 at *
    generalize w1.heap.size = G3 at *
    have hn3 : ¬ G3 = g := by omega
    obtain ⟨x0, x1, x2, x3, x4⟩ := HA3.out.five
    refine (KSK.out _).mono ?_
    rintro r wq ⟨rfl, rfl⟩
    go_wp2_with fail
    refine (KF.out _ _ _ HR.out).mono ?_
    rintro r w3 ⟨rfl, h1, h2⟩
    have HR := Lib.hid h1
    have HGb := Lib.hid (h2.box HG.out hn1)
    have HW := Lib.hid (HW.out.trans h2)
    clear h1 h2 x0 x1 x2 x3 x4
    obtain ⟨x0, x1, x2, x3, x4⟩ := HGb.out.five
    obtain ⟨y0, y1, y2, y3, y4⟩ := HGb.out.frees
    go_wp2
    have s0 := (HGb.out.set 0 (.int .i64 0)).cell 0
    have s1 := ((HGb.out.set 0 (.int .i64 0)).set 1 (.int .i64 0)).cell 1
    have s2 := (((HGb.out.set 0 (.int .i64 0)).set 1 (.int .i64 0)).set 2 (.slice none 0 0)).cell 2
    have s3 := ((((HGb.out.set 0 (.int .i64 0)).set 1 (.int .i64 0)).set 2 (.slice none 0 0)).set 3 (.int .i64 0)).cell 3
    have s4 := (((((HGb.out.set 0 (.int .i64 0)).set 1 (.int .i64 0)).set 2 (.slice none 0 0)).set 3 (.int .i64 0)).set 4 (.int .i64 0)).cell 4
    refine bodyPost_ret (v := .agg #[.int .i64 0, .int .i64 0, .slice none 0 0, .int .i64 0, .int .i64 0]) (by simp [results, Tryz.results20, go_sem, s0, s1, s2, s3, s4]) rfl ⟨none, 0, rfl, World.ownsRow_nil _ _ _ _, ?_, ?_⟩
    · exact (((((HR.out.wr (Wr.set w.heap.size 0 _ _) (.inr (by omega))).wr (Wr.set w.heap.size 1 _ _) (.inr (by omega))).wr (Wr.set w.heap.size 2 _ _) (.inr (by omega))).wr (Wr.set w.heap.size 3 _ _) (.inr (by omega))).wr (Wr.set w.heap.size 4 _ _) (.inr (by omega)))
    · exact (((((HW.out.setNewI (p := ⟨w.heap.size, 0, none⟩) (Nat.le_refl _) _).setNewI (p := ⟨w.heap.size, 1, none⟩) (Nat.le_refl _) _).setNewI (p := ⟨w.heap.size, 2, none⟩) (Nat.le_refl _) _).setNewI (p := ⟨w.heap.size, 3, none⟩) (Nat.le_refl _) _).setNewI (p := ⟨w.heap.size, 4, none⟩) (Nat.le_refl _) _)
  rw [hok] at KSK ⊢
  rw [show chkF true e1 = e1 from rfl]
  rcases hpt with ⟨p1, p2, p3, p4⟩ | ⟨p1, p2, p3, p4⟩ | ⟨p1, p2, p3, p4⟩ | ⟨p1, p2, p3, p4⟩ | ⟨p1, p2, p3, p4⟩
  · rw [p1] at KH1
    rw [p2] at KH2
    rw [p3] at KH4
    rw [p4] at KH8
    rw [p1, p2, p3, p4]
    clear p1 p2 p3 p4 hok
    rw [show gA5 b true true false false kd (k1, e1) = finA kd ((rdI b true (k1, e1)).2) ((rdX b true (rdI b true (k1, e1)).1).2) 0 ((rdX b true (rdI b true (k1, e1)).1).1, 0) from rfl]
    obtain ⟨out, hout⟩ : ∃ out, out = finA kd ((rdI b true (k1, e1)).2) ((rdX b true (rdI b true (k1, e1)).1).2) 0 ((rdX b true (rdI b true (k1, e1)).1).1, 0) := ⟨_, rfl⟩
    rw [← hout]
    have HO1 : Hid (out.1.1 = (rdX b true (rdI b true (k1, e1)).1).1.1 ∧ out.1.2 = chkF (rightA (kd : Nat) ((rdI b true (k1, e1)).2 : Nat) (0 : Nat) (0 : Nat) (rdX b true (rdI b true (k1, e1)).1).2) (rdX b true (rdI b true (k1, e1)).1).1.2) := by rw [hout]; exact ⟨rfl, rfl⟩
    have HCH : Hid (∀ AX cX, ∃ oA oc, (if chkF (rightA (kd : Nat) ((rdI b true (k1, e1)).2 : Nat) (0 : Nat) (0 : Nat) (rdX b true (rdI b true (k1, e1)).1).2) (rdX b true (rdI b true (k1, e1)).1).1.2 = 0 then Value.agg #[.int .i64 (kd : Nat), .int .i64 ((rdI b true (k1, e1)).2 : Nat), .slice AX (rdX b true (rdI b true (k1, e1)).1).2.length cX, .int .i64 0, .int .i64 0] else .agg #[.int .i64 0, .int .i64 0, .slice none 0 0, .int .i64 0, .int .i64 0]) = .agg #[.int .i64 (out.2.1 : Nat), .int .i64 (out.2.2.1 : Nat), .slice oA out.2.2.2.1.length oc, .int .i64 (out.2.2.2.2.1 : Nat), .int .i64 (out.2.2.2.2.2 : Nat)] ∧ ∀ (W : World) (B : Nat), W.ownsRow B 3 1 (.slice AX (rdX b true (rdI b true (k1, e1)).1).2.length cX) (rdX b true (rdI b true (k1, e1)).1).2.length (litI (rdX b true (rdI b true (k1, e1)).1).2) → W.ownsRow B 3 1 (.slice oA out.2.2.2.1.length oc) out.2.2.2.1.length (litI out.2.2.2.1)) := fun AX cX => by rw [hout]; exact chk_out kd ((rdI b true (k1, e1)).2) (0) ((rdX b true (rdI b true (k1, e1)).1).2) ((rdX b true (rdI b true (k1, e1)).1).1, 0) AX cX
    clear hout
    go_enter Tryz.func20, Tryz.ntmps20
    go_wp2_with fail
    refine (K1.out).mono ?_
    rintro r w1 ⟨rfl, h1, h2⟩
    have hgw1 : g < w1.heap.size := h1.lt.1
    have hsz1 : w.heap.size + 1 ≤ w1.heap.size := by have := h2.size; rw [alloc_size'] at this; exact this
    have hal := (Below.refl w1.heap.size w1).alloc (Nat.le_refl _) (.cells #[.int .i64 (kd : Nat), .int .i64 0, .slice none 0 0, .int .i64 0, .int .i64 0] 51)
    have HA3 := Lib.hid (Box.new w1 #[.int .i64 (kd : Nat), .int .i64 0, .slice none 0 0, .int .i64 0, .int .i64 0] 51)
    have HG := Lib.hid ((h2.box HG.out hn1).alloc (.cells #[.int .i64 (kd : Nat), .int .i64 0, .slice none 0 0, .int .i64 0, .int .i64 0] 51))
    have HR := Lib.hid (h1.below hal)
    have HW := Lib.hid ((HW.out.trans h2).trans (Wr.of g hal))
    clear h1 h2 hal K1
    go_wp2_with fail
    generalize w1.alloc (.cells #[.int .i64 (kd : Nat), .int .i64 0, .slice none 0 0, .int .i64 0, .int .i64 0] 51) = w2 at *
    generalize w1.heap.size = G3 at *
    have hn3 : ¬ G3 = g := by omega
    obtain ⟨x0, x1, x2, x3, x4⟩ := HA3.out.five
    refine (KSK.out _).mono ?_
    rintro r wq ⟨rfl, rfl⟩
    go_wp2_with fail
    refine (KH1.out _).mono ?_
    rintro r wq ⟨rfl, rfl⟩
    go_wp2_with fail
    refine (KRI.out _ (k1, e1) HR.out).mono ?_
    rintro r waa ⟨rfl, h1, h2⟩
    have HR := Lib.hid (h1.wr (Wr.set G3 1 _ (.int .i64 ((rdI b true (k1, e1)).2 : Nat))) (.inr (by omega)))
    have hb3 := h2.box HA3.out hn3
    obtain ⟨y0, y1, y2, y3, y4⟩ := hb3.frees
    clear x0 x1 x2 x3 x4
    obtain ⟨x0, x1, x2, x3, x4⟩ := hb3.five
    have HA3 := Lib.hid (hb3.set 1 (.int .i64 ((rdI b true (k1, e1)).2 : Nat)))
    have HG := Lib.hid ((Wr.set G3 1 _ (.int .i64 ((rdI b true (k1, e1)).2 : Nat))).box (h2.box HG.out hn1) (by omega))
    have HW := Lib.hid ((HW.out.trans h2).setNewI (p := ⟨G3, 1, none⟩) (by show w.heap.size ≤ G3; omega) (.int .i64 ((rdI b true (k1, e1)).2 : Nat)))
    clear h1 h2 hb3
    go_wp2_with fail
    generalize waa.setCell ⟨G3, 1, none⟩ (.int .i64 ((rdI b true (k1, e1)).2 : Nat)) = wab at *
    clear x0 x1 x2 x3 x4 y0 y1 y2 y3 y4
    obtain ⟨x0, x1, x2, x3, x4⟩ := HA3.out.five
    refine (KH2.out _).mono ?_
    rintro r wq ⟨rfl, rfl⟩
    go_wp2_with fail
    refine (KRX.out _ (rdI b true (k1, e1)).1 HR.out).mono ?_
    rintro r wxa ⟨AX, cX, rfl, h0, h1, h2⟩
    have hG3 := HA3.out.lt
    have h0 := ownI_le h0 (show G3 + 1 ≤ _ from hG3)
    have HR := Lib.hid (h1.wr (Wr.set G3 2 _ (.slice AX (rdX b true (rdI b true (k1, e1)).1).2.length cX)) (.inr (by omega)))
    have hb3 := h2.box HA3.out hn3
    obtain ⟨y0, y1, y2, y3, y4⟩ := hb3.frees
    clear x0 x1 x2 x3 x4
    obtain ⟨x0, x1, x2, x3, x4⟩ := hb3.five
    have HA3 := Lib.hid (hb3.set 2 (.slice AX (rdX b true (rdI b true (k1, e1)).1).2.length cX))
    have HG := Lib.hid ((Wr.set G3 2 _ (.slice AX (rdX b true (rdI b true (k1, e1)).1).2.length cX)).box (h2.box HG.out hn1) (by omega))
    have HW := Lib.hid ((HW.out.trans h2).setNewI (p := ⟨G3, 2, none⟩) (by show w.heap.size ≤ G3; omega) (.slice AX (rdX b true (rdI b true (k1, e1)).1).2.length cX))
    have HO := Lib.hid (ownI_wr2 h0 (Wr.set G3 2 _ (.slice AX (rdX b true (rdI b true (k1, e1)).1).2.length cX)) (by omega))
    clear h0 h1 h2 hb3 hG3
    go_wp2_with fail
    generalize wxa.setCell ⟨G3, 2, none⟩ (.slice AX (rdX b true (rdI b true (k1, e1)).1).2.length cX) = wxb at *
    clear x0 x1 x2 x3 x4 y0 y1 y2 y3 y4
    obtain ⟨x0, x1, x2, x3, x4⟩ := HA3.out.five
    refine (KH4.out _).mono ?_
    rintro r wq ⟨rfl, rfl⟩
    go_wp2_with fail
    refine (KH8.out _).mono ?_
    rintro r wq ⟨rfl, rfl⟩
    go_wp2_with fail
    obtain ⟨A9, c9, e9, q1, q2, q3⟩ := lies_ownI HO.out
    cases e9
    have kc := KC.out kd ((rdI b true (k1, e1)).2) (0) (0) ((rdX b true (rdI b true (k1, e1)).1).2) _ _ wxb ((rdX b true (rdI b true (k1, e1)).1).1.1) ((rdX b true (rdI b true (k1, e1)).1).1.2) HR.out q3 (by unfold maxLen at q2; omega) q1
    try simp only [List.length_nil] at kc
    try rw [show ((0 : Nat) : Int) = 0 from rfl] at kc
    obtain ⟨oA, oc, hv, ho⟩ := HCH.out AX cX
    try rw [show ((0 : Nat) : Int) = 0 from rfl] at hv
    rw [hv] at kc
    refine kc.mono ?_
    rintro r w9 ⟨rfl, h1, h2⟩
    clear kc hv q1 q2 q3
    have HR := Lib.hid h1
    have HGb := Lib.hid (h2.box HG.out hn1)
    have HW := Lib.hid (HW.out.trans h2)
    have hO9 := ownI_wr2 (ho _ _ HO.out) h2 (by omega)
    have HO9 := Lib.hid hO9
    clear h1 h2 hO9 ho HO x0 x1 x2 x3 x4
    obtain ⟨x0, x1, x2, x3, x4⟩ := HGb.out.five
    obtain ⟨y0, y1, y2, y3, y4⟩ := HGb.out.frees
    go_wp2
    have s0 := (HGb.out.set 0 (.int .i64 (out.2.1 : Nat))).cell 0
    have s1 := ((HGb.out.set 0 (.int .i64 (out.2.1 : Nat))).set 1 (.int .i64 (out.2.2.1 : Nat))).cell 1
    have s2 := (((HGb.out.set 0 (.int .i64 (out.2.1 : Nat))).set 1 (.int .i64 (out.2.2.1 : Nat))).set 2 (.slice oA out.2.2.2.1.length oc)).cell 2
    have s3 := ((((HGb.out.set 0 (.int .i64 (out.2.1 : Nat))).set 1 (.int .i64 (out.2.2.1 : Nat))).set 2 (.slice oA out.2.2.2.1.length oc)).set 3 (.int .i64 (out.2.2.2.2.1 : Nat))).cell 3
    have s4 := (((((HGb.out.set 0 (.int .i64 (out.2.1 : Nat))).set 1 (.int .i64 (out.2.2.1 : Nat))).set 2 (.slice oA out.2.2.2.1.length oc)).set 3 (.int .i64 (out.2.2.2.2.1 : Nat))).set 4 (.int .i64 (out.2.2.2.2.2 : Nat))).cell 4
    refine bodyPost_ret (v := .agg #[.int .i64 (out.2.1 : Nat), .int .i64 (out.2.2.1 : Nat), .slice oA out.2.2.2.1.length oc, .int .i64 (out.2.2.2.2.1 : Nat), .int .i64 (out.2.2.2.2.2 : Nat)]) (by simp [results, Tryz.results20, go_sem, s0, s1, s2, s3, s4]) rfl ⟨oA, oc, rfl, ?_, ?_, ?_⟩
    · exact ownI_le (ownI_wr2 (ownI_wr2 (ownI_wr2 (ownI_wr2 (ownI_wr2 HO9.out (Wr.set w.heap.size 0 _ _) (by omega)) (Wr.set w.heap.size 1 _ _) (by omega)) (Wr.set w.heap.size 2 _ _) (by omega)) (Wr.set w.heap.size 3 _ _) (by omega)) (Wr.set w.heap.size 4 _ _) (by omega)) (by omega)
    · rw [HO1.out.1, HO1.out.2]; exact (((((HR.out.wr (Wr.set w.heap.size 0 _ _) (.inr (by omega))).wr (Wr.set w.heap.size 1 _ _) (.inr (by omega))).wr (Wr.set w.heap.size 2 _ _) (.inr (by omega))).wr (Wr.set w.heap.size 3 _ _) (.inr (by omega))).wr (Wr.set w.heap.size 4 _ _) (.inr (by omega)))
    · exact (((((HW.out.setNewI (p := ⟨w.heap.size, 0, none⟩) (Nat.le_refl _) _).setNewI (p := ⟨w.heap.size, 1, none⟩) (Nat.le_refl _) _).setNewI (p := ⟨w.heap.size, 2, none⟩) (Nat.le_refl _) _).setNewI (p := ⟨w.heap.size, 3, none⟩) (Nat.le_refl _) _).setNewI (p := ⟨w.heap.size, 4, none⟩) (Nat.le_refl _) _)
  · rw [p1] at KH1
    rw [p2] at KH2
    rw [p3] at KH4
    rw [p4] at KH8
    rw [p1, p2, p3, p4]
    clear p1 p2 p3 p4 hok
    rw [show gA5 b false true false false kd (k1, e1) = finA kd 0 ((rdX b true (k1, e1)).2) 0 ((rdX b true (k1, e1)).1, 0) from rfl]
    obtain ⟨out, hout⟩ : ∃ out, out = finA kd 0 ((rdX b true (k1, e1)).2) 0 ((rdX b true (k1, e1)).1, 0) := ⟨_, rfl⟩
    rw [← hout]
    have HO1 : Hid (out.1.1 = (rdX b true (k1, e1)).1.1 ∧ out.1.2 = chkF (rightA (kd : Nat) (0 : Nat) (0 : Nat) (0 : Nat) (rdX b true (k1, e1)).2) (rdX b true (k1, e1)).1.2) := by rw [hout]; exact ⟨rfl, rfl⟩
    have HCH : Hid (∀ AX cX, ∃ oA oc, (if chkF (rightA (kd : Nat) (0 : Nat) (0 : Nat) (0 : Nat) (rdX b true (k1, e1)).2) (rdX b true (k1, e1)).1.2 = 0 then Value.agg #[.int .i64 (kd : Nat), .int .i64 0, .slice AX (rdX b true (k1, e1)).2.length cX, .int .i64 0, .int .i64 0] else .agg #[.int .i64 0, .int .i64 0, .slice none 0 0, .int .i64 0, .int .i64 0]) = .agg #[.int .i64 (out.2.1 : Nat), .int .i64 (out.2.2.1 : Nat), .slice oA out.2.2.2.1.length oc, .int .i64 (out.2.2.2.2.1 : Nat), .int .i64 (out.2.2.2.2.2 : Nat)] ∧ ∀ (W : World) (B : Nat), W.ownsRow B 3 1 (.slice AX (rdX b true (k1, e1)).2.length cX) (rdX b true (k1, e1)).2.length (litI (rdX b true (k1, e1)).2) → W.ownsRow B 3 1 (.slice oA out.2.2.2.1.length oc) out.2.2.2.1.length (litI out.2.2.2.1)) := fun AX cX => by rw [hout]; exact chk_out kd (0) (0) ((rdX b true (k1, e1)).2) ((rdX b true (k1, e1)).1, 0) AX cX
    clear hout
    go_enter Tryz.func20, Tryz.ntmps20
    go_wp2_with fail
    refine (K1.out).mono ?_
    rintro r w1 ⟨rfl, h1, h2⟩
    have hgw1 : g < w1.heap.size := h1.lt.1
    have hsz1 : w.heap.size + 1 ≤ w1.heap.size := by have := h2.size; rw [alloc_size'] at this; exact this
    have hal := (Below.refl w1.heap.size w1).alloc (Nat.le_refl _) (.cells #[.int .i64 (kd : Nat), .int .i64 0, .slice none 0 0, .int .i64 0, .int .i64 0] 51)
    have HA3 := Lib.hid (Box.new w1 #[.int .i64 (kd : Nat), .int .i64 0, .slice none 0 0, .int .i64 0, .int .i64 0] 51)
    have HG := Lib.hid ((h2.box HG.out hn1).alloc (.cells #[.int .i64 (kd : Nat), .int .i64 0, .slice none 0 0, .int .i64 0, .int .i64 0] 51))
    have HR := Lib.hid (h1.below hal)
    have HW := Lib.hid ((HW.out.trans h2).trans (Wr.of g hal))
    clear h1 h2 hal K1
    go_wp2_with fail
    generalize w1.alloc (.cells #[.int .i64 (kd : Nat), .int .i64 0, .slice none 0 0, .int .i64 0, .int .i64 0] 51) = w2 at *
    generalize w1.heap.size = G3 at *
    have hn3 : ¬ G3 = g := by omega
    obtain ⟨x0, x1, x2, x3, x4⟩ := HA3.out.five
    refine (KSK.out _).mono ?_
    rintro r wq ⟨rfl, rfl⟩
    go_wp2_with fail
    refine (KH1.out _).mono ?_
    rintro r wq ⟨rfl, rfl⟩
    go_wp2_with fail
    refine (KH2.out _).mono ?_
    rintro r wq ⟨rfl, rfl⟩
    go_wp2_with fail
    refine (KRX.out _ (k1, e1) HR.out).mono ?_
    rintro r wxa ⟨AX, cX, rfl, h0, h1, h2⟩
    have hG3 := HA3.out.lt
    have h0 := ownI_le h0 (show G3 + 1 ≤ _ from hG3)
    have HR := Lib.hid (h1.wr (Wr.set G3 2 _ (.slice AX (rdX b true (k1, e1)).2.length cX)) (.inr (by omega)))
    have hb3 := h2.box HA3.out hn3
    obtain ⟨y0, y1, y2, y3, y4⟩ := hb3.frees
    clear x0 x1 x2 x3 x4
    obtain ⟨x0, x1, x2, x3, x4⟩ := hb3.five
    have HA3 := Lib.hid (hb3.set 2 (.slice AX (rdX b true (k1, e1)).2.length cX))
    have HG := Lib.hid ((Wr.set G3 2 _ (.slice AX (rdX b true (k1, e1)).2.length cX)).box (h2.box HG.out hn1) (by omega))
    have HW := Lib.hid ((HW.out.trans h2).setNewI (p := ⟨G3, 2, none⟩) (by show w.heap.size ≤ G3; omega) (.slice AX (rdX b true (k1, e1)).2.length cX))
    have HO := Lib.hid (ownI_wr2 h0 (Wr.set G3 2 _ (.slice AX (rdX b true (k1, e1)).2.length cX)) (by omega))
    clear h0 h1 h2 hb3 hG3
    go_wp2_with fail
    generalize wxa.setCell ⟨G3, 2, none⟩ (.slice AX (rdX b true (k1, e1)).2.length cX) = wxb at *
    clear x0 x1 x2 x3 x4 y0 y1 y2 y3 y4
    obtain ⟨x0, x1, x2, x3, x4⟩ := HA3.out.five
    refine (KH4.out _).mono ?_
    rintro r wq ⟨rfl, rfl⟩
    go_wp2_with fail
    refine (KH8.out _).mono ?_
    rintro r wq ⟨rfl, rfl⟩
    go_wp2_with fail
    obtain ⟨A9, c9, e9, q1, q2, q3⟩ := lies_ownI HO.out
    cases e9
    have kc := KC.out kd (0) (0) (0) ((rdX b true (k1, e1)).2) _ _ wxb ((rdX b true (k1, e1)).1.1) ((rdX b true (k1, e1)).1.2) HR.out q3 (by unfold maxLen at q2; omega) q1
    try simp only [List.length_nil] at kc
    try rw [show ((0 : Nat) : Int) = 0 from rfl] at kc
    obtain ⟨oA, oc, hv, ho⟩ := HCH.out AX cX
    try rw [show ((0 : Nat) : Int) = 0 from rfl] at hv
    rw [hv] at kc
    refine kc.mono ?_
    rintro r w9 ⟨rfl, h1, h2⟩
    clear kc hv q1 q2 q3
    have HR := Lib.hid h1
    have HGb := Lib.hid (h2.box HG.out hn1)
    have HW := Lib.hid (HW.out.trans h2)
    have hO9 := ownI_wr2 (ho _ _ HO.out) h2 (by omega)
    have HO9 := Lib.hid hO9
    clear h1 h2 hO9 ho HO x0 x1 x2 x3 x4
    obtain ⟨x0, x1, x2, x3, x4⟩ := HGb.out.five
    obtain ⟨y0, y1, y2, y3, y4⟩ := HGb.out.frees
    go_wp2
    have s0 := (HGb.out.set 0 (.int .i64 (out.2.1 : Nat))).cell 0
    have s1 := ((HGb.out.set 0 (.int .i64 (out.2.1 : Nat))).set 1 (.int .i64 (out.2.2.1 : Nat))).cell 1
    have s2 := (((HGb.out.set 0 (.int .i64 (out.2.1 : Nat))).set 1 (.int .i64 (out.2.2.1 : Nat))).set 2 (.slice oA out.2.2.2.1.length oc)).cell 2
    have s3 := ((((HGb.out.set 0 (.int .i64 (out.2.1 : Nat))).set 1 (.int .i64 (out.2.2.1 : Nat))).set 2 (.slice oA out.2.2.2.1.length oc)).set 3 (.int .i64 (out.2.2.2.2.1 : Nat))).cell 3
    have s4 := (((((HGb.out.set 0 (.int .i64 (out.2.1 : Nat))).set 1 (.int .i64 (out.2.2.1 : Nat))).set 2 (.slice oA out.2.2.2.1.length oc)).set 3 (.int .i64 (out.2.2.2.2.1 : Nat))).set 4 (.int .i64 (out.2.2.2.2.2 : Nat))).cell 4
    refine bodyPost_ret (v := .agg #[.int .i64 (out.2.1 : Nat), .int .i64 (out.2.2.1 : Nat), .slice oA out.2.2.2.1.length oc, .int .i64 (out.2.2.2.2.1 : Nat), .int .i64 (out.2.2.2.2.2 : Nat)]) (by simp [results, Tryz.results20, go_sem, s0, s1, s2, s3, s4]) rfl ⟨oA, oc, rfl, ?_, ?_, ?_⟩
    · exact ownI_le (ownI_wr2 (ownI_wr2 (ownI_wr2 (ownI_wr2 (ownI_wr2 HO9.out (Wr.set w.heap.size 0 _ _) (by omega)) (Wr.set w.heap.size 1 _ _) (by omega)) (Wr.set w.heap.size 2 _ _) (by omega)) (Wr.set w.heap.size 3 _ _) (by omega)) (Wr.set w.heap.size 4 _ _) (by omega)) (by omega)
    · rw [HO1.out.1, HO1.out.2]; exact (((((HR.out.wr (Wr.set w.heap.size 0 _ _) (.inr (by omega))).wr (Wr.set w.heap.size 1 _ _) (.inr (by omega))).wr (Wr.set w.heap.size 2 _ _) (.inr (by omega))).wr (Wr.set w.heap.size 3 _ _) (.inr (by omega))).wr (Wr.set w.heap.size 4 _ _) (.inr (by omega)))
    · exact (((((HW.out.setNewI (p := ⟨w.heap.size, 0, none⟩) (Nat.le_refl _) _).setNewI (p := ⟨w.heap.size, 1, none⟩) (Nat.le_refl _) _).setNewI (p := ⟨w.heap.size, 2, none⟩) (Nat.le_refl _) _).setNewI (p := ⟨w.heap.size, 3, none⟩) (Nat.le_refl _) _).setNewI (p := ⟨w.heap.size, 4, none⟩) (Nat.le_refl _) _)
  · rw [p1] at KH1
    rw [p2] at KH2
    rw [p3] at KH4
    rw [p4] at KH8
    rw [p1, p2, p3, p4]
    clear p1 p2 p3 p4 hok
    rw [show gA5 b false false true true kd (k1, e1) = finA kd 0 ([] : List Int) ((rdI b true (k1, e1)).2) (rdI b true (rdI b true (k1, e1)).1) from rfl]
    obtain ⟨out, hout⟩ : ∃ out, out = finA kd 0 ([] : List Int) ((rdI b true (k1, e1)).2) (rdI b true (rdI b true (k1, e1)).1) := ⟨_, rfl⟩
    rw [← hout]
    have HO1 : Hid (out.1.1 = (rdI b true (rdI b true (k1, e1)).1).1.1 ∧ out.1.2 = chkF (rightA (kd : Nat) (0 : Nat) ((rdI b true (k1, e1)).2 : Nat) ((rdI b true (rdI b true (k1, e1)).1).2 : Nat) ([] : List Int)) (rdI b true (rdI b true (k1, e1)).1).1.2) := by rw [hout]; exact ⟨rfl, rfl⟩
    have HCH : Hid (∀ AX cX, ∃ oA oc, (if chkF (rightA (kd : Nat) (0 : Nat) ((rdI b true (k1, e1)).2 : Nat) ((rdI b true (rdI b true (k1, e1)).1).2 : Nat) ([] : List Int)) (rdI b true (rdI b true (k1, e1)).1).1.2 = 0 then Value.agg #[.int .i64 (kd : Nat), .int .i64 0, .slice AX 0 cX, .int .i64 ((rdI b true (k1, e1)).2 : Nat), .int .i64 ((rdI b true (rdI b true (k1, e1)).1).2 : Nat)] else .agg #[.int .i64 0, .int .i64 0, .slice none 0 0, .int .i64 0, .int .i64 0]) = .agg #[.int .i64 (out.2.1 : Nat), .int .i64 (out.2.2.1 : Nat), .slice oA out.2.2.2.1.length oc, .int .i64 (out.2.2.2.2.1 : Nat), .int .i64 (out.2.2.2.2.2 : Nat)] ∧ ∀ (W : World) (B : Nat), W.ownsRow B 3 1 (.slice AX 0 cX) 0 (litI ([] : List Int)) → W.ownsRow B 3 1 (.slice oA out.2.2.2.1.length oc) out.2.2.2.1.length (litI out.2.2.2.1)) := fun AX cX => by rw [hout]; exact chk_out kd (0) ((rdI b true (k1, e1)).2) ([] : List Int) (rdI b true (rdI b true (k1, e1)).1) AX cX
    clear hout
    go_enter Tryz.func20, Tryz.ntmps20
    go_wp2_with fail
    refine (K1.out).mono ?_
    rintro r w1 ⟨rfl, h1, h2⟩
    have hgw1 : g < w1.heap.size := h1.lt.1
    have hsz1 : w.heap.size + 1 ≤ w1.heap.size := by have := h2.size; rw [alloc_size'] at this; exact this
    have hal := (Below.refl w1.heap.size w1).alloc (Nat.le_refl _) (.cells #[.int .i64 (kd : Nat), .int .i64 0, .slice none 0 0, .int .i64 0, .int .i64 0] 51)
    have HA3 := Lib.hid (Box.new w1 #[.int .i64 (kd : Nat), .int .i64 0, .slice none 0 0, .int .i64 0, .int .i64 0] 51)
    have HG := Lib.hid ((h2.box HG.out hn1).alloc (.cells #[.int .i64 (kd : Nat), .int .i64 0, .slice none 0 0, .int .i64 0, .int .i64 0] 51))
    have HR := Lib.hid (h1.below hal)
    have HW := Lib.hid ((HW.out.trans h2).trans (Wr.of g hal))
    clear h1 h2 hal K1
    go_wp2_with fail
    generalize w1.alloc (.cells #[.int .i64 (kd : Nat), .int .i64 0, .slice none 0 0, .int .i64 0, .int .i64 0] 51) = w2 at *
    generalize w1.heap.size = G3 at *
    have hn3 : ¬ G3 = g := by omega
    obtain ⟨x0, x1, x2, x3, x4⟩ := HA3.out.five
    refine (KSK.out _).mono ?_
    rintro r wq ⟨rfl, rfl⟩
    go_wp2_with fail
    refine (KH1.out _).mono ?_
    rintro r wq ⟨rfl, rfl⟩
    go_wp2_with fail
    refine (KH2.out _).mono ?_
    rintro r wq ⟨rfl, rfl⟩
    go_wp2_with fail
    refine (KH4.out _).mono ?_
    rintro r wq ⟨rfl, rfl⟩
    go_wp2_with fail
    refine (KRI.out _ (k1, e1) HR.out).mono ?_
    rintro r wna ⟨rfl, h1, h2⟩
    have HR := Lib.hid (h1.wr (Wr.set G3 3 _ (.int .i64 ((rdI b true (k1, e1)).2 : Nat))) (.inr (by omega)))
    have hb3 := h2.box HA3.out hn3
    obtain ⟨y0, y1, y2, y3, y4⟩ := hb3.frees
    clear x0 x1 x2 x3 x4
    obtain ⟨x0, x1, x2, x3, x4⟩ := hb3.five
    have HA3 := Lib.hid (hb3.set 3 (.int .i64 ((rdI b true (k1, e1)).2 : Nat)))
    have HG := Lib.hid ((Wr.set G3 3 _ (.int .i64 ((rdI b true (k1, e1)).2 : Nat))).box (h2.box HG.out hn1) (by omega))
    have HW := Lib.hid ((HW.out.trans h2).setNewI (p := ⟨G3, 3, none⟩) (by show w.heap.size ≤ G3; omega) (.int .i64 ((rdI b true (k1, e1)).2 : Nat)))
    clear h1 h2 hb3
    go_wp2_with fail
    generalize wna.setCell ⟨G3, 3, none⟩ (.int .i64 ((rdI b true (k1, e1)).2 : Nat)) = wnb at *
    clear x0 x1 x2 x3 x4 y0 y1 y2 y3 y4
    obtain ⟨x0, x1, x2, x3, x4⟩ := HA3.out.five
    refine (KH8.out _).mono ?_
    rintro r wq ⟨rfl, rfl⟩
    go_wp2_with fail
    refine (KRI.out _ (rdI b true (k1, e1)).1 HR.out).mono ?_
    rintro r wma ⟨rfl, h1, h2⟩
    have HR := Lib.hid (h1.wr (Wr.set G3 4 _ (.int .i64 ((rdI b true (rdI b true (k1, e1)).1).2 : Nat))) (.inr (by omega)))
    have hb3 := h2.box HA3.out hn3
    obtain ⟨y0, y1, y2, y3, y4⟩ := hb3.frees
    clear x0 x1 x2 x3 x4
    obtain ⟨x0, x1, x2, x3, x4⟩ := hb3.five
    have HA3 := Lib.hid (hb3.set 4 (.int .i64 ((rdI b true (rdI b true (k1, e1)).1).2 : Nat)))
    have HG := Lib.hid ((Wr.set G3 4 _ (.int .i64 ((rdI b true (rdI b true (k1, e1)).1).2 : Nat))).box (h2.box HG.out hn1) (by omega))
    have HW := Lib.hid ((HW.out.trans h2).setNewI (p := ⟨G3, 4, none⟩) (by show w.heap.size ≤ G3; omega) (.int .i64 ((rdI b true (rdI b true (k1, e1)).1).2 : Nat)))
    clear h1 h2 hb3
    go_wp2_with fail
    generalize wma.setCell ⟨G3, 4, none⟩ (.int .i64 ((rdI b true (rdI b true (k1, e1)).1).2 : Nat)) = wmb at *
    clear x0 x1 x2 x3 x4 y0 y1 y2 y3 y4
    obtain ⟨x0, x1, x2, x3, x4⟩ := HA3.out.five
    have HO : Hid (wmb.ownsRow (G3 + 1) 3 1 (.slice none ([] : List Int).length 0) ([] : List Int).length (litI [])) := World.ownsRow_nil _ _ _ _
    obtain ⟨A9, c9, e9, q1, q2, q3⟩ := lies_ownI HO.out
    cases e9
    have kc := KC.out kd (0) ((rdI b true (k1, e1)).2) ((rdI b true (rdI b true (k1, e1)).1).2) ([] : List Int) _ _ wmb ((rdI b true (rdI b true (k1, e1)).1).1.1) ((rdI b true (rdI b true (k1, e1)).1).1.2) HR.out q3 (by unfold maxLen at q2; omega) q1
    try simp only [List.length_nil] at kc
    try rw [show ((0 : Nat) : Int) = 0 from rfl] at kc
    obtain ⟨oA, oc, hv, ho⟩ := HCH.out none 0
    try rw [show ((0 : Nat) : Int) = 0 from rfl] at hv
    rw [hv] at kc
    refine kc.mono ?_
    rintro r w9 ⟨rfl, h1, h2⟩
    clear kc hv q1 q2 q3
    have HR := Lib.hid h1
    have HGb := Lib.hid (h2.box HG.out hn1)
    have HW := Lib.hid (HW.out.trans h2)
    have hO9 := ownI_wr2 (ho _ _ HO.out) h2 (by omega)
    have HO9 := Lib.hid hO9
    clear h1 h2 hO9 ho HO x0 x1 x2 x3 x4
    obtain ⟨x0, x1, x2, x3, x4⟩ := HGb.out.five
    obtain ⟨y0, y1, y2, y3, y4⟩ := HGb.out.frees
    go_wp2
    have s0 := (HGb.out.set 0 (.int .i64 (out.2.1 : Nat))).cell 0
    have s1 := ((HGb.out.set 0 (.int .i64 (out.2.1 : Nat))).set 1 (.int .i64 (out.2.2.1 : Nat))).cell 1
    have s2 := (((HGb.out.set 0 (.int .i64 (out.2.1 : Nat))).set 1 (.int .i64 (out.2.2.1 : Nat))).set 2 (.slice oA out.2.2.2.1.length oc)).cell 2
    have s3 := ((((HGb.out.set 0 (.int .i64 (out.2.1 : Nat))).set 1 (.int .i64 (out.2.2.1 : Nat))).set 2 (.slice oA out.2.2.2.1.length oc)).set 3 (.int .i64 (out.2.2.2.2.1 : Nat))).cell 3
    have s4 := (((((HGb.out.set 0 (.int .i64 (out.2.1 : Nat))).set 1 (.int .i64 (out.2.2.1 : Nat))).set 2 (.slice oA out.2.2.2.1.length oc)).set 3 (.int .i64 (out.2.2.2.2.1 : Nat))).set 4 (.int .i64 (out.2.2.2.2.2 : Nat))).cell 4
    refine bodyPost_ret (v := .agg #[.int .i64 (out.2.1 : Nat), .int .i64 (out.2.2.1 : Nat), .slice oA out.2.2.2.1.length oc, .int .i64 (out.2.2.2.2.1 : Nat), .int .i64 (out.2.2.2.2.2 : Nat)]) (by simp [results, Tryz.results20, go_sem, s0, s1, s2, s3, s4]) rfl ⟨oA, oc, rfl, ?_, ?_, ?_⟩
    · exact ownI_le (ownI_wr2 (ownI_wr2 (ownI_wr2 (ownI_wr2 (ownI_wr2 HO9.out (Wr.set w.heap.size 0 _ _) (by omega)) (Wr.set w.heap.size 1 _ _) (by omega)) (Wr.set w.heap.size 2 _ _) (by omega)) (Wr.set w.heap.size 3 _ _) (by omega)) (Wr.set w.heap.size 4 _ _) (by omega)) (by omega)
    · rw [HO1.out.1, HO1.out.2]; exact (((((HR.out.wr (Wr.set w.heap.size 0 _ _) (.inr (by omega))).wr (Wr.set w.heap.size 1 _ _) (.inr (by omega))).wr (Wr.set w.heap.size 2 _ _) (.inr (by omega))).wr (Wr.set w.heap.size 3 _ _) (.inr (by omega))).wr (Wr.set w.heap.size 4 _ _) (.inr (by omega)))
    · exact (((((HW.out.setNewI (p := ⟨w.heap.size, 0, none⟩) (Nat.le_refl _) _).setNewI (p := ⟨w.heap.size, 1, none⟩) (Nat.le_refl _) _).setNewI (p := ⟨w.heap.size, 2, none⟩) (Nat.le_refl _) _).setNewI (p := ⟨w.heap.size, 3, none⟩) (Nat.le_refl _) _).setNewI (p := ⟨w.heap.size, 4, none⟩) (Nat.le_refl _) _)
  · rw [p1] at KH1
    rw [p2] at KH2
    rw [p3] at KH4
    rw [p4] at KH8
    rw [p1, p2, p3, p4]
    clear p1 p2 p3 p4 hok
    rw [show gA5 b false false true false kd (k1, e1) = finA kd 0 ([] : List Int) ((rdI b true (k1, e1)).2) ((rdI b true (k1, e1)).1, 0) from rfl]
    obtain ⟨out, hout⟩ : ∃ out, out = finA kd 0 ([] : List Int) ((rdI b true (k1, e1)).2) ((rdI b true (k1, e1)).1, 0) := ⟨_, rfl⟩
    rw [← hout]
    have HO1 : Hid (out.1.1 = (rdI b true (k1, e1)).1.1 ∧ out.1.2 = chkF (rightA (kd : Nat) (0 : Nat) ((rdI b true (k1, e1)).2 : Nat) (0 : Nat) ([] : List Int)) (rdI b true (k1, e1)).1.2) := by rw [hout]; exact ⟨rfl, rfl⟩
    have HCH : Hid (∀ AX cX, ∃ oA oc, (if chkF (rightA (kd : Nat) (0 : Nat) ((rdI b true (k1, e1)).2 : Nat) (0 : Nat) ([] : List Int)) (rdI b true (k1, e1)).1.2 = 0 then Value.agg #[.int .i64 (kd : Nat), .int .i64 0, .slice AX 0 cX, .int .i64 ((rdI b true (k1, e1)).2 : Nat), .int .i64 0] else .agg #[.int .i64 0, .int .i64 0, .slice none 0 0, .int .i64 0, .int .i64 0]) = .agg #[.int .i64 (out.2.1 : Nat), .int .i64 (out.2.2.1 : Nat), .slice oA out.2.2.2.1.length oc, .int .i64 (out.2.2.2.2.1 : Nat), .int .i64 (out.2.2.2.2.2 : Nat)] ∧ ∀ (W : World) (B : Nat), W.ownsRow B 3 1 (.slice AX 0 cX) 0 (litI ([] : List Int)) → W.ownsRow B 3 1 (.slice oA out.2.2.2.1.length oc) out.2.2.2.1.length (litI out.2.2.2.1)) := fun AX cX => by rw [hout]; exact chk_out kd (0) ((rdI b true (k1, e1)).2) ([] : List Int) ((rdI b true (k1, e1)).1, 0) AX cX
    clear hout
    go_enter Tryz.func20, Tryz.ntmps20
    go_wp2_with fail
    refine (K1.out).mono ?_
    rintro r w1 ⟨rfl, h1, h2⟩
    have hgw1 : g < w1.heap.size := h1.lt.1
    have hsz1 : w.heap.size + 1 ≤ w1.heap.size := by have := h2.size; rw [alloc_size'] at this; exact this
    have hal := (Below.refl w1.heap.size w1).alloc (Nat.le_refl _) (.cells #[.int .i64 (kd : Nat), .int .i64 0, .slice none 0 0, .int .i64 0, .int .i64 0] 51)
    have HA3 := Lib.hid (Box.new w1 #[.int .i64 (kd : Nat), .int .i64 0, .slice none 0 0, .int .i64 0, .int .i64 0] 51)
    have HG := Lib.hid ((h2.box HG.out hn1).alloc (.cells #[.int .i64 (kd : Nat), .int .i64 0, .slice none 0 0, .int .i64 0, .int .i64 0] 51))
    have HR := Lib.hid (h1.below hal)
    have HW := Lib.hid ((HW.out.trans h2).trans (Wr.of g hal))
    clear h1 h2 hal K1
    go_wp2_with fail
    generalize w1.alloc (.cells #[.int .i64 (kd : Nat), .int .i64 0, .slice none 0 0, .int .i64 0, .int .i64 0] 51) = w2 at *
    generalize w1.heap.size = G3 at *
    have hn3 : ¬ G3 = g := by omega
    obtain ⟨x0, x1, x2, x3, x4⟩ := HA3.out.five
    refine (KSK.out _).mono ?_
    rintro r wq ⟨rfl, rfl⟩
    go_wp2_with fail
    refine (KH1.out _).mono ?_
    rintro r wq ⟨rfl, rfl⟩
    go_wp2_with fail
    refine (KH2.out _).mono ?_
    rintro r wq ⟨rfl, rfl⟩
    go_wp2_with fail
    refine (KH4.out _).mono ?_
    rintro r wq ⟨rfl, rfl⟩
    go_wp2_with fail
    refine (KRI.out _ (k1, e1) HR.out).mono ?_
    rintro r wna ⟨rfl, h1, h2⟩
    have HR := Lib.hid (h1.wr (Wr.set G3 3 _ (.int .i64 ((rdI b true (k1, e1)).2 : Nat))) (.inr (by omega)))
    have hb3 := h2.box HA3.out hn3
    obtain ⟨y0, y1, y2, y3, y4⟩ := hb3.frees
    clear x0 x1 x2 x3 x4
    obtain ⟨x0, x1, x2, x3, x4⟩ := hb3.five
    have HA3 := Lib.hid (hb3.set 3 (.int .i64 ((rdI b true (k1, e1)).2 : Nat)))
    have HG := Lib.hid ((Wr.set G3 3 _ (.int .i64 ((rdI b true (k1, e1)).2 : Nat))).box (h2.box HG.out hn1) (by omega))
    have HW := Lib.hid ((HW.out.trans h2).setNewI (p := ⟨G3, 3, none⟩) (by show w.heap.size ≤ G3; omega) (.int .i64 ((rdI b true (k1, e1)).2 : Nat)))
    clear h1 h2 hb3
    go_wp2_with fail
    generalize wna.setCell ⟨G3, 3, none⟩ (.int .i64 ((rdI b true (k1, e1)).2 : Nat)) = wnb at *
    clear x0 x1 x2 x3 x4 y0 y1 y2 y3 y4
    obtain ⟨x0, x1, x2, x3, x4⟩ := HA3.out.five
    refine (KH8.out _).mono ?_
    rintro r wq ⟨rfl, rfl⟩
    go_wp2_with fail
    have HO : Hid (wnb.ownsRow (G3 + 1) 3 1 (.slice none ([] : List Int).length 0) ([] : List Int).length (litI [])) := World.ownsRow_nil _ _ _ _
    obtain ⟨A9, c9, e9, q1, q2, q3⟩ := lies_ownI HO.out
    cases e9
    have kc := KC.out kd (0) ((rdI b true (k1, e1)).2) (0) ([] : List Int) _ _ wnb ((rdI b true (k1, e1)).1.1) ((rdI b true (k1, e1)).1.2) HR.out q3 (by unfold maxLen at q2; omega) q1
    try simp only [List.length_nil] at kc
    try rw [show ((0 : Nat) : Int) = 0 from rfl] at kc
    obtain ⟨oA, oc, hv, ho⟩ := HCH.out none 0
    try rw [show ((0 : Nat) : Int) = 0 from rfl] at hv
    rw [hv] at kc
    refine kc.mono ?_
    rintro r w9 ⟨rfl, h1, h2⟩
    clear kc hv q1 q2 q3
    have HR := Lib.hid h1
    have HGb := Lib.hid (h2.box HG.out hn1)
    have HW := Lib.hid (HW.out.trans h2)
    have hO9 := ownI_wr2 (ho _ _ HO.out) h2 (by omega)
    have HO9 := Lib.hid hO9
    clear h1 h2 hO9 ho HO x0 x1 x2 x3 x4
    obtain ⟨x0, x1, x2, x3, x4⟩ := HGb.out.five
    obtain ⟨y0, y1, y2, y3, y4⟩ := HGb.out.frees
    go_wp2
    have s0 := (HGb.out.set 0 (.int .i64 (out.2.1 : Nat))).cell 0
    have s1 := ((HGb.out.set 0 (.int .i64 (out.2.1 : Nat))).set 1 (.int .i64 (out.2.2.1 : Nat))).cell 1
    have s2 := (((HGb.out.set 0 (.int .i64 (out.2.1 : Nat))).set 1 (.int .i64 (out.2.2.1 : Nat))).set 2 (.slice oA out.2.2.2.1.length oc)).cell 2
    have s3 := ((((HGb.out.set 0 (.int .i64 (out.2.1 : Nat))).set 1 (.int .i64 (out.2.2.1 : Nat))).set 2 (.slice oA out.2.2.2.1.length oc)).set 3 (.int .i64 (out.2.2.2.2.1 : Nat))).cell 3
    have s4 := (((((HGb.out.set 0 (.int .i64 (out.2.1 : Nat))).set 1 (.int .i64 (out.2.2.1 : Nat))).set 2 (.slice oA out.2.2.2.1.length oc)).set 3 (.int .i64 (out.2.2.2.2.1 : Nat))).set 4 (.int .i64 (out.2.2.2.2.2 : Nat))).cell 4
    refine bodyPost_ret (v := .agg #[.int .i64 (out.2.1 : Nat), .int .i64 (out.2.2.1 : Nat), .slice oA out.2.2.2.1.length oc, .int .i64 (out.2.2.2.2.1 : Nat), .int .i64 (out.2.2.2.2.2 : Nat)]) (by simp [results, Tryz.results20, go_sem, s0, s1, s2, s3, s4]) rfl ⟨oA, oc, rfl, ?_, ?_, ?_⟩
    · exact ownI_le (ownI_wr2 (ownI_wr2 (ownI_wr2 (ownI_wr2 (ownI_wr2 HO9.out (Wr.set w.heap.size 0 _ _) (by omega)) (Wr.set w.heap.size 1 _ _) (by omega)) (Wr.set w.heap.size 2 _ _) (by omega)) (Wr.set w.heap.size 3 _ _) (by omega)) (Wr.set w.heap.size 4 _ _) (by omega)) (by omega)
    · rw [HO1.out.1, HO1.out.2]; exact (((((HR.out.wr (Wr.set w.heap.size 0 _ _) (.inr (by omega))).wr (Wr.set w.heap.size 1 _ _) (.inr (by omega))).wr (Wr.set w.heap.size 2 _ _) (.inr (by omega))).wr (Wr.set w.heap.size 3 _ _) (.inr (by omega))).wr (Wr.set w.heap.size 4 _ _) (.inr (by omega)))
    · exact (((((HW.out.setNewI (p := ⟨w.heap.size, 0, none⟩) (Nat.le_refl _) _).setNewI (p := ⟨w.heap.size, 1, none⟩) (Nat.le_refl _) _).setNewI (p := ⟨w.heap.size, 2, none⟩) (Nat.le_refl _) _).setNewI (p := ⟨w.heap.size, 3, none⟩) (Nat.le_refl _) _).setNewI (p := ⟨w.heap.size, 4, none⟩) (Nat.le_refl _) _)
  · rw [p1] at KH1
    rw [p2] at KH2
    rw [p3] at KH4
    rw [p4] at KH8
    rw [p1, p2, p3, p4]
    clear p1 p2 p3 p4 hok
    rw [show gA5 b false false false false kd (k1, e1) = finA kd 0 ([] : List Int) 0 ((k1, e1), 0) from rfl]
    obtain ⟨out, hout⟩ : ∃ out, out = finA kd 0 ([] : List Int) 0 ((k1, e1), 0) := ⟨_, rfl⟩
    rw [← hout]
    have HO1 : Hid (out.1.1 = k1 ∧ out.1.2 = chkF (rightA (kd : Nat) (0 : Nat) (0 : Nat) (0 : Nat) ([] : List Int)) e1) := by rw [hout]; exact ⟨rfl, rfl⟩
    have HCH : Hid (∀ AX cX, ∃ oA oc, (if chkF (rightA (kd : Nat) (0 : Nat) (0 : Nat) (0 : Nat) ([] : List Int)) e1 = 0 then Value.agg #[.int .i64 (kd : Nat), .int .i64 0, .slice AX 0 cX, .int .i64 0, .int .i64 0] else .agg #[.int .i64 0, .int .i64 0, .slice none 0 0, .int .i64 0, .int .i64 0]) = .agg #[.int .i64 (out.2.1 : Nat), .int .i64 (out.2.2.1 : Nat), .slice oA out.2.2.2.1.length oc, .int .i64 (out.2.2.2.2.1 : Nat), .int .i64 (out.2.2.2.2.2 : Nat)] ∧ ∀ (W : World) (B : Nat), W.ownsRow B 3 1 (.slice AX 0 cX) 0 (litI ([] : List Int)) → W.ownsRow B 3 1 (.slice oA out.2.2.2.1.length oc) out.2.2.2.1.length (litI out.2.2.2.1)) := fun AX cX => by rw [hout]; exact chk_out kd (0) (0) ([] : List Int) ((k1, e1), 0) AX cX
    clear hout
    go_enter Tryz.func20, Tryz.ntmps20
    go_wp2_with fail
    refine (K1.out).mono ?_
    rintro r w1 ⟨rfl, h1, h2⟩
    have hgw1 : g < w1.heap.size := h1.lt.1
    have hsz1 : w.heap.size + 1 ≤ w1.heap.size := by have := h2.size; rw [alloc_size'] at this; exact this
    have hal := (Below.refl w1.heap.size w1).alloc (Nat.le_refl _) (.cells #[.int .i64 (kd : Nat), .int .i64 0, .slice none 0 0, .int .i64 0, .int .i64 0] 51)
    have HA3 := Lib.hid (Box.new w1 #[.int .i64 (kd : Nat), .int .i64 0, .slice none 0 0, .int .i64 0, .int .i64 0] 51)
    have HG := Lib.hid ((h2.box HG.out hn1).alloc (.cells #[.int .i64 (kd : Nat), .int .i64 0, .slice none 0 0, .int .i64 0, .int .i64 0] 51))
    have HR := Lib.hid (h1.below hal)
    have HW := Lib.hid ((HW.out.trans h2).trans (Wr.of g hal))
    clear h1 h2 hal K1
    go_wp2_with fail
    generalize w1.alloc (.cells #[.int .i64 (kd : Nat), .int .i64 0, .slice none 0 0, .int .i64 0, .int .i64 0] 51) = w2 at *
    generalize w1.heap.size = G3 at *
    have hn3 : ¬ G3 = g := by omega
    obtain ⟨x0, x1, x2, x3, x4⟩ := HA3.out.five
    refine (KSK.out _).mono ?_
    rintro r wq ⟨rfl, rfl⟩
    go_wp2_with fail
    refine (KH1.out _).mono ?_
    rintro r wq ⟨rfl, rfl⟩
    go_wp2_with fail
    refine (KH2.out _).mono ?_
    rintro r wq ⟨rfl, rfl⟩
    go_wp2_with fail
    refine (KH4.out _).mono ?_
    rintro r wq ⟨rfl, rfl⟩
    go_wp2_with fail
    refine (KH8.out _).mono ?_
    rintro r wq ⟨rfl, rfl⟩
    go_wp2_with fail
    have HO : Hid (w2.ownsRow (G3 + 1) 3 1 (.slice none ([] : List Int).length 0) ([] : List Int).length (litI [])) := World.ownsRow_nil _ _ _ _
    obtain ⟨A9, c9, e9, q1, q2, q3⟩ := lies_ownI HO.out
    cases e9
    have kc := KC.out kd (0) (0) (0) ([] : List Int) _ _ w2 (k1) (e1) HR.out q3 (by unfold maxLen at q2; omega) q1
    try simp only [List.length_nil] at kc
    try rw [show ((0 : Nat) : Int) = 0 from rfl] at kc
    obtain ⟨oA, oc, hv, ho⟩ := HCH.out none 0
    try rw [show ((0 : Nat) : Int) = 0 from rfl] at hv
    rw [hv] at kc
    refine kc.mono ?_
    rintro r w9 ⟨rfl, h1, h2⟩
    clear kc hv q1 q2 q3
    have HR := Lib.hid h1
    have HGb := Lib.hid (h2.box HG.out hn1)
    have HW := Lib.hid (HW.out.trans h2)
    have hO9 := ownI_wr2 (ho _ _ HO.out) h2 (by omega)
    have HO9 := Lib.hid hO9
    clear h1 h2 hO9 ho HO x0 x1 x2 x3 x4
    obtain ⟨x0, x1, x2, x3, x4⟩ := HGb.out.five
    obtain ⟨y0, y1, y2, y3, y4⟩ := HGb.out.frees
    go_wp2
    have s0 := (HGb.out.set 0 (.int .i64 (out.2.1 : Nat))).cell 0
    have s1 := ((HGb.out.set 0 (.int .i64 (out.2.1 : Nat))).set 1 (.int .i64 (out.2.2.1 : Nat))).cell 1
    have s2 := (((HGb.out.set 0 (.int .i64 (out.2.1 : Nat))).set 1 (.int .i64 (out.2.2.1 : Nat))).set 2 (.slice oA out.2.2.2.1.length oc)).cell 2
    have s3 := ((((HGb.out.set 0 (.int .i64 (out.2.1 : Nat))).set 1 (.int .i64 (out.2.2.1 : Nat))).set 2 (.slice oA out.2.2.2.1.length oc)).set 3 (.int .i64 (out.2.2.2.2.1 : Nat))).cell 3
    have s4 := (((((HGb.out.set 0 (.int .i64 (out.2.1 : Nat))).set 1 (.int .i64 (out.2.2.1 : Nat))).set 2 (.slice oA out.2.2.2.1.length oc)).set 3 (.int .i64 (out.2.2.2.2.1 : Nat))).set 4 (.int .i64 (out.2.2.2.2.2 : Nat))).cell 4
    refine bodyPost_ret (v := .agg #[.int .i64 (out.2.1 : Nat), .int .i64 (out.2.2.1 : Nat), .slice oA out.2.2.2.1.length oc, .int .i64 (out.2.2.2.2.1 : Nat), .int .i64 (out.2.2.2.2.2 : Nat)]) (by simp [results, Tryz.results20, go_sem, s0, s1, s2, s3, s4]) rfl ⟨oA, oc, rfl, ?_, ?_, ?_⟩
    · exact ownI_le (ownI_wr2 (ownI_wr2 (ownI_wr2 (ownI_wr2 (ownI_wr2 HO9.out (Wr.set w.heap.size 0 _ _) (by omega)) (Wr.set w.heap.size 1 _ _) (by omega)) (Wr.set w.heap.size 2 _ _) (by omega)) (Wr.set w.heap.size 3 _ _) (by omega)) (Wr.set w.heap.size 4 _ _) (by omega)) (by omega)
    · rw [HO1.out.1, HO1.out.2]; exact (((((HR.out.wr (Wr.set w.heap.size 0 _ _) (.inr (by omega))).wr (Wr.set w.heap.size 1 _ _) (.inr (by omega))).wr (Wr.set w.heap.size 2 _ _) (.inr (by omega))).wr (Wr.set w.heap.size 3 _ _) (.inr (by omega))).wr (Wr.set w.heap.size 4 _ _) (.inr (by omega)))
    · exact (((((HW.out.setNewI (p := ⟨w.heap.size, 0, none⟩) (Nat.le_refl _) _).setNewI (p := ⟨w.heap.size, 1, none⟩) (Nat.le_refl _) _).setNewI (p := ⟨w.heap.size, 2, none⟩) (Nat.le_refl _) _).setNewI (p := ⟨w.heap.size, 3, none⟩) (Nat.le_refl _) _).setNewI (p := ⟨w.heap.size, 4, none⟩) (Nat.le_refl _) _)
end Go.Proofs.YtpoemflclbhekaaGreat
