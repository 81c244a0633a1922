/- Layer 22 (item): seen events written, in the code: rightSeen, seenBytes, put, PutSeen. -/
import Derived.Test.YtpoemflclbhekaaGreatItmLv
namespace Go.Proofs.YtpoemflclbhekaaGreat
open Go.RowKit
set_option linter.unusedVariables false
set_option linter.unusedSimpArgs false

/-- the bytes of a seen event -/
def eB (id : Int) (X : List Int) (p q : Int) (sc : Bool) : List Int := uB id.toNat ++ X.flatMap iB ++ (if sc = true then uB 1 ++ scW p q else uB 0)
def eW (id : Int) (X : List Int) (p q : Int) (sc : Bool) (dim : Int) : List Int := if rsB id X p q sc dim = true then eB id X p q sc else []
theorem rsB_ok {id : Int} {X : List Int} {p q : Int} {sc : Bool} {dim : Int} (h : rsB id X p q sc dim = true) : (1 ≤ id ∧ id ≤ 1099511627776) ∧ isV X dim = true ∧ (sc = true → scoB p q = true) := by
  unfold rsB at h
  rw [Bool.and_eq_true, Bool.and_eq_true] at h
  obtain ⟨⟨h1, h2⟩, h3⟩ := h
  refine ⟨?_, h2, fun hs => by rw [hs] at h3; exact h3⟩
  unfold inB at h1
  simpa using h1
theorem it_rightSeen (dim : Int) (w : World) : Calls Tryz.prog 38 #[.int .i64 dim] w fun e w' => e = .returned (.func (.func 70) #[] #[.pointer (some ⟨w.heap.size, 0, none⟩)]) ∧ w' = w.alloc (.cells #[.int .i64 dim] 3) := by
  have hmf : ∀ (fn : Fn) (first cap : Array Value) (w : World), (Instr.makeFunc fn first cap).run Tryz.prog w = .ok (.func fn first cap) w := fun _ _ _ _ => rfl
  go_enter Tryz.func38, Tryz.ntmps38
  go_wp2
  go_ret
  exact ⟨rfl, rfl⟩
theorem it_rightSeen1 (id : Int) (X : List Int) (A : Option Addr) (c : Nat) (p q : Int) (sc : Bool) (dim : Int) (gd : Nat) (hp : I64 p) (hq : I64 q) (w : World) (hA : Lies w w.heap.size A X) (hX : X.length ≤ 9223372036854775807) (hc : X.length ≤ c) (hd : Box w gd #[.int .i64 dim] 3) :
    Calls Tryz.prog 70 #[.agg #[.int .i64 id, .slice A X.length c, .int .i64 p, .int .i64 q, .bool sc], .pointer (some ⟨gd, 0, none⟩)] w fun e w' => e = .returned (.bool (rsB id X p q sc dim)) ∧ Below w.heap.size w w' := by
  have hb1 := (Below.refl w.heap.size w).alloc (Nat.le_refl _) (.cells #[.int .i64 id, .slice A X.length c, .int .i64 p, .int .i64 q, .bool sc] 41)
  have HX := Lib.hid (Box.new w #[.int .i64 id, .slice A X.length c, .int .i64 p, .int .i64 q, .bool sc] 41)
  have d0 := ((hd.alloc (.cells #[.int .i64 id, .slice A X.length c, .int .i64 p, .int .i64 q, .bool sc] 41)).cell 0).trans rfl
  have K := Lib.hid (it_RightSeen id X A c p q sc dim hp hq (w.alloc (.cells #[.int .i64 id, .slice A X.length c, .int .i64 p, .int .i64 q, .bool sc] 41)) ((hA.below hb1).mono hb1.size) hX hc)
  have HB := Lib.hid hb1
  obtain ⟨x0, x1, x2, x3, x4⟩ := HX.out.five
  clear hA hb1 hd hX hc hp hq
  generalize rsB id X p q sc dim = R at *
  generalize X.length = N at *
  go_enter Tryz.func70, Tryz.ntmps70
  go_wp2_with fail
  refine (K.out).mono ?_
  rintro e w1 ⟨rfl, h1⟩
  have HB2 := Lib.hid (HB.out.trans (h1.mono HB.out.size))
  clear h1
  go_wp2
  go_ret
  exact ⟨rfl, HB2.out⟩
theorem u01 : uB 0 = [0] ∧ uB 1 = [1] := by decide +kernel
set_option maxRecDepth 100000 in
set_option maxHeartbeats 8000000 in
theorem it_seenBytes (id : Int) (X : List Int) (A : Option Addr) (c : Nat) (p q : Int) (sc : Bool) (hid : 0 ≤ id ∧ id ≤ 1099511627776) (hX : ∀ x ∈ X, I64 x) (hX8 : X.length ≤ 8) (hp : I64 p) (hq : I64 q) (w : World) (hA : Lies w w.heap.size A X) :
    Calls Tryz.prog 39 #[.agg #[.int .i64 id, .slice A X.length c, .int .i64 p, .int .i64 q, .bool sc]] w (GivesY (eB id X p q sc) w) := by
  have hb1 := (Below.refl w.heap.size w).alloc (Nat.le_refl _) (.cells #[.int .i64 id, .slice A X.length c, .int .i64 p, .int .i64 q, .bool sc] 41)
  have hb2 := hb1.alloc hb1.size (.cells #[.int .i64 id] 3)
  have hx := (Box.new w #[.int .i64 id, .slice A X.length c, .int .i64 p, .int .i64 q, .bool sc] 41).alloc (.cells #[.int .i64 id] 3)
  have hl := Box.new (w.alloc (.cells #[.int .i64 id, .slice A X.length c, .int .i64 p, .int .i64 q, .bool sc] 41)) #[.int .i64 id] 3
  rw [alloc_size'] at hl
  have KN := Lib.hid (it_numbers [id] (some ⟨w.heap.size + 1, 0, none⟩) 1 _ (boxLies hl rfl) (by intro x hx; simp at hx; omega) (by simp))
  rw [show nB [id] = uB id.toNat from by unfold nB; simp] at KN
  have hi9 := (uB_len (n := id.toNat) (by omega)).2
  have HLEN : Hid (∀ i, (uB id.toNat ++ (X.take i).flatMap iB).length ≤ 9 + 9 * X.length) := fun i => by
    have := flat_iB (X.take i) (fun x hx => hX x (List.mem_of_mem_take hx))
    rw [List.length_take] at this
    show _ ≤ _
    rw [List.length_append]
    omega
  have HST : Hid (∀ i, i < X.length → uB id.toNat ++ (X.take (i + 1)).flatMap iB = uB id.toNat ++ (X.take i).flatMap iB ++ iB (X.getD i 0)) := fun i h => by
    rw [List.take_add_one, List.getD_eq_getElem?_getD, List.getElem?_eq_getElem h, List.flatMap_append]
    simp
  have HFIN : Hid (uB id.toNat ++ (X.take X.length).flatMap iB = uB id.toNat ++ X.flatMap iB) := by show _ = _; rw [List.take_length]
  have HI : Hid (∀ i, i < X.length → I64 (X.getD i 0)) := fun i h => hX _ (by rw [List.getD_eq_getElem?_getD, List.getElem?_eq_getElem h]; exact List.getElem_mem _)
  have HEB : Hid (eB id X p q sc = uB id.toNat ++ X.flatMap iB ++ (if sc = true then uB 1 ++ scW p q else uB 0)) := rfl
  have KPS := Lib.hid (fun (l : List Int) (A : Option Addr) (c : Nat) (W : World) (h1 : LiesY W W.heap.size A l) (h2 : A = none → c = 0) (h3 : l.length ≤ 1000) => it_PutScore p q hp hq l A c W h1 h2 h3)
  have HAX := Lib.hid hA
  have HX := Lib.hid hx
  have HB := Lib.hid hb2
  unfold GivesY at KN
  obtain ⟨x0, x1, x2, x3, x4⟩ := HX.out.five
  obtain ⟨y0, y1, y2, y3, y4⟩ := (Box.new w #[.int .i64 id, .slice A X.length c, .int .i64 p, .int .i64 q, .bool sc] 41).five
  generalize eB id X p q sc = EB at *
  generalize hn0 : uB id.toNat = u0 at *
  clear hX hA hb1 hb2 hx hl hid hp hq hn0
  generalize hN : X.length = N at *
  have HN := Lib.hid hN
  clear hN
  go_enter Tryz.func39, Tryz.ntmps39
  go_wp2_with fail
  refine (KN.out).mono ?_
  rintro e w1 ⟨⟨v, rfl, g1⟩, g2⟩
  have HO0 : Hid (OwnsY w1 w.heap.size v (u0 ++ (X.take 0).flatMap iB)) := by show OwnsY _ _ _ _; rw [List.take_zero]; simpa using ownY_le g1 HB.out.size
  have HX1 := Lib.hid (HX.out.below g2 HX.out.lt)
  have HB1 := Lib.hid (HB.out.trans (g2.mono HB.out.size))
  clear HX HB
  clear g1 g2 KN x0 x1 x2 x3 x4 y0 y1 y2 y3 y4
  obtain ⟨x0, x1, x2, x3, x4⟩ := HX1.out.five
  go_wp2
  go_loopw [3, 13] (fun v iv wr => ∃ i : Nat, iv = .int .i64 (i : Nat) ∧ i ≤ N ∧ Hid (OwnsY wr w.heap.size v (u0 ++ (X.take i).flatMap iB)) ∧ Hid (Below w.heap.size w wr) ∧ Hid (Box wr w.heap.size #[.int .i64 id, .slice A N c, .int .i64 p, .int .i64 q, .bool sc] 41)) (fun _ iv _ => N - (intOf iv).toNat)
  case atStart => exact ⟨0, rfl, Nat.zero_le _, HO0, HB1, HX1⟩
  case round =>
    obtain ⟨i, rfl, hi1, HO, HB, HX⟩ := hrel
    clear x0 x1 x2 x3 x4 HX1 HB1 HO0
    by_cases h0 : i < N
    · have hig : (i : Int) < (N : Int) := by omega
      obtain ⟨ad, eA, hbk, hc⟩ := HAX.out (by rw [HN.out]; omega)
      have hcc : wr.cell? (ad.add i) = _ := (HB.out.cell (by rw [add_block]; exact hbk)).trans (hc i (by rw [HN.out]; exact h0))
      subst eA
      have hI := HI.out i h0
      have HS := Lib.hid (HST.out i h0)
      have hle := HLEN.out i
      clear hc HST HI HLEN
      generalize X.getD i 0 = x at *
      obtain ⟨A1, c1, rfl, q1, q2, q3, -, -⟩ := HO.out.lies
      have K := Lib.hid (bin_I (u0 ++ (X.take i).flatMap iB) A1 c1 x wr q3 q1 (by omega) hI)
      unfold GivesY at K
      clear q1 q2 q3
      generalize (u0 ++ (X.take i).flatMap iB).length = tl at *
      go_wp2_with fail
      refine (K.out).mono ?_
      rintro e w2 ⟨⟨v2, rfl, g1⟩, g2⟩
      have HO2 : Hid (OwnsY w2 w.heap.size v2 (u0 ++ (X.take (i + 1)).flatMap iB)) := by
        show OwnsY _ _ _ _
        rw [HS.out]
        exact ownY_le g1 HB.out.size
      have HB2 := Lib.hid (HB.out.trans (g2.mono HB.out.size))
      have HX2 := Lib.hid (HX.out.below g2 HX.out.lt)
      clear g1 g2
      go_wp2
      exact ⟨⟨i + 1, by go_num, by omega, HO2, HB2, HX2⟩, by simp [intOf]; omega⟩
    · obtain rfl : i = N := by omega
      have HO2 := HO.out
      have hle := HLEN.out i
      rw [HFIN.out] at HO2 hle
      have HO := Lib.hid HO2
      obtain ⟨A1, c1, rfl, q1, q2, q3, q4, -⟩ := HO2.lies
      obtain ⟨x0, x1, x2, x3, x4⟩ := HX.out.five
      clear HO2 HST HI HLEN HFIN
      generalize u0 ++ X.flatMap iB = D at *
      cases sc
      · have K := Lib.hid (bin_U D A1 c1 0 wr q3 q1 (by omega) (by omega))
        unfold GivesY at K
        have HEB2 : Hid (EB = D ++ uB 0) := HEB.out
        clear HEB
        clear q1 q2 q3 q4
        generalize D.length = dl at *
        go_wp2_with fail
        refine (K.out).mono ?_
        rintro e w2 ⟨⟨v2, rfl, g1⟩, g2⟩
        have HO3 := Lib.hid (ownY_le g1 HB.out.size)
        have HB3 := Lib.hid (HB.out.trans (g2.mono HB.out.size))
        clear g1 g2
        go_wp2
        go_ret
        rw [HEB2.out]
        exact ⟨⟨_, rfl, HO3.out⟩, HB3.out⟩
      · have K := Lib.hid (bin_U D A1 c1 1 wr.drew (q3.up ((Below.refl wr.heap.size wr).drew)) q1 (by omega) (by omega))
        unfold GivesY at K
        rw [show ((1 : Nat) : Int) = 1 from rfl] at K
        have HEB2 : Hid (EB = D ++ (uB 1 ++ scW p q)) := HEB.out
        clear HEB
        have hdl : (D ++ uB 1).length ≤ 1000 := by rw [List.length_append, u01.2]; simp; omega
        have HDL := Lib.hid hdl
        have hd := (Below.refl wr.heap.size wr).drew
        have HD := Lib.hid hd
        obtain ⟨z0, z1, z2, z3, z4⟩ := (HX.out.below hd HX.out.lt).five
        clear q1 q2 q3 q4 hdl hd hle
        generalize D.length = dl at *
        go_wp2
        go_region_with (first | (go_at_call 72; refine Calls.mono K.out ?_; rintro r w5 ⟨⟨v2, rfl, g1⟩, g2⟩; have g3 := HD.out.trans g2; obtain ⟨A3, c3, e3, -, -, r3, r4, -⟩ := g1.lies; subst e3; have HX := Lib.hid (HX.out.below g3 HX.out.lt); have HB := Lib.hid (HB.out.trans (g3.mono HB.out.size)); have KP := Lib.hid (KPS.out (D ++ uB 1) A3 c3 w5 r3 r4 HDL.out); clear g1 g2 g3 r3 r4; generalize (D ++ uB 1).length = L1 at *; obtain ⟨v0, v1, v2, v3, v4⟩ := HX.out.five) | (go_at_call 6; refine Calls.mono KP.out ?_; rintro r w6 ⟨⟨v6, rfl, g1⟩, g2⟩; have HO6 := Lib.hid (ownY_le g1 HB.out.size); have HB := Lib.hid (HB.out.trans (g2.mono HB.out.size)); clear g1 g2))
        all_goals
          go_wp2
          go_ret
          rw [HEB2.out, ← List.append_assoc]
          exact ⟨⟨_, rfl, HO6.out⟩, HB.out⟩
set_option maxRecDepth 100000 in
set_option maxHeartbeats 4000000 in
theorem it_putE (id p q : Int) (sc : Bool) (gd : Nat) (AX : Option Addr) (NX cX : Nat) (R : Bool) (D l : List Int) (A : Option Addr) (c : Nat) (f1 f2 : Nat) (w : World) (hA : LiesY w w.heap.size A l) (hAc : A = none → c = 0) (hl : l.length ≤ 1000)
    (KR : Hid (∀ W, Below w.heap.size w W → Calls Tryz.prog 70 #[.agg #[.int .i64 id, .slice AX NX cX, .int .i64 p, .int .i64 q, .bool sc], .pointer (some ⟨gd, 0, none⟩)] W fun e w' => e = .returned (.bool R) ∧ Below W.heap.size W w'))
    (KD : Hid (R = true → D.length ≤ 1000 ∧ ∀ W, Below w.heap.size w W → Calls Tryz.prog 39 #[.agg #[.int .i64 id, .slice AX NX cX, .int .i64 p, .int .i64 q, .bool sc]] W (GivesY D W))) :
    Calls Tryz.prog 37 #[.slice A l.length c, .agg #[.int .i64 id, .slice AX NX cX, .int .i64 p, .int .i64 q, .bool sc], .func (.func 70) #[] #[.pointer (some ⟨gd, 0, none⟩)], .func (.func 39) #[] #[]] w (GivesY (l ++ if R = true then D else []) w) := by
  have hb1 := ((Below.refl w.heap.size w).alloc (Nat.le_refl _) (.cells #[.int .i64 id, .slice AX NX cX, .int .i64 p, .int .i64 q, .bool sc] 41))
  have HA := Lib.hid (hA.below hb1)
  have HAc := Lib.hid hAc
  have HB := Lib.hid hb1
  have HX := Lib.hid (Box.new w #[.int .i64 id, .slice AX NX cX, .int .i64 p, .int .i64 q, .bool sc] 41)
  have HLL := Lib.hid hl
  clear hA hAc hb1 hl
  generalize hN : l.length = N at *
  have HN := Lib.hid hN
  clear hN
  unfold GivesY at KD
  have hS : w.heap.size + 1 ≤ (w.alloc (.cells #[.int .i64 id, .slice AX NX cX, .int .i64 p, .int .i64 q, .bool sc] 41)).heap.size := by rw [alloc_size']; exact Nat.le_refl _
  have HS := Lib.hid hS
  clear hS
  cases R
  · rw [if_neg (by simp), List.append_nil]
    clear KD
    go_enter Tryz.func37, Tryz.ntmps37
    go_wp2_with (at_builtin; refine app_own (B := w.heap.size + 1) rfl (.const (.slice none 0 0)) (.tmp 10) rfl _ [] l A c N rfl rfl HN.out HAc.out (OwnsY.nil _ _) HA.out HS.out (by have := HLL.out; simp; omega) ?_; intro v1 w1 g1 g2; have HO1 := Lib.hid g1; have HB1 := Lib.hid (HB.out.trans (g2.mono (Nat.le_succ _))); have HX1 := Lib.hid (HX.out.below g2 (Nat.lt_succ_self _)); clear g1 g2; obtain ⟨x0, x1, x2, x3, x4⟩ := HX1.out.five)
    refine (KR.out w1 HB1.out).mono ?_
    rintro e w2 ⟨rfl, b2⟩
    have HO2 := Lib.hid (HO1.out.below b2)
    have HB2 := Lib.hid (HB1.out.trans (b2.mono HB1.out.size))
    clear b2 HO1 HX1
    go_wp2
    go_ret
    exact ⟨⟨_, rfl, by have := ownY_le HO2.out (Nat.le_succ _); rw [List.nil_append] at this; exact this⟩, HB2.out⟩
  · rw [if_pos rfl]
    obtain ⟨hD, hK⟩ := KD.out rfl
    have HD := Lib.hid hD
    have HK := Lib.hid hK
    clear KD hD hK
    go_enter Tryz.func37, Tryz.ntmps37
    go_wp2_with (at_builtin; refine app_own (B := w.heap.size + 1) rfl (.const (.slice none 0 0)) (.tmp 10) rfl _ [] l A c N rfl rfl HN.out HAc.out (OwnsY.nil _ _) HA.out HS.out (by have := HLL.out; simp; omega) ?_; intro v1 w1 g1 g2; have HO1 := Lib.hid g1; have HB1 := Lib.hid (HB.out.trans (g2.mono (Nat.le_succ _))); have HX1 := Lib.hid (HX.out.below g2 (Nat.lt_succ_self _)); have HS1 := Lib.hid (Nat.le_trans HS.out g2.size); clear g1 g2; obtain ⟨x0, x1, x2, x3, x4⟩ := HX1.out.five)
    refine (KR.out w1 HB1.out).mono ?_
    rintro e w2 ⟨rfl, b2⟩
    have HO2 := Lib.hid (HO1.out.below b2)
    have HB2 := Lib.hid (HB1.out.trans (b2.mono HB1.out.size))
    have HX2 := Lib.hid (HX1.out.below b2 HX1.out.lt)
    have HS2 := Lib.hid (Nat.le_trans HS1.out b2.size)
    clear b2 HO1 HX1 x0 x1 x2 x3 x4
    obtain ⟨x0, x1, x2, x3, x4⟩ := HX2.out.five
    go_wp2_with fail
    refine (HK.out w2 HB2.out).mono ?_
    rintro e w3 ⟨⟨v3, rfl, g1⟩, g2⟩
    obtain ⟨A3, c3, rfl, -, -, q3, q4, -⟩ := g1.lies
    have HQ3 := Lib.hid q3
    have HQ4 := Lib.hid q4
    have HO3 := Lib.hid (HO2.out.below g2)
    have HB3 := Lib.hid (HB2.out.trans (g2.mono HB2.out.size))
    have HS3 := Lib.hid (Nat.le_trans HS2.out g2.size)
    have HLN : Hid (([] ++ l).length + D.length ≤ 1000000000) := by show _ ≤ _; have := HLL.out; have := HN.out; have := HD.out; simp; omega
    clear g1 g2 q3 q4 x0 x1 x2 x3 x4 HX2 HK KR
    go_wp2_with (at_builtin; refine app_own (B := w.heap.size + 1) rfl (.tmp 17) (.tmp 20) rfl v1 ([] ++ l) D A3 c3 D.length rfl rfl rfl HQ4.out HO3.out HQ3.out HS3.out HLN.out ?_; intro v4 w4 g1 g2; have HO4 := Lib.hid g1; have HB4 := Lib.hid (HB3.out.trans (g2.mono (Nat.le_succ _))); clear g1 g2)
    go_ret
    exact ⟨⟨_, rfl, by have := ownY_le HO4.out (Nat.le_succ _); rw [List.nil_append] at this; exact this⟩, HB4.out⟩
end Go.Proofs.YtpoemflclbhekaaGreat
