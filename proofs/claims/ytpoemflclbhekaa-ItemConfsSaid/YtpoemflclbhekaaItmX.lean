/- Layer 22 (item): ways to work read, in the reference: GetConf. -/
import Derived.Test.YtpoemflclbhekaaItmW
import Derived.Great.BuildSlice
import Derived.Laws.CopyOwn
namespace Go.Proofs.Ytpoemflclbhekaa
open Go.RowKit
set_option linter.unusedVariables false
set_option linter.unusedSimpArgs false

/-- the memory of the reference's GetConf -/
structure CJ (w : World) (A : Option Addr) (N c : Nat) (k' e' : Int) (wr : World) : Prop where
  b0 : Box wr w.heap.size #[.slice A N c, .int .i64 k', .int .i64 e'] 34
  b1 : Box wr (w.heap.size + 1) #[.slice none 0 0, .int .i64 0, .int .i64 0] 34
  b2 : Box wr (w.heap.size + 2) zC 23
  bel : Below w.heap.size w wr
theorem CJ.up {w : World} {A : Option Addr} {N c : Nat} {k' e' : Int} {wr wy : World} {B : Nat} (h : CJ w A N c k' e' wr) (hb : Below B wr wy) (hB : w.heap.size + 3 ≤ B) : CJ w A N c k' e' wy :=
  ⟨h.b0.below hb (by omega), h.b1.below hb (by omega), h.b2.below hb (by omega), h.bel.trans (hb.mono (by omega))⟩
theorem CJ.lt {w : World} {A : Option Addr} {N c : Nat} {k' e' : Int} {wr : World} (h : CJ w A N c k' e' wr) : w.heap.size + 3 ≤ wr.heap.size := by have := h.b2.lt; omega
theorem CJ.below {w : World} {A : Option Addr} {N c : Nat} {k' e' : Int} {wr wy : World} (h : CJ w A N c k' e' wr) (hb : Below wr.heap.size wr wy) : CJ w A N c k' e' wy := h.up hb h.lt
theorem CJ.other {w : World} {A : Option Addr} {N c : Nat} (wr : World) (k2 e2 : Int) {j : Nat} (hj : j ≠ w.heap.size) : (((wr.setCell ⟨w.heap.size, 0, none⟩ (.slice A N c)).setCell ⟨w.heap.size, 1, none⟩ (.int .i64 k2)).setCell ⟨w.heap.size, 2, none⟩ (.int .i64 e2)).heap[j]? = wr.heap[j]? :=
  (Below.heap_setCell _ _ _ _ hj).trans ((Below.heap_setCell _ _ _ _ hj).trans (Below.heap_setCell _ _ _ _ hj))
theorem CJ.set {w : World} {A : Option Addr} {N c : Nat} {k' e' : Int} {wr : World} (h : CJ w A N c k' e' wr) (k2 e2 : Int) :
    CJ w A N c k2 e2 (((wr.setCell ⟨w.heap.size, 0, none⟩ (.slice A N c)).setCell ⟨w.heap.size, 1, none⟩ (.int .i64 k2)).setCell ⟨w.heap.size, 2, none⟩ (.int .i64 e2)) :=
  ⟨((h.b0.set 0 _).set 1 _).set 2 _, (CJ.other wr k2 e2 (by omega)).trans h.b1, (CJ.other wr k2 e2 (by omega)).trans h.b2,
   ((h.bel.setCell (Nat.le_refl _) _).setCell (Nat.le_refl _) _).setCell (Nat.le_refl _) _⟩
def GivesRC (A : Option Addr) (N c : Nat) (out : (Nat × Int) × List Int) (w : World) (r : Ending) (w' : World) : Prop :=
  r = .returned (.tuple #[.agg #[.slice A N c, .int .i64 (out.1.1 : Nat), .int .i64 out.1.2], cV out.2]) ∧ Below w.heap.size w w'
def PlgJ (E : List (Option Value)) (B : Nat) (t : TypeId) (V : Array Value) (W : World) (f : Nat → Bool) (vs : List Value) (X : World) : Prop :=
  RegV E f vs ∧ Below B W X ∧ B ≤ X.heap.size ∧ (f 35 = true → f 34 = true) ∧ (f 34 = true → ∃ (g : Nat) (C : Array Value), vs.getD 34 undef = .pointer (some ⟨g, 0, none⟩) ∧ B ≤ g ∧ C.size = 11 ∧ Box X g C t ∧ (f 35 = true → C = V))
theorem PlgJ.step {E : List (Option Value)} {B : Nat} {t : TypeId} {V : Array Value} {w : World} {f : Nat → Bool} {vs : List Value} {X : World} (h : PlgJ E B t V w f vs X) {i : Nat} (hi : i < vs.length) (h34 : i ≠ 34) (h35 : i ≠ 35) (v : Value) (hv : ∀ u, E[i]? = some (some u) → v = u) : PlgJ E B t V w (fun j => if j = i then true else f j) (vs.set i v) X := by
  refine ⟨h.1.set hi hv, h.2.1, h.2.2.1, fun hf => ?_, fun hf => ?_⟩
  · have := h.2.2.2.1 (by simpa [Ne.symm h35] using hf)
    simpa [Ne.symm h34] using this
  · obtain ⟨g, C, e, q1, q2, q3, q4⟩ := h.2.2.2.2 (by simpa [Ne.symm h34] using hf)
    refine ⟨g, C, ?_, q1, q2, q3, fun hf => q4 (by simpa [Ne.symm h35] using hf)⟩
    rw [List.getD_eq_getElem?_getD, List.getElem?_set_ne h34, ← List.getD_eq_getElem?_getD]
    exact e
theorem len36 {vs : List Value} (h : vs.length = 36) : ∃ y0 y1 y2 y3 y4 y5 y6 y7 y8 y9 y10 y11 y12 y13 y14 y15 y16 y17 y18 y19 y20 y21 y22 y23 y24 y25 y26 y27 y28 y29 y30 y31 y32 y33 y34 y35, vs = [y0, y1, y2, y3, y4, y5, y6, y7, y8, y9, y10, y11, y12, y13, y14, y15, y16, y17, y18, y19, y20, y21, y22, y23, y24, y25, y26, y27, y28, y29, y30, y31, y32, y33, y34, y35] := by
  match vs, h with
  | y0 :: y1 :: y2 :: y3 :: y4 :: y5 :: y6 :: y7 :: y8 :: y9 :: y10 :: y11 :: y12 :: y13 :: y14 :: y15 :: y16 :: y17 :: y18 :: y19 :: y20 :: y21 :: y22 :: y23 :: y24 :: y25 :: y26 :: y27 :: y28 :: y29 :: y30 :: y31 :: y32 :: y33 :: y34 :: y35 :: [], _ => exact ⟨y0, y1, y2, y3, y4, y5, y6, y7, y8, y9, y10, y11, y12, y13, y14, y15, y16, y17, y18, y19, y20, y21, y22, y23, y24, y25, y26, y27, y28, y29, y30, y31, y32, y33, y34, y35, rfl⟩
set_option maxRecDepth 2000000 in
set_option maxHeartbeats 16000000 in
theorem ref_GetConf (b : List Int) (A : Option Addr) (c k : Nat) (e : Int) (w : World) (hA : LiesY w w.heap.size A b) (hb : byt b) (hl : b.length ≤ 1000000) (hk : k ≤ b.length) : Calls Try.prog 21 #[.agg #[.slice A b.length c, .int .i64 (k : Nat), .int .i64 e]] w (GivesRC A b.length c (gC b (k, e)) w) := by
  have i2 : I64 1099511627776 := by unfold I64; omega
  have KRN : Hid (∀ (W : World) (s : Nat × Int), Below w.heap.size w W → s.1 ≤ b.length → Calls Try.prog 97 #[.agg #[.slice A b.length c, .int .i64 (s.1 : Nat), .int .i64 s.2], .int .i64 1099511627776] W fun r w' => r = .returned (.tuple #[.agg #[.slice A b.length c, .int .i64 ((rN b s.1 s.2 1099511627776).1.1 : Nat), .int .i64 (rN b s.1 s.2 1099511627776).1.2], .int .i64 ((rN b s.1 s.2 1099511627776).2 : Nat)]) ∧ Below W.heap.size W w') := fun W s h hs => ref_ReadN21 b A c s.1 s.2 1099511627776 i2 W ((hA.below h).mono h.size) hb hl hs
  have HPN : Hid (∀ s : Nat × Int, s.1 ≤ b.length → (rN b s.1 s.2 1099511627776).1.1 ≤ b.length) := fun s h => rN_at hb h s.2 1099511627776
  have HST : Hid (∀ n, rdC b (n + 1) (k, e) = ((rN b (rdC b n (k, e)).1.1 (rdC b n (k, e)).1.2 1099511627776).1, (rdC b n (k, e)).2 ++ [((rN b (rdC b n (k, e)).1.1 (rdC b n (k, e)).1.2 1099511627776).2 : Int)])) := fun n => rfl
  have HLEN := Lib.hid (rdC_len b (k, e))
  have HG : Hid (gC b (k, e) = (((rdC b 11 (k, e)).1.1, chkF (okCf (rdC b 11 (k, e)).2) (rdC b 11 (k, e)).1.2), if chkF (okCf (rdC b 11 (k, e)).2) (rdC b 11 (k, e)).1.2 = 0 then (rdC b 11 (k, e)).2 else List.replicate 11 0)) := rfl
  have HRC0 : Hid (rdC b 0 (k, e) = ((k, e), [])) := rfl
  have hb1 := (Below.refl w.heap.size w).alloc (Nat.le_refl _) (.cells #[.slice A b.length c, .int .i64 (k : Nat), .int .i64 e] 34)
  have hb2 := hb1.alloc hb1.size (.cells #[.slice none 0 0, .int .i64 0, .int .i64 0] 34)
  have hb3 := hb2.alloc hb2.size (.cells zC 23)
  have hx0 := ((Box.new w #[.slice A b.length c, .int .i64 (k : Nat), .int .i64 e] 34).alloc (.cells #[.slice none 0 0, .int .i64 0, .int .i64 0] 34)).alloc (.cells zC 23)
  have hx1 := (Box.new (w.alloc (.cells #[.slice A b.length c, .int .i64 (k : Nat), .int .i64 e] 34)) #[.slice none 0 0, .int .i64 0, .int .i64 0] 34).alloc (.cells zC 23)
  have hx2 := Box.new ((w.alloc (.cells #[.slice A b.length c, .int .i64 (k : Nat), .int .i64 e] 34)).alloc (.cells #[.slice none 0 0, .int .i64 0, .int .i64 0] 34)) zC 23
  rw [alloc_size'] at hx1
  rw [alloc_size', alloc_size'] at hx2
  have HC : Hid (CJ w A b.length c (k : Nat) e (((w.alloc (.cells #[.slice A b.length c, .int .i64 (k : Nat), .int .i64 e] 34)).alloc (.cells #[.slice none 0 0, .int .i64 0, .int .i64 0] 34)).alloc (.cells zC 23))) := ⟨hx0, hx1, hx2, hb3⟩
  clear hb1 hb2 hb3 hx0 hx1 hx2 hA hb
  generalize gC b (k, e) = out at *
  obtain ⟨rc, hrc⟩ : ∃ rc : Nat → (Nat × Int) × List Int, rc = fun n => rdC b n (k, e) := ⟨_, rfl⟩
  have HST : Hid (∀ n, rc (n + 1) = ((rN b (rc n).1.1 (rc n).1.2 1099511627776).1, (rc n).2 ++ [((rN b (rc n).1.1 (rc n).1.2 1099511627776).2 : Int)])) := by rw [hrc]; exact HST.out
  have HLEN : Hid (∀ n, (rc n).2.length = n) := by rw [hrc]; exact HLEN.out
  have HG : Hid (out = (((rc 11).1.1, chkF (okCf (rc 11).2) (rc 11).1.2), if chkF (okCf (rc 11).2) (rc 11).1.2 = 0 then (rc 11).2 else List.replicate 11 0)) := by rw [hrc]; exact HG.out
  have HRC0 : Hid (rc 0 = ((k, e), [])) := by rw [hrc]; rfl
  clear hrc
  generalize hN : b.length = N at *
  clear hN
  go_enter Try.func21, Try.ntmps21
  go_wp2
  generalize ((w.alloc (.cells #[.slice A N c, .int .i64 (k : Nat), .int .i64 e] 34)).alloc (.cells #[.slice none 0 0, .int .i64 0, .int .i64 0] 34)).alloc (.cells zC 23) = w0 at *
  go_loopw [4, 5] (fun lv iv wr => ∃ (i : Nat) (A7 : Option Addr) (cx : Nat), lv = .slice A7 i cx ∧ iv = .int .i64 (i : Nat) ∧ i ≤ 11 ∧ (rc i).1.1 ≤ N ∧ Hid (wr.ownsRow (w.heap.size + 3) 3 1 (.slice A7 i cx) (rc i).2.length (litI (rc i).2)) ∧ Hid (CJ w A N c ((rc i).1.1 : Nat) (rc i).1.2 wr)) (fun _ iv _ => 11 - (intOf iv).toNat)
  case atStart => exact ⟨0, none, 0, rfl, rfl, Nat.zero_le _, by rw [HRC0.out]; exact hk, by rw [HRC0.out]; exact World.ownsRow_nil _ _ _ _, by rw [HRC0.out]; exact HC.out⟩
  case round =>
    obtain ⟨i, A7, cx, rfl, rfl, hi, hkn, HO, HJ⟩ := hrel
    clear HC HRC0
    by_cases h0 : i < 11
    · have hig : (i : Int) < 11 := by omega
      have HS := HST.out i
      have hlen := HLEN.out i
      have K := Lib.hid (KRN.out wr (rc i).1 HJ.out.bel hkn)
      have hkn2 := HPN.out (rc i).1 hkn
      clear HG KRN HPN HST
      generalize rc i = rk at *
      obtain ⟨⟨k1, e1⟩, L⟩ := rk
      simp only at HS hlen K hkn2 HO HJ
      generalize rN b k1 e1 1099511627776 = rn at *
      obtain ⟨⟨k2, e2⟩, d⟩ := rn
      simp only at HS K hkn2
      have HS := Lib.hid HS
      have HLN := Lib.hid hlen
      obtain ⟨v0, v1, v2, -, -, -⟩ := HJ.out.b0.three
      clear hlen
      go_wp2_with fail
      refine (K.out).mono ?_
      rintro r w3 ⟨rfl, h1⟩
      have hal := (Below.refl w3.heap.size w3).alloc (Nat.le_refl _) (.cells #[.slice A N c, .int .i64 (k2 : Nat), .int .i64 e2] 34)
      have HJ3 := Lib.hid ((HJ.out.below h1).below hal)
      have HO3 := Lib.hid (ownI_below (ownI_below HO.out h1) hal)
      have HY := Lib.hid (Box.new w3 #[.slice A N c, .int .i64 (k2 : Nat), .int .i64 e2] 34)
      have hz3 := (HJ.out.below h1).lt
      clear h1 hal K v0 v1 v2
      go_upto_region 6 with fail
      generalize w3.alloc (.cells #[.slice A N c, .int .i64 (k2 : Nat), .int .i64 e2] 34) = w4 at *
      generalize w3.heap.size = G6 at *
      obtain ⟨x0, x1, x2, -, -, -⟩ := HY.out.three
      obtain ⟨v0, v1, v2, f0, f1, f2⟩ := HJ3.out.b0.three
      have hn1 : ¬ G6 = w.heap.size := by omega
      have hn2 : ¬ w.heap.size = G6 := by omega
      have HJ4 := Lib.hid (HJ3.out.set (k2 : Nat) e2)
      have HO4 := Lib.hid (ownI_keep (w' := ((w4.setCell ⟨w.heap.size, 0, none⟩ (.slice A N c)).setCell ⟨w.heap.size, 1, none⟩ (.int .i64 (k2 : Nat))).setCell ⟨w.heap.size, 2, none⟩ (.int .i64 e2)) (show w4.ownsRow (w.heap.size + 3) 3 1 (.slice A7 i cx) L.length (litI L) from HO3.out) (Nat.le_refl _) (fun j h1 h2 => CJ.other w4 (k2 : Nat) e2 (by omega)))
      go_upto_region 7 with fail
      generalize ((w4.setCell ⟨w.heap.size, 0, none⟩ (.slice A N c)).setCell ⟨w.heap.size, 1, none⟩ (.int .i64 (k2 : Nat))).setCell ⟨w.heap.size, 2, none⟩ (.int .i64 e2) = w5 at *
      clear x0 x1 x2 v0 v1 v2 f0 f1 f2 hn1 hn2 HJ3 HO3
      go_wp2_with (at_builtin; refine app_int (B := w.heap.size + 3) rfl (.tmp 19) (.tmp 21) rfl _ L (d : Nat) rfl HO4.out rfl HJ4.out.lt (by have := HLN.out; omega) ?_; intro v3 w6 g1 g2 _; have HJ6 := Lib.hid (HJ4.out.up g2 (Nat.le_refl _)); have HO6 := Lib.hid g1; clear g1 g2)
      obtain ⟨A3, c3, e3, -, -, -⟩ := lies_ownI HO6.out
      have hl3 : (L ++ [((d : Nat) : Int)]).length = i + 1 := by rw [List.length_append, HLN.out]; rfl
      rw [hl3] at e3
      subst e3
      refine ⟨⟨i + 1, A3, c3, rfl, by go_num, by omega, ?_, ?_, ?_⟩, by simp [intOf]; omega⟩
      · rw [HS.out]; exact hkn2
      · rw [HS.out]; exact HO6.out
      · rw [HS.out]; exact HJ6.out
    · obtain rfl : i = 11 := by omega
      have hlen := HLEN.out 11
      have HG := HG.out
      clear HST HLEN KRN HPN
      generalize rc 11 = r11 at *
      obtain ⟨⟨k1, e1⟩, L⟩ := r11
      simp only at HG hlen HO HJ hkn
      have ho := HO.out
      have KR : Hid (∀ W, Calls Try.prog 91 #[cV L] W fun e w' => e = .returned (.bool (okCf L)) ∧ Below W.heap.size W w') := fun W => by
        obtain ⟨c0, c1, c2, c3, c4, c5, c6, c7, c8, c9, c10, rfl⟩ := eleven_of hlen
        exact ref20_Right c0 c1 c2 c3 c4 c5 c6 c7 c8 c9 c10 W
      have HCL : Hid (∃ g, A7 = some ⟨g, 0, none⟩ ∧ ∀ X, Below wr.heap.size wr X → ∀ j, j < 11 → X.cell? ⟨g, j, none⟩ = some (.int .i64 (L.getD j 0))) := by
        rcases ho.2 with ⟨-, h0⟩ | ⟨g, cap, cur, ev, hbg, hh, hnc, hm, hsz, hx⟩
        · exact absurd h0 (by rw [hlen]; simp)
        · simp only [Value.slice.injEq] at ev
          obtain ⟨rfl, -, -⟩ := ev
          refine ⟨g, rfl, fun X hX j hj => ?_⟩
          have hlt : g < wr.heap.size := by
            rcases Nat.lt_or_ge g wr.heap.size with h | h
            · exact h
            · rw [Array.getElem?_eq_none h] at hh; cases hh
          refine (cell_of_row X g j _ _ (0, 0) ((hX.block g hlt).trans hh)).trans ?_
          rw [← litI_get L j (by omega), ← hx, List.getElem?_take]
          simp
          intro h2; omega
      obtain ⟨g, eA, hcl⟩ := HCL.out
      subst eA
      have HCL := Lib.hid hcl
      obtain ⟨R, hR⟩ : ∃ R, R = okCf L := ⟨_, rfl⟩
      rw [← hR] at HG KR
      obtain ⟨EE, hEE⟩ : ∃ EE, EE = chkF R e1 := ⟨_, rfl⟩
      rw [← hEE] at HG
      have HEE := Lib.hid hEE
      have KFM := Lib.hid (fun W => ref_form A N c k1 e1 R W)
      rw [← hEE] at KFM
      have HRL : Hid ((if EE = 0 then L else List.replicate 11 0).length = 11) := by show _ = _; split <;> simp [hlen]
      obtain ⟨c0, c1, c2, c3, c4, c5, c6, c7, c8, c9, c10, rfl⟩ := eleven_of hlen
      rw [show cV [c0, c1, c2, c3, c4, c5, c6, c7, c8, c9, c10] = .agg #[.int .i64 c0, .int .i64 c1, .int .i64 c2, .int .i64 c3, .int .i64 c4, .int .i64 c5, .int .i64 c6, .int .i64 c7, .int .i64 c8, .int .i64 c9, .int .i64 c10] from rfl] at KR
      clear ho hcl hR hEE HO
      have HGG := Lib.hid HG
      clear HG hlen
      go_wp2
      refine wp_region_steps (PlgJ [some (.slice (some ⟨g, 0, none⟩) 11 cx), some (.pointer (some ⟨g, 0, none⟩)), some (.int .i64 c0), some (.slice (some ⟨g, 0, none⟩) 11 cx), some (.pointer (some ⟨g, 1, none⟩)), some (.int .i64 c1), some (.slice (some ⟨g, 0, none⟩) 11 cx), some (.pointer (some ⟨g, 2, none⟩)), some (.int .i64 c2), some (.slice (some ⟨g, 0, none⟩) 11 cx), some (.pointer (some ⟨g, 3, none⟩)), some (.int .i64 c3), some (.slice (some ⟨g, 0, none⟩) 11 cx), some (.pointer (some ⟨g, 4, none⟩)), some (.int .i64 c4), some (.slice (some ⟨g, 0, none⟩) 11 cx), some (.pointer (some ⟨g, 5, none⟩)), some (.int .i64 c5), some (.slice (some ⟨g, 0, none⟩) 11 cx), some (.pointer (some ⟨g, 6, none⟩)), some (.int .i64 c6), some (.slice (some ⟨g, 0, none⟩) 11 cx), some (.pointer (some ⟨g, 7, none⟩)), some (.int .i64 c7), some (.slice (some ⟨g, 0, none⟩) 11 cx), some (.pointer (some ⟨g, 8, none⟩)), some (.int .i64 c8), some (.slice (some ⟨g, 0, none⟩) 11 cx), some (.pointer (some ⟨g, 9, none⟩)), some (.int .i64 c9), some (.slice (some ⟨g, 0, none⟩) 11 cx), some (.pointer (some ⟨g, 10, none⟩)), some (.int .i64 c10), some (.agg #[.int .i64 c0, .int .i64 c1, .int .i64 c2, .int .i64 c3, .int .i64 c4, .int .i64 c5, .int .i64 c6, .int .i64 c7, .int .i64 c8, .int .i64 c9, .int .i64 c10]), none, none] wr.heap.size 23 #[.int .i64 c0, .int .i64 c1, .int .i64 c2, .int .i64 c3, .int .i64 c4, .int .i64 c5, .int .i64 c6, .int .i64 c7, .int .i64 c8, .int .i64 c9, .int .i64 c10] wr)
        [[], [0], [1], [], [3], [4], [], [6], [7], [], [9], [10], [], [12], [13], [], [15], [16], [], [18], [19], [], [21], [22], [], [24], [25], [], [27], [28], [], [30], [31], [2, 5, 8, 11, 14, 17, 20, 23, 26, 29, 32], [], [34, 33, 0, 1, 2, 3, 4, 5, 6, 7, 8, 9, 10, 11, 12, 13, 14, 15, 16, 17, 18, 19, 20, 21, 22, 23, 24, 25, 26, 27, 28, 29, 30, 31, 32, 33, 34]] (by kernel_rfl) (by kernel_rfl) (by kernel_rfl) (by kernel_rfl) ?_ ?_ ?_ ?_
      · rintro f g vs X hfg ⟨h1, h2, h3, h4, h5⟩
        refine ⟨fun j u hj he => h1 j u ((hfg j (by have := (List.getElem?_eq_some_iff.1 he).1; simpa using this)).trans hj) he, h2, h3, fun hf => (hfg 34 (by decide)).symm.trans (h4 ((hfg 35 (by decide)).trans hf)), fun hf => ?_⟩
        obtain ⟨g, C, q1, q2, q3, q4, q5⟩ := h5 ((hfg 34 (by decide)).trans hf)
        exact ⟨g, C, q1, q2, q3, q4, fun hf => q5 ((hfg 35 (by decide)).trans hf)⟩
      · intro vs _
        exact ⟨fun j u h => (by cases h), (Below.refl _ _).drew, Nat.le_refl _, fun h => (by cases h), fun h => (by cases h)⟩
      · refine ⟨?_, ?_, ?_, ?_, ?_, ?_, ?_, ?_, ?_, ?_, ?_, ?_, ?_, ?_, ?_, ?_, ?_, ?_, ?_, ?_, ?_, ?_, ?_, ?_, ?_, ?_, ?_, ?_, ?_, ?_, ?_, ?_, ?_, ?_, ?_, ?_, trivial⟩
        all_goals
          intro f vs X hlen hf hp hj K hK
          obtain ⟨y0, y1, y2, y3, y4, y5, y6, y7, y8, y9, y10, y11, y12, y13, y14, y15, y16, y17, y18, y19, y20, y21, y22, y23, y24, y25, y26, y27, y28, y29, y30, y31, y32, y33, y34, y35, rfl⟩ := len36 hlen
          clear hlen
          have HJ := Lib.hid hj
          clear hj
        · rw [if_pos (by rfl)]
          simp only [putAll, Act.put, List.setIfInBounds_toArray, List.set_cons_zero, List.set_cons_succ] at hK ⊢
          go_simp
          refine hK _ X ?_
          exact HJ.out.step (i := 0) (by simp) (by omega) (by omega) _ (fun u hu => by simpa using hu)
        · rw [if_pos (by rfl)]
          simp only [putAll, Act.put, List.setIfInBounds_toArray, List.set_cons_zero, List.set_cons_succ] at hK ⊢
          have q0 : y0 = .slice (some ⟨g, 0, none⟩) 11 cx := HJ.out.1 0 _ (hp 0 (by simp)) rfl
          subst q0
          go_simp
          refine hK _ X ?_
          exact HJ.out.step (i := 1) (by simp) (by omega) (by omega) _ (fun u hu => by simpa using hu)
        · rw [if_pos (by rfl)]
          simp only [putAll, Act.put, List.setIfInBounds_toArray, List.set_cons_zero, List.set_cons_succ] at hK ⊢
          have q1 : y1 = .pointer (some ⟨g, 0, none⟩) := HJ.out.1 1 _ (hp 1 (by simp)) rfl
          subst q1
          have hcl := HCL.out X HJ.out.2.1 0 (by omega)
          simp only [List.getD_cons_zero, List.getD_cons_succ] at hcl
          go_simp
          refine hK _ X ?_
          exact HJ.out.step (i := 2) (by simp) (by omega) (by omega) _ (fun u hu => by simpa using hu)
        · rw [if_pos (by rfl)]
          simp only [putAll, Act.put, List.setIfInBounds_toArray, List.set_cons_zero, List.set_cons_succ] at hK ⊢
          go_simp
          refine hK _ X ?_
          exact HJ.out.step (i := 3) (by simp) (by omega) (by omega) _ (fun u hu => by simpa using hu)
        · rw [if_pos (by rfl)]
          simp only [putAll, Act.put, List.setIfInBounds_toArray, List.set_cons_zero, List.set_cons_succ] at hK ⊢
          have q3 : y3 = .slice (some ⟨g, 0, none⟩) 11 cx := HJ.out.1 3 _ (hp 3 (by simp)) rfl
          subst q3
          go_simp
          refine hK _ X ?_
          exact HJ.out.step (i := 4) (by simp) (by omega) (by omega) _ (fun u hu => by simpa using hu)
        · rw [if_pos (by rfl)]
          simp only [putAll, Act.put, List.setIfInBounds_toArray, List.set_cons_zero, List.set_cons_succ] at hK ⊢
          have q4 : y4 = .pointer (some ⟨g, 1, none⟩) := HJ.out.1 4 _ (hp 4 (by simp)) rfl
          subst q4
          have hcl := HCL.out X HJ.out.2.1 1 (by omega)
          simp only [List.getD_cons_zero, List.getD_cons_succ] at hcl
          go_simp
          refine hK _ X ?_
          exact HJ.out.step (i := 5) (by simp) (by omega) (by omega) _ (fun u hu => by simpa using hu)
        · rw [if_pos (by rfl)]
          simp only [putAll, Act.put, List.setIfInBounds_toArray, List.set_cons_zero, List.set_cons_succ] at hK ⊢
          go_simp
          refine hK _ X ?_
          exact HJ.out.step (i := 6) (by simp) (by omega) (by omega) _ (fun u hu => by simpa using hu)
        · rw [if_pos (by rfl)]
          simp only [putAll, Act.put, List.setIfInBounds_toArray, List.set_cons_zero, List.set_cons_succ] at hK ⊢
          have q6 : y6 = .slice (some ⟨g, 0, none⟩) 11 cx := HJ.out.1 6 _ (hp 6 (by simp)) rfl
          subst q6
          go_simp
          refine hK _ X ?_
          exact HJ.out.step (i := 7) (by simp) (by omega) (by omega) _ (fun u hu => by simpa using hu)
        · rw [if_pos (by rfl)]
          simp only [putAll, Act.put, List.setIfInBounds_toArray, List.set_cons_zero, List.set_cons_succ] at hK ⊢
          have q7 : y7 = .pointer (some ⟨g, 2, none⟩) := HJ.out.1 7 _ (hp 7 (by simp)) rfl
          subst q7
          have hcl := HCL.out X HJ.out.2.1 2 (by omega)
          simp only [List.getD_cons_zero, List.getD_cons_succ] at hcl
          go_simp
          refine hK _ X ?_
          exact HJ.out.step (i := 8) (by simp) (by omega) (by omega) _ (fun u hu => by simpa using hu)
        · rw [if_pos (by rfl)]
          simp only [putAll, Act.put, List.setIfInBounds_toArray, List.set_cons_zero, List.set_cons_succ] at hK ⊢
          go_simp
          refine hK _ X ?_
          exact HJ.out.step (i := 9) (by simp) (by omega) (by omega) _ (fun u hu => by simpa using hu)
        · rw [if_pos (by rfl)]
          simp only [putAll, Act.put, List.setIfInBounds_toArray, List.set_cons_zero, List.set_cons_succ] at hK ⊢
          have q9 : y9 = .slice (some ⟨g, 0, none⟩) 11 cx := HJ.out.1 9 _ (hp 9 (by simp)) rfl
          subst q9
          go_simp
          refine hK _ X ?_
          exact HJ.out.step (i := 10) (by simp) (by omega) (by omega) _ (fun u hu => by simpa using hu)
        · rw [if_pos (by rfl)]
          simp only [putAll, Act.put, List.setIfInBounds_toArray, List.set_cons_zero, List.set_cons_succ] at hK ⊢
          have q10 : y10 = .pointer (some ⟨g, 3, none⟩) := HJ.out.1 10 _ (hp 10 (by simp)) rfl
          subst q10
          have hcl := HCL.out X HJ.out.2.1 3 (by omega)
          simp only [List.getD_cons_zero, List.getD_cons_succ] at hcl
          go_simp
          refine hK _ X ?_
          exact HJ.out.step (i := 11) (by simp) (by omega) (by omega) _ (fun u hu => by simpa using hu)
        · rw [if_pos (by rfl)]
          simp only [putAll, Act.put, List.setIfInBounds_toArray, List.set_cons_zero, List.set_cons_succ] at hK ⊢
          go_simp
          refine hK _ X ?_
          exact HJ.out.step (i := 12) (by simp) (by omega) (by omega) _ (fun u hu => by simpa using hu)
        · rw [if_pos (by rfl)]
          simp only [putAll, Act.put, List.setIfInBounds_toArray, List.set_cons_zero, List.set_cons_succ] at hK ⊢
          have q12 : y12 = .slice (some ⟨g, 0, none⟩) 11 cx := HJ.out.1 12 _ (hp 12 (by simp)) rfl
          subst q12
          go_simp
          refine hK _ X ?_
          exact HJ.out.step (i := 13) (by simp) (by omega) (by omega) _ (fun u hu => by simpa using hu)
        · rw [if_pos (by rfl)]
          simp only [putAll, Act.put, List.setIfInBounds_toArray, List.set_cons_zero, List.set_cons_succ] at hK ⊢
          have q13 : y13 = .pointer (some ⟨g, 4, none⟩) := HJ.out.1 13 _ (hp 13 (by simp)) rfl
          subst q13
          have hcl := HCL.out X HJ.out.2.1 4 (by omega)
          simp only [List.getD_cons_zero, List.getD_cons_succ] at hcl
          go_simp
          refine hK _ X ?_
          exact HJ.out.step (i := 14) (by simp) (by omega) (by omega) _ (fun u hu => by simpa using hu)
        · rw [if_pos (by rfl)]
          simp only [putAll, Act.put, List.setIfInBounds_toArray, List.set_cons_zero, List.set_cons_succ] at hK ⊢
          go_simp
          refine hK _ X ?_
          exact HJ.out.step (i := 15) (by simp) (by omega) (by omega) _ (fun u hu => by simpa using hu)
        · rw [if_pos (by rfl)]
          simp only [putAll, Act.put, List.setIfInBounds_toArray, List.set_cons_zero, List.set_cons_succ] at hK ⊢
          have q15 : y15 = .slice (some ⟨g, 0, none⟩) 11 cx := HJ.out.1 15 _ (hp 15 (by simp)) rfl
          subst q15
          go_simp
          refine hK _ X ?_
          exact HJ.out.step (i := 16) (by simp) (by omega) (by omega) _ (fun u hu => by simpa using hu)
        · rw [if_pos (by rfl)]
          simp only [putAll, Act.put, List.setIfInBounds_toArray, List.set_cons_zero, List.set_cons_succ] at hK ⊢
          have q16 : y16 = .pointer (some ⟨g, 5, none⟩) := HJ.out.1 16 _ (hp 16 (by simp)) rfl
          subst q16
          have hcl := HCL.out X HJ.out.2.1 5 (by omega)
          simp only [List.getD_cons_zero, List.getD_cons_succ] at hcl
          go_simp
          refine hK _ X ?_
          exact HJ.out.step (i := 17) (by simp) (by omega) (by omega) _ (fun u hu => by simpa using hu)
        · rw [if_pos (by rfl)]
          simp only [putAll, Act.put, List.setIfInBounds_toArray, List.set_cons_zero, List.set_cons_succ] at hK ⊢
          go_simp
          refine hK _ X ?_
          exact HJ.out.step (i := 18) (by simp) (by omega) (by omega) _ (fun u hu => by simpa using hu)
        · rw [if_pos (by rfl)]
          simp only [putAll, Act.put, List.setIfInBounds_toArray, List.set_cons_zero, List.set_cons_succ] at hK ⊢
          have q18 : y18 = .slice (some ⟨g, 0, none⟩) 11 cx := HJ.out.1 18 _ (hp 18 (by simp)) rfl
          subst q18
          go_simp
          refine hK _ X ?_
          exact HJ.out.step (i := 19) (by simp) (by omega) (by omega) _ (fun u hu => by simpa using hu)
        · rw [if_pos (by rfl)]
          simp only [putAll, Act.put, List.setIfInBounds_toArray, List.set_cons_zero, List.set_cons_succ] at hK ⊢
          have q19 : y19 = .pointer (some ⟨g, 6, none⟩) := HJ.out.1 19 _ (hp 19 (by simp)) rfl
          subst q19
          have hcl := HCL.out X HJ.out.2.1 6 (by omega)
          simp only [List.getD_cons_zero, List.getD_cons_succ] at hcl
          go_simp
          refine hK _ X ?_
          exact HJ.out.step (i := 20) (by simp) (by omega) (by omega) _ (fun u hu => by simpa using hu)
        · rw [if_pos (by rfl)]
          simp only [putAll, Act.put, List.setIfInBounds_toArray, List.set_cons_zero, List.set_cons_succ] at hK ⊢
          go_simp
          refine hK _ X ?_
          exact HJ.out.step (i := 21) (by simp) (by omega) (by omega) _ (fun u hu => by simpa using hu)
        · rw [if_pos (by rfl)]
          simp only [putAll, Act.put, List.setIfInBounds_toArray, List.set_cons_zero, List.set_cons_succ] at hK ⊢
          have q21 : y21 = .slice (some ⟨g, 0, none⟩) 11 cx := HJ.out.1 21 _ (hp 21 (by simp)) rfl
          subst q21
          go_simp
          refine hK _ X ?_
          exact HJ.out.step (i := 22) (by simp) (by omega) (by omega) _ (fun u hu => by simpa using hu)
        · rw [if_pos (by rfl)]
          simp only [putAll, Act.put, List.setIfInBounds_toArray, List.set_cons_zero, List.set_cons_succ] at hK ⊢
          have q22 : y22 = .pointer (some ⟨g, 7, none⟩) := HJ.out.1 22 _ (hp 22 (by simp)) rfl
          subst q22
          have hcl := HCL.out X HJ.out.2.1 7 (by omega)
          simp only [List.getD_cons_zero, List.getD_cons_succ] at hcl
          go_simp
          refine hK _ X ?_
          exact HJ.out.step (i := 23) (by simp) (by omega) (by omega) _ (fun u hu => by simpa using hu)
        · rw [if_pos (by rfl)]
          simp only [putAll, Act.put, List.setIfInBounds_toArray, List.set_cons_zero, List.set_cons_succ] at hK ⊢
          go_simp
          refine hK _ X ?_
          exact HJ.out.step (i := 24) (by simp) (by omega) (by omega) _ (fun u hu => by simpa using hu)
        · rw [if_pos (by rfl)]
          simp only [putAll, Act.put, List.setIfInBounds_toArray, List.set_cons_zero, List.set_cons_succ] at hK ⊢
          have q24 : y24 = .slice (some ⟨g, 0, none⟩) 11 cx := HJ.out.1 24 _ (hp 24 (by simp)) rfl
          subst q24
          go_simp
          refine hK _ X ?_
          exact HJ.out.step (i := 25) (by simp) (by omega) (by omega) _ (fun u hu => by simpa using hu)
        · rw [if_pos (by rfl)]
          simp only [putAll, Act.put, List.setIfInBounds_toArray, List.set_cons_zero, List.set_cons_succ] at hK ⊢
          have q25 : y25 = .pointer (some ⟨g, 8, none⟩) := HJ.out.1 25 _ (hp 25 (by simp)) rfl
          subst q25
          have hcl := HCL.out X HJ.out.2.1 8 (by omega)
          simp only [List.getD_cons_zero, List.getD_cons_succ] at hcl
          go_simp
          refine hK _ X ?_
          exact HJ.out.step (i := 26) (by simp) (by omega) (by omega) _ (fun u hu => by simpa using hu)
        · rw [if_pos (by rfl)]
          simp only [putAll, Act.put, List.setIfInBounds_toArray, List.set_cons_zero, List.set_cons_succ] at hK ⊢
          go_simp
          refine hK _ X ?_
          exact HJ.out.step (i := 27) (by simp) (by omega) (by omega) _ (fun u hu => by simpa using hu)
        · rw [if_pos (by rfl)]
          simp only [putAll, Act.put, List.setIfInBounds_toArray, List.set_cons_zero, List.set_cons_succ] at hK ⊢
          have q27 : y27 = .slice (some ⟨g, 0, none⟩) 11 cx := HJ.out.1 27 _ (hp 27 (by simp)) rfl
          subst q27
          go_simp
          refine hK _ X ?_
          exact HJ.out.step (i := 28) (by simp) (by omega) (by omega) _ (fun u hu => by simpa using hu)
        · rw [if_pos (by rfl)]
          simp only [putAll, Act.put, List.setIfInBounds_toArray, List.set_cons_zero, List.set_cons_succ] at hK ⊢
          have q28 : y28 = .pointer (some ⟨g, 9, none⟩) := HJ.out.1 28 _ (hp 28 (by simp)) rfl
          subst q28
          have hcl := HCL.out X HJ.out.2.1 9 (by omega)
          simp only [List.getD_cons_zero, List.getD_cons_succ] at hcl
          go_simp
          refine hK _ X ?_
          exact HJ.out.step (i := 29) (by simp) (by omega) (by omega) _ (fun u hu => by simpa using hu)
        · rw [if_pos (by rfl)]
          simp only [putAll, Act.put, List.setIfInBounds_toArray, List.set_cons_zero, List.set_cons_succ] at hK ⊢
          go_simp
          refine hK _ X ?_
          exact HJ.out.step (i := 30) (by simp) (by omega) (by omega) _ (fun u hu => by simpa using hu)
        · rw [if_pos (by rfl)]
          simp only [putAll, Act.put, List.setIfInBounds_toArray, List.set_cons_zero, List.set_cons_succ] at hK ⊢
          have q30 : y30 = .slice (some ⟨g, 0, none⟩) 11 cx := HJ.out.1 30 _ (hp 30 (by simp)) rfl
          subst q30
          go_simp
          refine hK _ X ?_
          exact HJ.out.step (i := 31) (by simp) (by omega) (by omega) _ (fun u hu => by simpa using hu)
        · rw [if_pos (by rfl)]
          simp only [putAll, Act.put, List.setIfInBounds_toArray, List.set_cons_zero, List.set_cons_succ] at hK ⊢
          have q31 : y31 = .pointer (some ⟨g, 10, none⟩) := HJ.out.1 31 _ (hp 31 (by simp)) rfl
          subst q31
          have hcl := HCL.out X HJ.out.2.1 10 (by omega)
          simp only [List.getD_cons_zero, List.getD_cons_succ] at hcl
          go_simp
          refine hK _ X ?_
          exact HJ.out.step (i := 32) (by simp) (by omega) (by omega) _ (fun u hu => by simpa using hu)
        · rw [if_pos (by rfl)]
          simp only [putAll, Act.put, List.setIfInBounds_toArray, List.set_cons_zero, List.set_cons_succ] at hK ⊢
          have q2 : y2 = .int .i64 c0 := HJ.out.1 2 _ (hp 2 (by simp)) rfl
          subst q2
          have q5 : y5 = .int .i64 c1 := HJ.out.1 5 _ (hp 5 (by simp)) rfl
          subst q5
          have q8 : y8 = .int .i64 c2 := HJ.out.1 8 _ (hp 8 (by simp)) rfl
          subst q8
          have q11 : y11 = .int .i64 c3 := HJ.out.1 11 _ (hp 11 (by simp)) rfl
          subst q11
          have q14 : y14 = .int .i64 c4 := HJ.out.1 14 _ (hp 14 (by simp)) rfl
          subst q14
          have q17 : y17 = .int .i64 c5 := HJ.out.1 17 _ (hp 17 (by simp)) rfl
          subst q17
          have q20 : y20 = .int .i64 c6 := HJ.out.1 20 _ (hp 20 (by simp)) rfl
          subst q20
          have q23 : y23 = .int .i64 c7 := HJ.out.1 23 _ (hp 23 (by simp)) rfl
          subst q23
          have q26 : y26 = .int .i64 c8 := HJ.out.1 26 _ (hp 26 (by simp)) rfl
          subst q26
          have q29 : y29 = .int .i64 c9 := HJ.out.1 29 _ (hp 29 (by simp)) rfl
          subst q29
          have q32 : y32 = .int .i64 c10 := HJ.out.1 32 _ (hp 32 (by simp)) rfl
          subst q32
          go_simp
          refine hK _ X ?_
          exact HJ.out.step (i := 33) (by simp) (by omega) (by omega) _ (fun u hu => by simpa using hu)
        · rw [if_pos (by rfl)]
          simp only [putAll, Act.put, List.setIfInBounds_toArray, List.set_cons_zero, List.set_cons_succ] at hK ⊢
          go_simp
          refine hK _ _ ?_
          have hal := (Below.refl X.heap.size X).alloc (Nat.le_refl _) (.cells zC 23)
          have f35 : f 35 = false := by
            cases h : f 35 with
            | false => rfl
            | true => have := HJ.out.2.2.2.1 h; rw [hf] at this; cases this
          refine ⟨HJ.out.1.set (by simp) (fun u hu => by simp at hu), HJ.out.2.1.trans (hal.mono HJ.out.2.2.1), Nat.le_trans HJ.out.2.2.1 hal.size, fun h => by simp [f35] at h, fun _ => ⟨X.heap.size, zC, rfl, HJ.out.2.2.1, rfl, Box.new X _ _, fun h => by simp [f35] at h⟩⟩
        · rw [if_pos (by rfl)]
          simp only [putAll, Act.put, List.setIfInBounds_toArray, List.set_cons_zero, List.set_cons_succ] at hK ⊢
          have q33 : y33 = .agg #[.int .i64 c0, .int .i64 c1, .int .i64 c2, .int .i64 c3, .int .i64 c4, .int .i64 c5, .int .i64 c6, .int .i64 c7, .int .i64 c8, .int .i64 c9, .int .i64 c10] := HJ.out.1 33 _ (hp 33 (by simp)) rfl
          subst q33
          obtain ⟨g8, C, e34, hg8, hC, hbx, -⟩ := HJ.out.2.2.2.2 (hp 34 (by simp))
          have e34 : y34 = .pointer (some ⟨g8, 0, none⟩) := e34
          subst e34
          have hs := run_storeVar_row (P := Try.prog) X g8 23 23 C #[.int .i64 c0, .int .i64 c1, .int .i64 c2, .int .i64 c3, .int .i64 c4, .int .i64 c5, .int .i64 c6, .int .i64 c7, .int .i64 c8, .int .i64 c9, .int .i64 c10] hbx (info_conf.trans rfl) (hC.trans rfl) (by simp [Value.oneCell'])
          simp [go_sem] at hs
          go_simp
          refine hK undef _ ?_
          have hz := setRow_heap X g8 C #[.int .i64 c0, .int .i64 c1, .int .i64 c2, .int .i64 c3, .int .i64 c4, .int .i64 c5, .int .i64 c6, .int .i64 c7, .int .i64 c8, .int .i64 c9, .int .i64 c10] 23 (0, 0) hbx
          refine ⟨HJ.out.1.set (by simp) (fun u hu => by simp at hu), below_setRow HJ.out.2.1 hg8 _, Nat.le_trans HJ.out.2.2.1 (by simp [World.setRow]), fun _ => hp 34 (by simp), fun _ => ⟨g8, _, rfl, hg8, rfl, hz, fun _ => rfl⟩⟩
      · intro vs X hlen hj
        obtain ⟨y0, y1, y2, y3, y4, y5, y6, y7, y8, y9, y10, y11, y12, y13, y14, y15, y16, y17, y18, y19, y20, y21, y22, y23, y24, y25, y26, y27, y28, y29, y30, y31, y32, y33, y34, y35, rfl⟩ := len36 hlen
        obtain ⟨g8, C, e34, hg8, -, hbx, hCV⟩ := hj.2.2.2.2 rfl
        obtain rfl := hCV rfl
        have e34 : y34 = .pointer (some ⟨g8, 0, none⟩) := e34
        subst e34
        have HK := Lib.hid (HJ.out.below hj.2.1)
        have HB8 := Lib.hid hbx
        have hg3 : w.heap.size + 3 ≤ g8 := Nat.le_trans HJ.out.lt hg8
        clear hj hlen hbx hg8 HJ HCL hCV
        simp only [putAll, Act.put, List.setIfInBounds_toArray, List.set_cons_zero, List.set_cons_succ]
        go_upto_region 9 with fail
        have hd := (Below.refl X.heap.size X).drew
        obtain ⟨v0, v1, v2, -, -, -⟩ := (box_drewI HK.out.b0).three
        obtain ⟨x0, x1, x2, x3, x4, x5, x6, x7, x8, x9, x10⟩ := box11 (box_drewI HB8.out)
        have KQ := Lib.hid (KR.out X.drew)
        have HD := Lib.hid hd
        clear hd KR
        go_region_with (first | (go_at_call 91; refine Calls.mono KQ.out ?_; rintro r w5 ⟨rfl, g2⟩; have g3 := HD.out.trans g2; have HK := Lib.hid (HK.out.below g3); have HB8 := Lib.hid (HB8.out.below g3 HB8.out.lt); clear g2 g3; obtain ⟨v0, v1, v2, -, -, -⟩ := HK.out.b0.three) | (go_at_call 98; refine Calls.mono (KFM.out _) ?_; rintro r w6 ⟨rfl, g3⟩; have HK := Lib.hid (HK.out.below g3); have HB8 := Lib.hid (HB8.out.below g3 HB8.out.lt); clear g3; obtain ⟨v0, v1, v2, f0, f1, f2⟩ := HK.out.b0.three))
        all_goals
          have HK7 := Lib.hid (HK.out.set (k1 : Nat) EE)
          have HB7 : Hid (Box (((w6.setCell ⟨w.heap.size, 0, none⟩ (.slice A N c)).setCell ⟨w.heap.size, 1, none⟩ (.int .i64 (k1 : Nat))).setCell ⟨w.heap.size, 2, none⟩ (.int .i64 EE)) g8 #[.int .i64 c0, .int .i64 c1, .int .i64 c2, .int .i64 c3, .int .i64 c4, .int .i64 c5, .int .i64 c6, .int .i64 c7, .int .i64 c8, .int .i64 c9, .int .i64 c10] 23) := (CJ.other w6 (k1 : Nat) EE (by omega)).trans HB8.out
          go_upto_region 10 with fail
          generalize ((w6.setCell ⟨w.heap.size, 0, none⟩ (.slice A N c)).setCell ⟨w.heap.size, 1, none⟩ (.int .i64 (k1 : Nat))).setCell ⟨w.heap.size, 2, none⟩ (.int .i64 EE) = w7 at *
          clear HK HB8 v0 v1 v2 f0 f1 f2 KQ KFM HD
          have hne1 : ¬ g8 = w.heap.size + 1 := by omega
          have hne2 : ¬ w.heap.size + 1 = g8 := by omega
          have hne3 : ¬ g8 = w.heap.size + 1 + 1 := by omega
          by_cases hE : EE = 0
          · subst hE
            have HO : Hid (out = ((k1, 0), [c0, c1, c2, c3, c4, c5, c6, c7, c8, c9, c10])) := HGG.out.trans (by rw [if_pos rfl])
            clear HGG HRL HEE
            obtain ⟨v0, v1, v2, -, -, -⟩ := HK7.out.b0.three
            obtain ⟨d0, d1, d2, -, -, -⟩ := (box_drewI HK7.out.b0).three
            obtain ⟨u0, u1, u2, f0, f1, f2⟩ := (box_drewI HK7.out.b1).three
            obtain ⟨x0, x1, x2, x3, x4, x5, x6, x7, x8, x9, x10⟩ := box11 (box_drewI HB7.out)
            obtain ⟨v0', v1', v2', -, -, -⟩ := HK7.out.b0.three
            obtain ⟨u0', u1', u2', f0', f1', f2'⟩ := HK7.out.b1.three
            obtain ⟨z0, z1, z2, z3, z4, z5, z6, z7, z8, z9, z10⟩ := box11 HB7.out
            have bz : Box (((w7.setCell ⟨w.heap.size + 1, 0, none⟩ (.slice A N c)).setCell ⟨w.heap.size + 1, 1, none⟩ (.int .i64 (k1 : Nat))).setCell ⟨w.heap.size + 1, 2, none⟩ (.int .i64 0)).drew (w.heap.size + 1 + 1) zC 23 := box_drewI ((Wr.set (w.heap.size + 1) 2 _ _).box ((Wr.set (w.heap.size + 1) 1 _ _).box ((Wr.set (w.heap.size + 1) 0 _ _).box HK7.out.b2 (by omega)) (by omega)) (by omega))
            have hs := run_storeVar_row (P := Try.prog) (((w7.setCell ⟨w.heap.size + 1, 0, none⟩ (.slice A N c)).setCell ⟨w.heap.size + 1, 1, none⟩ (.int .i64 (k1 : Nat))).setCell ⟨w.heap.size + 1, 2, none⟩ (.int .i64 0)).drew (w.heap.size + 1 + 1) 23 23 zC #[.int .i64 c0, .int .i64 c1, .int .i64 c2, .int .i64 c3, .int .i64 c4, .int .i64 c5, .int .i64 c6, .int .i64 c7, .int .i64 c8, .int .i64 c9, .int .i64 c10] bz (info_conf.trans rfl) rfl (by simp [Value.oneCell'])
            simp [go_sem] at hs
            have HF2 := Lib.hid (setRow_heap _ (w.heap.size + 1 + 1) zC #[.int .i64 c0, .int .i64 c1, .int .i64 c2, .int .i64 c3, .int .i64 c4, .int .i64 c5, .int .i64 c6, .int .i64 c7, .int .i64 c8, .int .i64 c9, .int .i64 c10] 23 (0, 0) bz)
            have HF1 : Hid (Box ((((w7.setCell ⟨w.heap.size + 1, 0, none⟩ (.slice A N c)).setCell ⟨w.heap.size + 1, 1, none⟩ (.int .i64 (k1 : Nat))).setCell ⟨w.heap.size + 1, 2, none⟩ (.int .i64 0)).drew.setRow (w.heap.size + 1 + 1) #[.int .i64 c0, .int .i64 c1, .int .i64 c2, .int .i64 c3, .int .i64 c4, .int .i64 c5, .int .i64 c6, .int .i64 c7, .int .i64 c8, .int .i64 c9, .int .i64 c10]) (w.heap.size + 1) #[.slice A N c, .int .i64 (k1 : Nat), .int .i64 0] 34) := (setRow_other _ _ _ _ (by omega)).trans (box_drewI (((HK7.out.b1.set 0 _).set 1 _).set 2 _))
            have HBF := Lib.hid (below_setRow (g := w.heap.size + 1 + 1) (((HK7.out.bel.setCell (p := ⟨w.heap.size + 1, 0, none⟩) (by show w.heap.size ≤ w.heap.size + 1; omega) (.slice A N c)).setCell (p := ⟨w.heap.size + 1, 1, none⟩) (by show w.heap.size ≤ w.heap.size + 1; omega) (.int .i64 (k1 : Nat))).setCell (p := ⟨w.heap.size + 1, 2, none⟩) (by show w.heap.size ≤ w.heap.size + 1; omega) (.int .i64 0)).drew (by omega) #[.int .i64 c0, .int .i64 c1, .int .i64 c2, .int .i64 c3, .int .i64 c4, .int .i64 c5, .int .i64 c6, .int .i64 c7, .int .i64 c8, .int .i64 c9, .int .i64 c10])
            clear bz
            go_wp2
            go_region
            go_wp2
            generalize (((w7.setCell ⟨w.heap.size + 1, 0, none⟩ (.slice A N c)).setCell ⟨w.heap.size + 1, 1, none⟩ (.int .i64 (k1 : Nat))).setCell ⟨w.heap.size + 1, 2, none⟩ (.int .i64 0)).drew.setRow (w.heap.size + 1 + 1) #[.int .i64 c0, .int .i64 c1, .int .i64 c2, .int .i64 c3, .int .i64 c4, .int .i64 c5, .int .i64 c6, .int .i64 c7, .int .i64 c8, .int .i64 c9, .int .i64 c10] = wf at *
            have s0 := HF1.out.cell 0
            have s1 := HF1.out.cell 1
            have s2 := HF1.out.cell 2
            have t0 := Box.cell (t := 23) HF2.out 0
            have t1 := Box.cell (t := 23) HF2.out 1
            have t2 := Box.cell (t := 23) HF2.out 2
            have t3 := Box.cell (t := 23) HF2.out 3
            have t4 := Box.cell (t := 23) HF2.out 4
            have t5 := Box.cell (t := 23) HF2.out 5
            have t6 := Box.cell (t := 23) HF2.out 6
            have t7 := Box.cell (t := 23) HF2.out 7
            have t8 := Box.cell (t := 23) HF2.out 8
            have t9 := Box.cell (t := 23) HF2.out 9
            have t10 := Box.cell (t := 23) HF2.out 10
            refine bodyPost_ret (v := .tuple #[.agg #[.slice A N c, .int .i64 (k1 : Nat), .int .i64 0], .agg #[.int .i64 c0, .int .i64 c1, .int .i64 c2, .int .i64 c3, .int .i64 c4, .int .i64 c5, .int .i64 c6, .int .i64 c7, .int .i64 c8, .int .i64 c9, .int .i64 c10]]) (by simp [results, Try.results21, go_sem, s0, s1, s2, t0, t1, t2, t3, t4, t5, t6, t7, t8, t9, t10]) rfl ⟨?_, HBF.out⟩
            rw [HO.out]
            rfl
          · have HO : Hid (out = ((k1, EE), List.replicate 11 0)) := HGG.out.trans (by rw [if_neg hE])
            have g2 : (EE != 0) = true := by simpa using hE
            clear HGG HRL HEE hE HB7
            obtain ⟨v0, v1, v2, -, -, -⟩ := HK7.out.b0.three
            obtain ⟨u0, u1, u2, f0, f1, f2⟩ := HK7.out.b1.three
            have bz : Box (((w7.setCell ⟨w.heap.size + 1, 0, none⟩ (.slice A N c)).setCell ⟨w.heap.size + 1, 1, none⟩ (.int .i64 (k1 : Nat))).setCell ⟨w.heap.size + 1, 2, none⟩ (.int .i64 EE)) (w.heap.size + 1 + 1) zC 23 := ((Wr.set (w.heap.size + 1) 2 _ _).box ((Wr.set (w.heap.size + 1) 1 _ _).box ((Wr.set (w.heap.size + 1) 0 _ _).box HK7.out.b2 (by omega)) (by omega)) (by omega))
            have hs := run_storeVar_row (P := Try.prog) (((w7.setCell ⟨w.heap.size + 1, 0, none⟩ (.slice A N c)).setCell ⟨w.heap.size + 1, 1, none⟩ (.int .i64 (k1 : Nat))).setCell ⟨w.heap.size + 1, 2, none⟩ (.int .i64 EE)) (w.heap.size + 1 + 1) 23 23 zC #[.int .i64 0, .int .i64 0, .int .i64 0, .int .i64 0, .int .i64 0, .int .i64 0, .int .i64 0, .int .i64 0, .int .i64 0, .int .i64 0, .int .i64 0] bz (info_conf.trans rfl) rfl (by simp [Value.oneCell'])
            simp [go_sem] at hs
            have HF2 := Lib.hid (setRow_heap _ (w.heap.size + 1 + 1) zC #[.int .i64 0, .int .i64 0, .int .i64 0, .int .i64 0, .int .i64 0, .int .i64 0, .int .i64 0, .int .i64 0, .int .i64 0, .int .i64 0, .int .i64 0] 23 (0, 0) bz)
            have HF1 : Hid (Box ((((w7.setCell ⟨w.heap.size + 1, 0, none⟩ (.slice A N c)).setCell ⟨w.heap.size + 1, 1, none⟩ (.int .i64 (k1 : Nat))).setCell ⟨w.heap.size + 1, 2, none⟩ (.int .i64 EE)).setRow (w.heap.size + 1 + 1) #[.int .i64 0, .int .i64 0, .int .i64 0, .int .i64 0, .int .i64 0, .int .i64 0, .int .i64 0, .int .i64 0, .int .i64 0, .int .i64 0, .int .i64 0]) (w.heap.size + 1) #[.slice A N c, .int .i64 (k1 : Nat), .int .i64 EE] 34) := (setRow_other _ _ _ _ (by omega)).trans (((HK7.out.b1.set 0 _).set 1 _).set 2 _)
            have HBF := Lib.hid (below_setRow (g := w.heap.size + 1 + 1) (((HK7.out.bel.setCell (p := ⟨w.heap.size + 1, 0, none⟩) (by show w.heap.size ≤ w.heap.size + 1; omega) (.slice A N c)).setCell (p := ⟨w.heap.size + 1, 1, none⟩) (by show w.heap.size ≤ w.heap.size + 1; omega) (.int .i64 (k1 : Nat))).setCell (p := ⟨w.heap.size + 1, 2, none⟩) (by show w.heap.size ≤ w.heap.size + 1; omega) (.int .i64 EE)) (by omega) #[.int .i64 0, .int .i64 0, .int .i64 0, .int .i64 0, .int .i64 0, .int .i64 0, .int .i64 0, .int .i64 0, .int .i64 0, .int .i64 0, .int .i64 0])
            clear bz
            go_wp2
            generalize (((w7.setCell ⟨w.heap.size + 1, 0, none⟩ (.slice A N c)).setCell ⟨w.heap.size + 1, 1, none⟩ (.int .i64 (k1 : Nat))).setCell ⟨w.heap.size + 1, 2, none⟩ (.int .i64 EE)).setRow (w.heap.size + 1 + 1) #[.int .i64 0, .int .i64 0, .int .i64 0, .int .i64 0, .int .i64 0, .int .i64 0, .int .i64 0, .int .i64 0, .int .i64 0, .int .i64 0, .int .i64 0] = wf at *
            have s0 := HF1.out.cell 0
            have s1 := HF1.out.cell 1
            have s2 := HF1.out.cell 2
            have t0 := Box.cell (t := 23) HF2.out 0
            have t1 := Box.cell (t := 23) HF2.out 1
            have t2 := Box.cell (t := 23) HF2.out 2
            have t3 := Box.cell (t := 23) HF2.out 3
            have t4 := Box.cell (t := 23) HF2.out 4
            have t5 := Box.cell (t := 23) HF2.out 5
            have t6 := Box.cell (t := 23) HF2.out 6
            have t7 := Box.cell (t := 23) HF2.out 7
            have t8 := Box.cell (t := 23) HF2.out 8
            have t9 := Box.cell (t := 23) HF2.out 9
            have t10 := Box.cell (t := 23) HF2.out 10
            refine bodyPost_ret (v := .tuple #[.agg #[.slice A N c, .int .i64 (k1 : Nat), .int .i64 EE], .agg #[.int .i64 0, .int .i64 0, .int .i64 0, .int .i64 0, .int .i64 0, .int .i64 0, .int .i64 0, .int .i64 0, .int .i64 0, .int .i64 0, .int .i64 0]]) (by simp [results, Try.results21, go_sem, s0, s1, s2, t0, t1, t2, t3, t4, t5, t6, t7, t8, t9, t10]) rfl ⟨?_, HBF.out⟩
            rw [HO.out]
            rfl
end Go.Proofs.Ytpoemflclbhekaa
