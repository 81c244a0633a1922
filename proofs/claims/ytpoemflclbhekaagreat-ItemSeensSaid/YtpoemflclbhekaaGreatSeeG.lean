/- Layer 22 (item): seen events read, in the reference: GetSeen. -/
import Derived.Test.YtpoemflclbhekaaGreatSeeF
namespace Go.Proofs.YtpoemflclbhekaaGreat
open Go.RowKit
set_option linter.unusedVariables false
set_option linter.unusedSimpArgs false

/-- the memory of the reference's GetSeen -/
structure VJ (w : World) (wr : World) : Prop where
  b1 : Box wr (w.heap.size + 1) #[.slice none 0 0, .int .i64 0, .int .i64 0] 34
  b2 : Box wr (w.heap.size + 2) #[.int .i64 0, .slice none 0 0, .int .i64 0, .int .i64 0, .bool false] 41
  bel : Below w.heap.size w wr
theorem VJ.below {w : World} {wr wy : World} (h : VJ w wr) (hb : Below wr.heap.size wr wy) : VJ w wy :=
  ⟨h.b1.below hb h.b1.lt, h.b2.below hb h.b2.lt, h.bel.trans (hb.mono h.bel.size)⟩
theorem VJ.up {w : World} {wr wy : World} {B : Nat} (h : VJ w wr) (hb : Below B wr wy) (hB : w.heap.size + 3 ≤ B) : VJ w wy :=
  ⟨h.b1.below hb (by omega), h.b2.below hb (by omega), h.bel.trans (hb.mono (by omega))⟩
theorem VJ.lt {w wr : World} (h : VJ w wr) : w.heap.size + 3 ≤ wr.heap.size := by have := h.b2.lt; omega
theorem VJ.off {w wr : World} (h : VJ w wr) {G : Nat} (hG : w.heap.size + 3 ≤ G) (i : Nat) (u : Value) : VJ w (wr.setCell ⟨G, i, none⟩ u) :=
  ⟨h.b1.off (p := ⟨G, i, none⟩) (by show G ≠ _; omega) u, h.b2.off (p := ⟨G, i, none⟩) (by show G ≠ _; omega) u, h.bel.setCell (by show _ ≤ G; omega) u⟩
theorem ownI_off {wr : World} {B G : Nat} {v : Value} {l : List Int} (h : wr.ownsRow B 3 1 v l.length (litI l)) (hG : G < B) (i : Nat) (u : Value) : (wr.setCell ⟨G, i, none⟩ u).ownsRow B 3 1 v l.length (litI l) :=
  ownI_keep h (Nat.le_refl _) (fun j h1 h2 => Below.heap_setCell _ _ _ _ (by show j ≠ G; omega))
theorem ownI_set {wr : World} {B G gO n c : Nat} {l : List Int} (h : wr.ownsRow B 3 1 (.slice (some ⟨gO, 0, none⟩) n c) l.length (litI l)) (hn : n = n) (hG : G ≠ gO) (i : Nat) (u : Value) : (wr.setCell ⟨G, i, none⟩ u).ownsRow B 3 1 (.slice (some ⟨gO, 0, none⟩) n c) l.length (litI l) := by
  refine ⟨h.1, ?_⟩
  rcases h.2 with ⟨e, _⟩ | ⟨g, cap, cur, e, hb, hh, hr⟩
  · cases e
  · refine .inr ⟨g, cap, cur, e, hb, ?_, hr⟩
    simp only [Value.slice.injEq, Option.some.injEq, Addr.mk.injEq] at e
    exact (Below.heap_setCell _ _ _ _ (by show g ≠ G; omega)).trans hh
def GivesRE (A : Option Addr) (N c : Nat) (out : (Nat × Int) × (Int × List Int × Int × Int × Bool)) (w : World) (r : Ending) (w' : World) : Prop :=
  (∃ A2 c2, r = .returned (.tuple #[.agg #[.slice A N c, .int .i64 (out.1.1 : Nat), .int .i64 out.1.2], .agg #[.int .i64 out.2.1, .slice A2 out.2.2.1.length c2, .int .i64 out.2.2.2.1, .int .i64 out.2.2.2.2.1, .bool out.2.2.2.2.2]]) ∧ Lies w' w'.heap.size A2 out.2.2.1) ∧ Below w.heap.size w w'
theorem rdE_bd {b : List Int} (hb : byt b) {s : Nat × Int} (hs : s.1 ≤ b.length) : ∀ n, (rdE b n s).1.1 ≤ b.length
  | 0 => hs
  | n + 1 => rU_at hb (rdE_bd hb hs n)
set_option maxRecDepth 2000000 in
set_option maxHeartbeats 16000000 in
theorem ref_GetSeen_ok (b : List Int) (A : Option Addr) (c k : Nat) (e : Int) (D : Nat) (hD : 1 ≤ D ∧ D ≤ 8) (w : World) (hA : LiesY w w.heap.size A b) (hb : byt b) (hl : b.length ≤ 1000000) (hk : k ≤ b.length) : Calls Tryz.prog 18 #[.agg #[.slice A b.length c, .int .i64 (k : Nat), .int .i64 e], .int .i64 (D : Nat)] w (GivesRE A b.length c (gE1 b (k, e) (D : Nat)) w) := by
  have i1 : I64 1 := by unfold I64; omega
  have i2 : I64 1099511627776 := by unfold I64; omega
  have hb1 := (Below.refl w.heap.size w).alloc (Nat.le_refl _) (.cells #[.slice A b.length c, .int .i64 (k : Nat), .int .i64 e] 34)
  have hb2 := hb1.alloc hb1.size (.cells #[.slice none 0 0, .int .i64 0, .int .i64 0] 34)
  have hb3 := hb2.alloc hb2.size (.cells #[.int .i64 0, .slice none 0 0, .int .i64 0, .int .i64 0, .bool false] 41)
  have hx0 := ((Box.new w #[.slice A b.length c, .int .i64 (k : Nat), .int .i64 e] 34).alloc (.cells #[.slice none 0 0, .int .i64 0, .int .i64 0] 34)).alloc (.cells #[.int .i64 0, .slice none 0 0, .int .i64 0, .int .i64 0, .bool false] 41)
  have hx1 := (Box.new (w.alloc (.cells #[.slice A b.length c, .int .i64 (k : Nat), .int .i64 e] 34)) #[.slice none 0 0, .int .i64 0, .int .i64 0] 34).alloc (.cells #[.int .i64 0, .slice none 0 0, .int .i64 0, .int .i64 0, .bool false] 41)
  have hx2 := Box.new ((w.alloc (.cells #[.slice A b.length c, .int .i64 (k : Nat), .int .i64 e] 34)).alloc (.cells #[.slice none 0 0, .int .i64 0, .int .i64 0] 34)) #[.int .i64 0, .slice none 0 0, .int .i64 0, .int .i64 0, .bool false] 41
  rw [alloc_size'] at hx1
  rw [alloc_size', alloc_size'] at hx2
  have HV : Hid (VJ w (((w.alloc (.cells #[.slice A b.length c, .int .i64 (k : Nat), .int .i64 e] 34)).alloc (.cells #[.slice none 0 0, .int .i64 0, .int .i64 0] 34)).alloc (.cells #[.int .i64 0, .slice none 0 0, .int .i64 0, .int .i64 0, .bool false] 41))) := ⟨hx1, hx2, hb3⟩
  have KRN : Hid (∀ most, I64 most → ∀ (W : World) (s : Nat × Int), Below w.heap.size w W → s.1 ≤ b.length → Calls Tryz.prog 35 #[.agg #[.slice A b.length c, .int .i64 (s.1 : Nat), .int .i64 s.2], .int .i64 most] W fun r w' => r = .returned (.tuple #[.agg #[.slice A b.length c, .int .i64 ((rN b s.1 s.2 most).1.1 : Nat), .int .i64 (rN b s.1 s.2 most).1.2], .int .i64 ((rN b s.1 s.2 most).2 : Nat)]) ∧ Below W.heap.size W w') := fun most hm W s h hs => ref_ReadN21 b A c s.1 s.2 most hm W ((hA.below h).mono h.size) hb hl hs
  have KRI : Hid (∀ (W : World) (s : Nat × Int), Below w.heap.size w W → s.1 ≤ b.length → Calls Tryz.prog 48 #[.agg #[.slice A b.length c, .int .i64 (s.1 : Nat), .int .i64 s.2]] W fun r w' => r = .returned (.tuple #[.agg #[.slice A b.length c, .int .i64 ((rU b s.1 s.2).1.1 : Nat), .int .i64 (rU b s.1 s.2).1.2], .int .i64 (unfoldI (rU b s.1 s.2).2)]) ∧ Below W.heap.size W w') := fun W s h hs => ref_ReadI21 b A c s.1 s.2 W ((hA.below h).mono h.size) hb hl hs
  have KGS : Hid (∀ (W : World) (s : Nat × Int), Below w.heap.size w W → s.1 ≤ b.length → Calls Tryz.prog 11 #[.agg #[.slice A b.length c, .int .i64 (s.1 : Nat), .int .i64 s.2]] W (GivesRS A b.length c (gS b s.1 s.2) W)) := fun W s h hs => ref_GetScore b A c s.1 s.2 W ((hA.below h).mono h.size) hb hl hs
  have hk1 := rN_at hb hk e 1099511627776
  have HKB : Hid (∀ n, (rdE b n (rN b k e 1099511627776).1).1.1 ≤ b.length) := fun n => rdE_bd hb hk1 n
  have HKN : Hid (∀ s : Nat × Int, s.1 ≤ b.length → (rN b s.1 s.2 1).1.1 ≤ b.length) := fun s h => rN_at hb h s.2 1
  have HGE : Hid (gE1 b (k, e) (D : Nat) = finE ((rN b k e 1099511627776).2 : Nat) (rdE b D (rN b k e 1099511627776).1).2 (decide ((rN b (rdE b D (rN b k e 1099511627776).1).1.1 (rdE b D (rN b k e 1099511627776).1).1.2 1).2 = 1)) (D : Nat) (gM b (rN b (rdE b D (rN b k e 1099511627776).1).1.1 (rdE b D (rN b k e 1099511627776).1).1.2 1))) := by
    show _ = _
    unfold gE1
    rw [Int.toNat_natCast]
  have K1 := Lib.hid (KRN.out _ i2 _ (k, e) hb3 hk)
  clear hb1 hb2 hb3 hx1 hx2 hA hb
  have HX0 := Lib.hid hx0
  obtain ⟨x0, x1, x2, -, -, -⟩ := hx0.three
  clear hx0
  generalize gE1 b (k, e) (D : Nat) = out at *
  obtain ⟨rn, hrn⟩ : ∃ rn, rn = rN b k e 1099511627776 := ⟨_, rfl⟩
  have K1 : Hid (Calls Tryz.prog 35 #[.agg #[.slice A b.length c, .int .i64 (k : Nat), .int .i64 e], .int .i64 1099511627776] (((w.alloc (.cells #[.slice A b.length c, .int .i64 (k : Nat), .int .i64 e] 34)).alloc (.cells #[.slice none 0 0, .int .i64 0, .int .i64 0] 34)).alloc (.cells #[.int .i64 0, .slice none 0 0, .int .i64 0, .int .i64 0, .bool false] 41)) fun r w' => r = .returned (.tuple #[.agg #[.slice A b.length c, .int .i64 (rn.1.1 : Nat), .int .i64 rn.1.2], .int .i64 (rn.2 : Nat)]) ∧ Below (((w.alloc (.cells #[.slice A b.length c, .int .i64 (k : Nat), .int .i64 e] 34)).alloc (.cells #[.slice none 0 0, .int .i64 0, .int .i64 0] 34)).alloc (.cells #[.int .i64 0, .slice none 0 0, .int .i64 0, .int .i64 0, .bool false] 41)).heap.size (((w.alloc (.cells #[.slice A b.length c, .int .i64 (k : Nat), .int .i64 e] 34)).alloc (.cells #[.slice none 0 0, .int .i64 0, .int .i64 0] 34)).alloc (.cells #[.int .i64 0, .slice none 0 0, .int .i64 0, .int .i64 0, .bool false] 41)) w') := by rw [hrn]; exact K1.out
  rw [← hrn] at HGE HKB
  clear hrn hk1
  obtain ⟨⟨k1, e1⟩, a⟩ := rn
  simp only at HGE K1 HKB
  have HES : Hid (∀ i, rdE b (i + 1) (k1, e1) = ((rU b (rdE b i (k1, e1)).1.1 (rdE b i (k1, e1)).1.2).1, (rdE b i (k1, e1)).2 ++ [unfoldI (rU b (rdE b i (k1, e1)).1.1 (rdE b i (k1, e1)).1.2).2])) := fun i => rfl
  have HEL := Lib.hid (rdE_len b (k1, e1))
  generalize hN : b.length = N at *
  clear hN
  go_enter Tryz.func18, Tryz.ntmps18
  go_wp2_with fail
  refine (K1.out).mono ?_
  rintro r w1 ⟨rfl, h1⟩
  have hal := (Below.refl w1.heap.size w1).alloc (Nat.le_refl _) (.cells #[.slice A N c, .int .i64 (k1 : Nat), .int .i64 e1] 34)
  have hal2 := hal.alloc hal.size (.cells #[.int .i64 (a : Nat), .slice none 0 0, .int .i64 0, .int .i64 0, .bool false] 41)
  have hg3 : w.heap.size + 3 ≤ w1.heap.size := (HV.out.below h1).lt
  have HV0 := Lib.hid ((HV.out.below h1).below hal2)
  have H60 := Lib.hid ((Box.new w1 #[.slice A N c, .int .i64 (k1 : Nat), .int .i64 e1] 34).alloc (.cells #[.int .i64 (a : Nat), .slice none 0 0, .int .i64 0, .int .i64 0, .bool false] 41))
  have h8 := Box.new (w1.alloc (.cells #[.slice A N c, .int .i64 (k1 : Nat), .int .i64 e1] 34)) #[.int .i64 (a : Nat), .slice none 0 0, .int .i64 0, .int .i64 0, .bool false] 41
  rw [alloc_size'] at h8
  have H80 := Lib.hid h8
  clear h1 hal hal2 h8 K1 x0 x1 x2 HX0 HV
  go_wp2
  generalize (w1.alloc (.cells #[.slice A N c, .int .i64 (k1 : Nat), .int .i64 e1] 34)).alloc (.cells #[.int .i64 (a : Nat), .slice none 0 0, .int .i64 0, .int .i64 0, .bool false] 41) = w2 at *
  generalize hg8 : w1.heap.size + 1 = g8 at *
  have hne0 : g8 ≠ w1.heap.size := by omega
  have hg48 : w1.heap.size < g8 := by omega
  clear hg8
  generalize w1.heap.size = g6 at *
  go_loopw [9] (fun iv wr => ∃ (i : Nat) (A7 : Option Addr) (c7 : Nat), i ≤ D ∧ iv = .int .i64 (i : Nat) ∧ Hid (wr.ownsRow (g8 + 1) 3 1 (.slice A7 i c7) (rdE b i (k1, e1)).2.length (litI (rdE b i (k1, e1)).2)) ∧ Hid (VJ w wr) ∧ Hid (Box wr g6 #[.slice A N c, .int .i64 ((rdE b i (k1, e1)).1.1 : Nat), .int .i64 (rdE b i (k1, e1)).1.2] 34) ∧ Hid (Box wr g8 #[.int .i64 (a : Nat), .slice A7 i c7, .int .i64 0, .int .i64 0, .bool false] 41)) (fun iv _ => D - (intOf iv).toNat)
  case atStart => exact ⟨0, none, 0, Nat.zero_le _, rfl, World.ownsRow_nil _ _ _ _, HV0.out, H60.out, H80.out⟩
  case round =>
    clear HV0 H60 H80
    obtain ⟨i, A7, c7, hi, rfl, HO, HV, H6, H8⟩ := hrel
    have hkn := HKB.out i
    by_cases hlt : i < D
    · have hig : (i : Int) < (D : Int) := by omega
      have HS := HES.out i
      have hlen := HEL.out i
      have K := Lib.hid (KRI.out wr (rdE b i (k1, e1)).1 HV.out.bel hkn)
      clear HGE HES KRI KRN KGS HKN HKB hkn HEL
      generalize rdE b i (k1, e1) = ri at *
      obtain ⟨⟨k2, e2⟩, l⟩ := ri
      simp only at HS hlen H6 HO K
      generalize rU b k2 e2 = u at *
      obtain ⟨⟨k4, e4⟩, m⟩ := u
      simp only at HS K
      generalize unfoldI m = x at *
      have HS := Lib.hid HS
      have HLN := Lib.hid hlen
      obtain ⟨v0, v1, v2, -, -, -⟩ := H6.out.three
      clear hlen
      go_wp2_with fail
      refine (K.out).mono ?_
      rintro r w3 ⟨rfl, h1⟩
      have hal := (Below.refl w3.heap.size w3).alloc (Nat.le_refl _) (.cells #[.slice A N c, .int .i64 (k4 : Nat), .int .i64 e4] 34)
      have h1a := h1.alloc h1.size (.cells #[.slice A N c, .int .i64 (k4 : Nat), .int .i64 e4] 34)
      have HV3 := Lib.hid (HV.out.below h1a)
      have H63 := Lib.hid (H6.out.below h1a H6.out.lt)
      have H83 := Lib.hid (H8.out.below h1a H8.out.lt)
      have HO3 := Lib.hid (ownI_below HO.out h1a)
      have HY := Lib.hid (Box.new w3 #[.slice A N c, .int .i64 (k4 : Nat), .int .i64 e4] 34)
      have h6l := Nat.lt_of_lt_of_le H6.out.lt h1.size
      clear h1 hal h1a K v0 v1 v2 HV H6 H8 HO
      go_upto_region 9 with fail
      generalize w3.alloc (.cells #[.slice A N c, .int .i64 (k4 : Nat), .int .i64 e4] 34) = w4 at *
      generalize w3.heap.size = gA at *
      obtain ⟨x0, x1, x2, -, -, -⟩ := HY.out.three
      obtain ⟨v0, v1, v2, f0, f1, f2⟩ := H63.out.three
      have hn1 : ¬ gA = g6 := by omega
      have hn2 : ¬ g6 = gA := by omega
      have HV4 := Lib.hid (((HV3.out.off hg3 0 (.slice A N c)).off hg3 1 (.int .i64 (k4 : Nat))).off hg3 2 (.int .i64 e4))
      have H64 := Lib.hid (((H63.out.set 0 (.slice A N c)).set 1 (.int .i64 (k4 : Nat))).set 2 (.int .i64 e4))
      have H84 := Lib.hid (((H83.out.off (p := ⟨g6, 0, none⟩) hne0.symm (.slice A N c)).off (p := ⟨g6, 1, none⟩) hne0.symm (.int .i64 (k4 : Nat))).off (p := ⟨g6, 2, none⟩) hne0.symm (.int .i64 e4))
      have HO4 := Lib.hid (ownI_off (G := g6) (ownI_off (G := g6) (ownI_off (G := g6) HO3.out (by omega) 0 (.slice A N c)) (by omega) 1 (.int .i64 (k4 : Nat))) (by omega) 2 (.int .i64 e4))
      go_upto_region 10 with fail
      generalize ((w4.setCell ⟨g6, 0, none⟩ (.slice A N c)).setCell ⟨g6, 1, none⟩ (.int .i64 (k4 : Nat))).setCell ⟨g6, 2, none⟩ (.int .i64 e4) = w5 at *
      clear x0 x1 x2 v0 v1 v2 f0 f1 f2 hn1 hn2 HV3 H63 H83 HO3 HY h6l
      obtain ⟨s0, s1, s2, s3, s4⟩ := H84.out.five
      have h8l := H84.out.lt
      have HL3 : Hid ((l ++ [x]).length = i + 1) := by show _ = _; rw [List.length_append, HLN.out]; rfl
      go_wp2_with (at_builtin; refine app_int (B := g8 + 1) rfl (.tmp 44) (.tmp 46) rfl _ l x rfl HO4.out rfl h8l (by have := HLN.out; omega) ?_; intro v3 w6 g1 g2 _; obtain ⟨A3, c3, e3, -, -, -⟩ := lies_ownI g1; rw [HL3.out] at e3; subst e3; have HV6 := Lib.hid (HV4.out.up g2 (by omega)); have H66 := Lib.hid (H64.out.below g2 (by omega)); have h86 := H84.out.below g2 (Nat.lt_succ_self _); have H86 := Lib.hid (h86.set 1 (.slice A3 (i + 1) c3)); have HO6 := Lib.hid g1; obtain ⟨t0, t1, t2, t3, t4⟩ := h86.five; obtain ⟨f0, f1, f2, f3, f4⟩ := h86.frees; clear g1 g2 h86)
      refine ⟨⟨i + 1, A3, c3, by omega, by go_num, ?_, HV6.out.off (by omega) 1 _, ?_, H86.out⟩, by simp [intOf]; omega⟩
      · rw [HS.out]; exact ownI_off (G := g8) HO6.out (Nat.lt_succ_self _) 1 _
      · rw [HS.out]; exact H66.out.off (p := ⟨g8, 1, none⟩) hne0 _
    · obtain rfl : i = D := by omega
      have HO0 := Lib.hid HO.out
      have hog : ∃ gO : Nat, (A7 = some ⟨gO, 0, none⟩ ∧ gO < wr.heap.size) := by
        rcases HO.out.2 with ⟨-, h0⟩ | ⟨gO, cap, cur, ev, hbg, hh, -⟩
        · exact absurd h0 (by have := HEL.out i; omega)
        · simp only [Value.slice.injEq] at ev
          refine ⟨gO, ev.1, ?_⟩
          rcases Nat.lt_or_ge gO wr.heap.size with h | h
          · exact h
          · rw [Array.getElem?_eq_none h] at hh; cases hh
      obtain ⟨gO, eA7, hgO⟩ := hog
      subst eA7
      clear HES KRI
      have hlen := HEL.out i
      have K := Lib.hid (KRN.out 1 i1 wr (rdE b i (k1, e1)).1 HV.out.bel hkn)
      have hkn2 := HKN.out _ hkn
      generalize rdE b i (k1, e1) = ri at *
      obtain ⟨⟨k2, e2⟩, XX⟩ := ri
      simp only at HGE hlen H6 HO K hkn2
      have hm1 : (rN b k2 e2 1).2 ≤ 1 := by
        by_cases hz : (rN b k2 e2 1).1.2 = 0
        · have := (rN_bd hz).1; omega
        · rw [(rN_err hz).2]; omega
      obtain ⟨f, hf⟩ : ∃ f, f = rN b k2 e2 1 := ⟨_, rfl⟩
      rw [← hf] at HGE K hm1 hkn2
      clear hf
      obtain ⟨⟨k3, e3⟩, m⟩ := f
      simp only at HGE K hm1 hkn2
      obtain ⟨v0, v1, v2, -, -, -⟩ := H6.out.three
      by_cases hm : m = 1
      · subst hm
        rw [show ((1 : Nat) : Int) = 1 from rfl] at K
        have HGM : Hid (gM b ((k3, e3), 1) = gS b k3 e3) := rfl
        clear hm1
        go_wp2_with fail
        refine (K.out).mono ?_
        rintro r w5 ⟨rfl, h1⟩
        have h1a := h1.alloc h1.size (.cells #[.slice A N c, .int .i64 (k3 : Nat), .int .i64 e3] 34)
        have hg8w : g8 < w5.heap.size := Nat.lt_of_lt_of_le H8.out.lt h1.size
        have HV := Lib.hid (HV.out.below h1a)
        have H8 := Lib.hid (H8.out.below h1a H8.out.lt)
        have HO := Lib.hid (ownI_below HO.out h1a)
        have H12 := Lib.hid (Box.new w5 #[.slice A N c, .int .i64 (k3 : Nat), .int .i64 e3] 34)
        have HO12 : Hid (∀ (W : World), W.ownsRow (g8 + 1) 3 1 (.slice (some ⟨gO, 0, none⟩) i c7) XX.length (litI XX) → ∀ x y z : Value, (((W.setCell ⟨w5.heap.size, 0, none⟩ x).setCell ⟨w5.heap.size, 1, none⟩ y).setCell ⟨w5.heap.size, 2, none⟩ z).ownsRow (g8 + 1) 3 1 (.slice (some ⟨gO, 0, none⟩) i c7) XX.length (litI XX)) := fun W h x y z => by
          have hlt : gO < w5.heap.size := Nat.lt_of_lt_of_le hgO h1.size
          exact ownI_set (ownI_set (ownI_set h rfl (by omega) 0 x) rfl (by omega) 1 y) rfl (by omega) 2 z
        clear h1 h1a H6 K v0 v1 v2
        go_upto_region 13 with fail
        generalize w5.alloc (.cells #[.slice A N c, .int .i64 (k3 : Nat), .int .i64 e3] 34) = w6 at *
        generalize w5.heap.size = g12 at *
        have K := Lib.hid (KGS.out w6 (k3, e3) HV.out.bel hkn2)
        unfold GivesRS at K
        obtain ⟨gs, hgs⟩ : ∃ gs, gs = gS b k3 e3 := ⟨_, rfl⟩
        rw [show gS b (k3, e3).1 (k3, e3).2 = gS b k3 e3 from rfl, ← hgs] at K
        rw [← hgs] at HGM
        clear hgs
        obtain ⟨⟨k4, e4⟩, p, q⟩ := gs
        simp only at K
        obtain ⟨v0, v1, v2, -, -, -⟩ := H12.out.three
        go_wp2_with fail
        refine (K.out).mono ?_
        rintro r w7 ⟨rfl, h1⟩
        have h1a := h1.alloc h1.size (.cells #[.slice A N c, .int .i64 (k4 : Nat), .int .i64 e4] 34)
        have h1b := h1a.alloc h1a.size (.cells #[.int .i64 p, .int .i64 q] 23)
        have HYR := Lib.hid ((Box.new w7 #[.slice A N c, .int .i64 (k4 : Nat), .int .i64 e4] 34).alloc (.cells #[.int .i64 p, .int .i64 q] 23))
        have hys := Box.new (w7.alloc (.cells #[.slice A N c, .int .i64 (k4 : Nat), .int .i64 e4] 34)) #[.int .i64 p, .int .i64 q] 23
        rw [alloc_size'] at hys
        have HYS := Lib.hid hys
        have h12l := Nat.lt_of_lt_of_le H12.out.lt h1.size
        have h8l := Nat.lt_of_lt_of_le H8.out.lt h1.size
        have HV := Lib.hid (HV.out.below h1b)
        have H8 := Lib.hid (H8.out.below h1b H8.out.lt)
        have H12 := Lib.hid (H12.out.below h1b H12.out.lt)
        have HO := Lib.hid (ownI_below HO.out h1b)
        clear h1 h1a h1b hys K v0 v1 v2
        go_upto_region 14 with fail
        generalize (w7.alloc (.cells #[.slice A N c, .int .i64 (k4 : Nat), .int .i64 e4] 34)).alloc (.cells #[.int .i64 p, .int .i64 q] 23) = wc at *
        generalize hg15 : w7.heap.size + 1 = g15 at *
        have hq1 : ¬ w7.heap.size = g12 := by omega
        have hq2 : ¬ g15 = g12 := by omega
        have hq3 : ¬ g12 = g15 := by omega
        have hq4 : ¬ g8 = g15 := by omega
        have hq5 : ¬ g15 = g8 := by omega
        have hq6 : ¬ g12 = w7.heap.size := by omega
        clear hg15
        generalize w7.heap.size = g14 at *
        have hg3' : w.heap.size + 3 ≤ g12 := by omega
        obtain ⟨x0, x1, x2, -, -, -⟩ := HYR.out.three
        obtain ⟨v0, v1, v2, f0, f1, f2⟩ := H12.out.three
        have HV := Lib.hid (((HV.out.off hg3' 0 (.slice A N c)).off hg3' 1 (.int .i64 (k4 : Nat))).off hg3' 2 (.int .i64 e4))
        have H8 := Lib.hid (((H8.out.off (p := ⟨g12, 0, none⟩) (by show g12 ≠ g8; omega) (.slice A N c)).off (p := ⟨g12, 1, none⟩) (by show g12 ≠ g8; omega) (.int .i64 (k4 : Nat))).off (p := ⟨g12, 2, none⟩) (by show g12 ≠ g8; omega) (.int .i64 e4))
        have HYS := Lib.hid (((HYS.out.off (p := ⟨g12, 0, none⟩) (by show g12 ≠ g15; omega) (.slice A N c)).off (p := ⟨g12, 1, none⟩) (by show g12 ≠ g15; omega) (.int .i64 (k4 : Nat))).off (p := ⟨g12, 2, none⟩) (by show g12 ≠ g15; omega) (.int .i64 e4))
        have HO := Lib.hid (HO12.out wc HO.out (.slice A N c) (.int .i64 (k4 : Nat)) (.int .i64 e4))
        have H12 := Lib.hid (((H12.out.set 0 (.slice A N c)).set 1 (.int .i64 (k4 : Nat))).set 2 (.int .i64 e4))
        go_upto_region 15 with fail
        generalize ((wc.setCell ⟨g12, 0, none⟩ (.slice A N c)).setCell ⟨g12, 1, none⟩ (.int .i64 (k4 : Nat))).setCell ⟨g12, 2, none⟩ (.int .i64 e4) = wd at *
        clear x0 x1 x2 v0 v1 v2 f0 f1 f2 HYR
        obtain ⟨x0, x1, -, -⟩ := HYS.out.two
        obtain ⟨s0, s1, s2, s3, s4⟩ := H8.out.five
        obtain ⟨f0, f1, f2, f3, f4⟩ := H8.out.frees
        have hg8' : w.heap.size + 3 ≤ g8 := by omega
        have HV := Lib.hid (((HV.out.off hg8' 2 (.int .i64 p)).off hg8' 3 (.int .i64 q)).off hg8' 4 (.bool true))
        have H12 := Lib.hid (((H12.out.off (p := ⟨g8, 2, none⟩) (by show g8 ≠ g12; omega) (.int .i64 p)).off (p := ⟨g8, 3, none⟩) (by show g8 ≠ g12; omega) (.int .i64 q)).off (p := ⟨g8, 4, none⟩) (by show g8 ≠ g12; omega) (.bool true))
        have HO := Lib.hid (ownI_off (G := g8) (ownI_off (G := g8) (ownI_off (G := g8) HO.out (Nat.lt_succ_self _) 2 (.int .i64 p)) (Nat.lt_succ_self _) 3 (.int .i64 q)) (Nat.lt_succ_self _) 4 (.bool true))
        have H8 := Lib.hid (((H8.out.set 2 (.int .i64 p)).set 3 (.int .i64 q)).set 4 (.bool true))
        go_upto_region 17 with fail
        generalize ((wd.setCell ⟨g8, 2, none⟩ (.int .i64 p)).setCell ⟨g8, 3, none⟩ (.int .i64 q)).setCell ⟨g8, 4, none⟩ (.bool true) = w8 at *
        clear x0 x1 s0 s1 s2 s3 s4 f0 f1 f2 f3 f4 HYS
        obtain ⟨R, hR⟩ : ∃ R, R = rsB (a : Nat) XX p q true (i : Nat) := ⟨_, rfl⟩
        obtain ⟨A8, c8, e8, -, -, hlx⟩ := lies_ownI HO.out
        rw [hlen] at e8
        cases e8
        have HLX := Lib.hid hlx
        have KR : Hid (∀ W, Below w8.heap.size w8 W → Calls Tryz.prog 16 #[.agg #[.int .i64 (a : Nat), .slice (some ⟨gO, 0, none⟩) i c7, .int .i64 p, .int .i64 q, .bool true], .int .i64 (i : Nat)] W fun e w' => e = .returned (.bool R) ∧ Below W.heap.size W w') := fun W h => by
          have h9 := ref_RightSeen (a : Nat) XX (some ⟨gO, 0, none⟩) c7 p q true (i : Nat) W ((HLX.out.below h).mono h.size)
          rw [hlen, ← hR] at h9
          exact h9
        obtain ⟨EE, hEE⟩ : ∃ EE, EE = chkF R e4 := ⟨_, rfl⟩
        have KFM := Lib.hid (fun W => ref_form A N c k4 e4 R W)
        rw [← hEE] at KFM
        have HGE2 : Hid (out = ((k4, EE), if EE = 0 then (((a : Nat) : Int), XX, p, q, true) else (0, [], 0, 0, false))) := by show _ = _; rw [HGE.out, HGM.out, hEE, hR]; rfl
        have HLEN := Lib.hid hlen
        clear HGE HGM hR hEE hlx HLX hlen
        obtain ⟨v0, v1, v2, -, -, -⟩ := (box_drewI H12.out).three
        obtain ⟨s0, s1, s2, s3, s4⟩ := (show Box w8.drew g8 _ _ from H8.out).five
        have HD := Lib.hid ((Below.refl w8.heap.size w8).drew)
        have KQ := Lib.hid (KR.out w8.drew HD.out)
        clear KR
        go_region_with (first | (go_at_call 16; refine Calls.mono KQ.out ?_; rintro r wa ⟨rfl, g2⟩; have g3 := HD.out.trans g2; have HV := Lib.hid (HV.out.below g3); have H8 := Lib.hid (H8.out.below g3 H8.out.lt); have H12 := Lib.hid (H12.out.below g3 H12.out.lt); have HO := Lib.hid (ownI_below HO.out g3); clear g2 g3; obtain ⟨v0, v1, v2, -, -, -⟩ := H12.out.three) | (go_at_call 36; refine Calls.mono (KFM.out _) ?_; rintro r w6 ⟨rfl, g3⟩; have HV := Lib.hid (HV.out.below g3); have H8 := Lib.hid (H8.out.below g3 H8.out.lt); have H12 := Lib.hid (H12.out.below g3 H12.out.lt); have HO := Lib.hid (ownI_below HO.out g3); clear g3; obtain ⟨v0, v1, v2, f0, f1, f2⟩ := H12.out.three))
        all_goals
          have hg3' : w.heap.size + 3 ≤ g12 := by omega
          have HV9 := Lib.hid (((HV.out.off hg3' 0 (.slice A N c)).off hg3' 1 (.int .i64 (k4 : Nat))).off hg3' 2 (.int .i64 EE))
          have H89 := Lib.hid (((H8.out.off (p := ⟨g12, 0, none⟩) (by show g12 ≠ g8; omega) (.slice A N c)).off (p := ⟨g12, 1, none⟩) (by show g12 ≠ g8; omega) (.int .i64 (k4 : Nat))).off (p := ⟨g12, 2, none⟩) (by show g12 ≠ g8; omega) (.int .i64 EE))
          have H129 := Lib.hid (((H12.out.set 0 (.slice A N c)).set 1 (.int .i64 (k4 : Nat))).set 2 (.int .i64 EE))
          have HO9 := Lib.hid ((HO12.out w6 HO.out (.slice A N c) (.int .i64 (k4 : Nat)) (.int .i64 EE)))
          go_upto_region 18 with fail
          generalize ((w6.setCell ⟨g12, 0, none⟩ (.slice A N c)).setCell ⟨g12, 1, none⟩ (.int .i64 (k4 : Nat))).setCell ⟨g12, 2, none⟩ (.int .i64 EE) = w9 at *
          clear HV H8 H12 HO v0 v1 v2 f0 f1 f2 KQ KFM HD
          have hne1 : ¬ g8 = w.heap.size + 1 := by omega
          have hne2 : ¬ w.heap.size + 1 = g8 := by omega
          have hne3 : ¬ g8 = w.heap.size + 1 + 1 := by omega
          have hne4 : ¬ w.heap.size + 1 + 1 = g8 := by omega
          have hne5 : ¬ g12 = w.heap.size + 1 := by omega
          have hne6 : ¬ w.heap.size + 1 = g12 := by omega
          have hne7 : ¬ g12 = w.heap.size + 1 + 1 := by omega
          by_cases hE : EE = 0
          · subst hE
            have HO : Hid (out = ((k4, (0 : Int)), ((a : Nat) : Int), XX, p, q, true)) := HGE2.out.trans (by rw [if_pos rfl])
            clear HGE2
            obtain ⟨v0, v1, v2, -, -, -⟩ := H129.out.three
            obtain ⟨d0, d1, d2, -, -, -⟩ := (box_drewI H129.out).three
            obtain ⟨u0, u1, u2, f0, f1, f2⟩ := (box_drewI HV9.out.b1).three
            obtain ⟨u0', u1', u2', f0', f1', f2'⟩ := HV9.out.b1.three
            obtain ⟨s0, s1, s2, s3, s4⟩ := (show Box w9.drew g8 _ _ from H89.out).five
            obtain ⟨s0', s1', s2', s3', s4'⟩ := H89.out.five
            obtain ⟨q0, q1, q2, q3, q4⟩ := (show Box w9.drew (w.heap.size + 1 + 1) _ _ from HV9.out.b2).five
            obtain ⟨qf0, qf1, qf2, qf3, qf4⟩ := (show Box w9.drew (w.heap.size + 1 + 1) _ _ from HV9.out.b2).frees
            obtain ⟨q0', q1', q2', q3', q4'⟩ := (show Box w9 (w.heap.size + 1 + 1) _ _ from HV9.out.b2).five
            obtain ⟨qf0', qf1', qf2', qf3', qf4'⟩ := (show Box w9 (w.heap.size + 1 + 1) _ _ from HV9.out.b2).frees
            have hf1 : Box (((((((((w9.setCell ⟨w.heap.size + 1, 0, none⟩ (.slice A N c)).setCell ⟨w.heap.size + 1, 1, none⟩ (.int .i64 (k4 : Nat))).setCell ⟨w.heap.size + 1, 2, none⟩ (.int .i64 0)).setCell ⟨w.heap.size + 1 + 1, 0, none⟩ (.int .i64 (a : Nat))).setCell ⟨w.heap.size + 1 + 1, 1, none⟩ (.slice (some ⟨gO, 0, none⟩) i c7)).setCell ⟨w.heap.size + 1 + 1, 2, none⟩ (.int .i64 p)).setCell ⟨w.heap.size + 1 + 1, 3, none⟩ (.int .i64 q)).setCell ⟨w.heap.size + 1 + 1, 4, none⟩ (.bool true)).drew) (w.heap.size + 1) #[.slice A N c, .int .i64 (k4 : Nat), .int .i64 0] 34 := box_drewI (((Wr.set (w.heap.size + 1 + 1) 4 _ (.bool true)).box ((Wr.set (w.heap.size + 1 + 1) 3 _ (.int .i64 q)).box ((Wr.set (w.heap.size + 1 + 1) 2 _ (.int .i64 p)).box ((Wr.set (w.heap.size + 1 + 1) 1 _ (.slice (some ⟨gO, 0, none⟩) i c7)).box ((Wr.set (w.heap.size + 1 + 1) 0 _ (.int .i64 (a : Nat))).box (((HV9.out.b1.set 0 (.slice A N c)).set 1 (.int .i64 (k4 : Nat))).set 2 (.int .i64 0)) (by omega)) (by omega)) (by omega)) (by omega)) (by omega)))
            have hf2 : Box (((((((((w9.setCell ⟨w.heap.size + 1, 0, none⟩ (.slice A N c)).setCell ⟨w.heap.size + 1, 1, none⟩ (.int .i64 (k4 : Nat))).setCell ⟨w.heap.size + 1, 2, none⟩ (.int .i64 0)).setCell ⟨w.heap.size + 1 + 1, 0, none⟩ (.int .i64 (a : Nat))).setCell ⟨w.heap.size + 1 + 1, 1, none⟩ (.slice (some ⟨gO, 0, none⟩) i c7)).setCell ⟨w.heap.size + 1 + 1, 2, none⟩ (.int .i64 p)).setCell ⟨w.heap.size + 1 + 1, 3, none⟩ (.int .i64 q)).setCell ⟨w.heap.size + 1 + 1, 4, none⟩ (.bool true)).drew) (w.heap.size + 1 + 1) #[.int .i64 (a : Nat), .slice (some ⟨gO, 0, none⟩) i c7, .int .i64 p, .int .i64 q, .bool true] 41 := box_drewI ((((((((Wr.set (w.heap.size + 1) 2 _ (.int .i64 0)).box ((Wr.set (w.heap.size + 1) 1 _ (.int .i64 (k4 : Nat))).box ((Wr.set (w.heap.size + 1) 0 _ (.slice A N c)).box HV9.out.b2 (by omega)) (by omega)) (by omega)).set 0 (.int .i64 (a : Nat))).set 1 (.slice (some ⟨gO, 0, none⟩) i c7)).set 2 (.int .i64 p)).set 3 (.int .i64 q)).set 4 (.bool true)))
            have hbf : Below w.heap.size w (((((((((w9.setCell ⟨w.heap.size + 1, 0, none⟩ (.slice A N c)).setCell ⟨w.heap.size + 1, 1, none⟩ (.int .i64 (k4 : Nat))).setCell ⟨w.heap.size + 1, 2, none⟩ (.int .i64 0)).setCell ⟨w.heap.size + 1 + 1, 0, none⟩ (.int .i64 (a : Nat))).setCell ⟨w.heap.size + 1 + 1, 1, none⟩ (.slice (some ⟨gO, 0, none⟩) i c7)).setCell ⟨w.heap.size + 1 + 1, 2, none⟩ (.int .i64 p)).setCell ⟨w.heap.size + 1 + 1, 3, none⟩ (.int .i64 q)).setCell ⟨w.heap.size + 1 + 1, 4, none⟩ (.bool true)).drew) := ((((((((HV9.out.bel.setCell (p := ⟨w.heap.size + 1, 0, none⟩) (by show w.heap.size ≤ w.heap.size + 1; omega) (.slice A N c)).setCell (p := ⟨w.heap.size + 1, 1, none⟩) (by show w.heap.size ≤ w.heap.size + 1; omega) (.int .i64 (k4 : Nat))).setCell (p := ⟨w.heap.size + 1, 2, none⟩) (by show w.heap.size ≤ w.heap.size + 1; omega) (.int .i64 0)).setCell (p := ⟨w.heap.size + 1 + 1, 0, none⟩) (by show w.heap.size ≤ w.heap.size + 1 + 1; omega) (.int .i64 (a : Nat))).setCell (p := ⟨w.heap.size + 1 + 1, 1, none⟩) (by show w.heap.size ≤ w.heap.size + 1 + 1; omega) (.slice (some ⟨gO, 0, none⟩) i c7)).setCell (p := ⟨w.heap.size + 1 + 1, 2, none⟩) (by show w.heap.size ≤ w.heap.size + 1 + 1; omega) (.int .i64 p)).setCell (p := ⟨w.heap.size + 1 + 1, 3, none⟩) (by show w.heap.size ≤ w.heap.size + 1 + 1; omega) (.int .i64 q)).setCell (p := ⟨w.heap.size + 1 + 1, 4, none⟩) (by show w.heap.size ≤ w.heap.size + 1 + 1; omega) (.bool true)).drew
            have hof : (((((((((w9.setCell ⟨w.heap.size + 1, 0, none⟩ (.slice A N c)).setCell ⟨w.heap.size + 1, 1, none⟩ (.int .i64 (k4 : Nat))).setCell ⟨w.heap.size + 1, 2, none⟩ (.int .i64 0)).setCell ⟨w.heap.size + 1 + 1, 0, none⟩ (.int .i64 (a : Nat))).setCell ⟨w.heap.size + 1 + 1, 1, none⟩ (.slice (some ⟨gO, 0, none⟩) i c7)).setCell ⟨w.heap.size + 1 + 1, 2, none⟩ (.int .i64 p)).setCell ⟨w.heap.size + 1 + 1, 3, none⟩ (.int .i64 q)).setCell ⟨w.heap.size + 1 + 1, 4, none⟩ (.bool true)).drew).ownsRow (g8 + 1) 3 1 (.slice (some ⟨gO, 0, none⟩) i c7) XX.length (litI XX) := World.ownsRow.drew (ownI_off (ownI_off (ownI_off (ownI_off (ownI_off (ownI_off (ownI_off (ownI_off HO9.out (by omega) 0 (.slice A N c)) (by omega) 1 (.int .i64 (k4 : Nat))) (by omega) 2 (.int .i64 0)) (by omega) 0 (.int .i64 (a : Nat))) (by omega) 1 (.slice (some ⟨gO, 0, none⟩) i c7)) (by omega) 2 (.int .i64 p)) (by omega) 3 (.int .i64 q)) (by omega) 4 (.bool true))
            have HOF := Lib.hid hof
            clear hof
            have HF1 := Lib.hid hf1
            have HF2 := Lib.hid hf2
            have HBF := Lib.hid hbf
            clear hf1 hf2 hbf
            go_wp2
            go_region
            go_wp2
            generalize ((((((((w9.setCell ⟨w.heap.size + 1, 0, none⟩ (.slice A N c)).setCell ⟨w.heap.size + 1, 1, none⟩ (.int .i64 (k4 : Nat))).setCell ⟨w.heap.size + 1, 2, none⟩ (.int .i64 0)).setCell ⟨w.heap.size + 1 + 1, 0, none⟩ (.int .i64 (a : Nat))).setCell ⟨w.heap.size + 1 + 1, 1, none⟩ (.slice (some ⟨gO, 0, none⟩) i c7)).setCell ⟨w.heap.size + 1 + 1, 2, none⟩ (.int .i64 p)).setCell ⟨w.heap.size + 1 + 1, 3, none⟩ (.int .i64 q)).setCell ⟨w.heap.size + 1 + 1, 4, none⟩ (.bool true)).drew = wf at *
            have y0 := HF1.out.cell 0
            have y1 := HF1.out.cell 1
            have y2 := HF1.out.cell 2
            have z0 := HF2.out.cell 0
            have z1 := HF2.out.cell 1
            have z2 := HF2.out.cell 2
            have z3 := HF2.out.cell 3
            have z4 := HF2.out.cell 4
            refine bodyPost_ret (v := .tuple #[.agg #[.slice A N c, .int .i64 (k4 : Nat), .int .i64 0], .agg #[.int .i64 (a : Nat), .slice (some ⟨gO, 0, none⟩) i c7, .int .i64 p, .int .i64 q, .bool true]]) (by simp [results, Tryz.results18, go_sem, y0, y1, y2, z0, z1, z2, z3, z4]) rfl ⟨?_, HBF.out⟩
            rw [HO.out]
            obtain ⟨A8, c8, e8, -, -, g9⟩ := lies_ownI HOF.out
            rw [HLEN.out] at e8
            cases e8
            exact ⟨(some ⟨gO, 0, none⟩), c7, by show _ = _; rw [HLEN.out], g9⟩
          · have HO : Hid (out = ((k4, EE), (0 : Int), ([] : List Int), (0 : Int), (0 : Int), false)) := HGE2.out.trans (by rw [if_neg hE])
            have g2 : (EE != 0) = true := by simpa using hE
            clear HGE2 hE H89
            obtain ⟨v0, v1, v2, -, -, -⟩ := H129.out.three
            obtain ⟨u0, u1, u2, f0, f1, f2⟩ := HV9.out.b1.three
            obtain ⟨q0, q1, q2, q3, q4⟩ := (show Box w9 (w.heap.size + 1 + 1) _ _ from HV9.out.b2).five
            obtain ⟨qf0, qf1, qf2, qf3, qf4⟩ := (show Box w9 (w.heap.size + 1 + 1) _ _ from HV9.out.b2).frees
            have hf1 : Box (((((((((w9.setCell ⟨w.heap.size + 1, 0, none⟩ (.slice A N c)).setCell ⟨w.heap.size + 1, 1, none⟩ (.int .i64 (k4 : Nat))).setCell ⟨w.heap.size + 1, 2, none⟩ (.int .i64 EE)).setCell ⟨w.heap.size + 1 + 1, 0, none⟩ (.int .i64 0)).setCell ⟨w.heap.size + 1 + 1, 1, none⟩ (.slice none 0 0)).setCell ⟨w.heap.size + 1 + 1, 2, none⟩ (.int .i64 0)).setCell ⟨w.heap.size + 1 + 1, 3, none⟩ (.int .i64 0)).setCell ⟨w.heap.size + 1 + 1, 4, none⟩ (.bool false))) (w.heap.size + 1) #[.slice A N c, .int .i64 (k4 : Nat), .int .i64 EE] 34 := ((Wr.set (w.heap.size + 1 + 1) 4 _ (.bool false)).box ((Wr.set (w.heap.size + 1 + 1) 3 _ (.int .i64 0)).box ((Wr.set (w.heap.size + 1 + 1) 2 _ (.int .i64 0)).box ((Wr.set (w.heap.size + 1 + 1) 1 _ (.slice none 0 0)).box ((Wr.set (w.heap.size + 1 + 1) 0 _ (.int .i64 0)).box (((HV9.out.b1.set 0 (.slice A N c)).set 1 (.int .i64 (k4 : Nat))).set 2 (.int .i64 EE)) (by omega)) (by omega)) (by omega)) (by omega)) (by omega))
            have hf2 : Box (((((((((w9.setCell ⟨w.heap.size + 1, 0, none⟩ (.slice A N c)).setCell ⟨w.heap.size + 1, 1, none⟩ (.int .i64 (k4 : Nat))).setCell ⟨w.heap.size + 1, 2, none⟩ (.int .i64 EE)).setCell ⟨w.heap.size + 1 + 1, 0, none⟩ (.int .i64 0)).setCell ⟨w.heap.size + 1 + 1, 1, none⟩ (.slice none 0 0)).setCell ⟨w.heap.size + 1 + 1, 2, none⟩ (.int .i64 0)).setCell ⟨w.heap.size + 1 + 1, 3, none⟩ (.int .i64 0)).setCell ⟨w.heap.size + 1 + 1, 4, none⟩ (.bool false))) (w.heap.size + 1 + 1) #[.int .i64 0, .slice none 0 0, .int .i64 0, .int .i64 0, .bool false] 41 := (((((((Wr.set (w.heap.size + 1) 2 _ (.int .i64 EE)).box ((Wr.set (w.heap.size + 1) 1 _ (.int .i64 (k4 : Nat))).box ((Wr.set (w.heap.size + 1) 0 _ (.slice A N c)).box HV9.out.b2 (by omega)) (by omega)) (by omega)).set 0 (.int .i64 0)).set 1 (.slice none 0 0)).set 2 (.int .i64 0)).set 3 (.int .i64 0)).set 4 (.bool false))
            have hbf : Below w.heap.size w (((((((((w9.setCell ⟨w.heap.size + 1, 0, none⟩ (.slice A N c)).setCell ⟨w.heap.size + 1, 1, none⟩ (.int .i64 (k4 : Nat))).setCell ⟨w.heap.size + 1, 2, none⟩ (.int .i64 EE)).setCell ⟨w.heap.size + 1 + 1, 0, none⟩ (.int .i64 0)).setCell ⟨w.heap.size + 1 + 1, 1, none⟩ (.slice none 0 0)).setCell ⟨w.heap.size + 1 + 1, 2, none⟩ (.int .i64 0)).setCell ⟨w.heap.size + 1 + 1, 3, none⟩ (.int .i64 0)).setCell ⟨w.heap.size + 1 + 1, 4, none⟩ (.bool false))) := ((((((((HV9.out.bel.setCell (p := ⟨w.heap.size + 1, 0, none⟩) (by show w.heap.size ≤ w.heap.size + 1; omega) (.slice A N c)).setCell (p := ⟨w.heap.size + 1, 1, none⟩) (by show w.heap.size ≤ w.heap.size + 1; omega) (.int .i64 (k4 : Nat))).setCell (p := ⟨w.heap.size + 1, 2, none⟩) (by show w.heap.size ≤ w.heap.size + 1; omega) (.int .i64 EE)).setCell (p := ⟨w.heap.size + 1 + 1, 0, none⟩) (by show w.heap.size ≤ w.heap.size + 1 + 1; omega) (.int .i64 0)).setCell (p := ⟨w.heap.size + 1 + 1, 1, none⟩) (by show w.heap.size ≤ w.heap.size + 1 + 1; omega) (.slice none 0 0)).setCell (p := ⟨w.heap.size + 1 + 1, 2, none⟩) (by show w.heap.size ≤ w.heap.size + 1 + 1; omega) (.int .i64 0)).setCell (p := ⟨w.heap.size + 1 + 1, 3, none⟩) (by show w.heap.size ≤ w.heap.size + 1 + 1; omega) (.int .i64 0)).setCell (p := ⟨w.heap.size + 1 + 1, 4, none⟩) (by show w.heap.size ≤ w.heap.size + 1 + 1; omega) (.bool false))
            have HF1 := Lib.hid hf1
            have HF2 := Lib.hid hf2
            have HBF := Lib.hid hbf
            clear hf1 hf2 hbf
            go_wp2
            generalize ((((((((w9.setCell ⟨w.heap.size + 1, 0, none⟩ (.slice A N c)).setCell ⟨w.heap.size + 1, 1, none⟩ (.int .i64 (k4 : Nat))).setCell ⟨w.heap.size + 1, 2, none⟩ (.int .i64 EE)).setCell ⟨w.heap.size + 1 + 1, 0, none⟩ (.int .i64 0)).setCell ⟨w.heap.size + 1 + 1, 1, none⟩ (.slice none 0 0)).setCell ⟨w.heap.size + 1 + 1, 2, none⟩ (.int .i64 0)).setCell ⟨w.heap.size + 1 + 1, 3, none⟩ (.int .i64 0)).setCell ⟨w.heap.size + 1 + 1, 4, none⟩ (.bool false)) = wf at *
            have y0 := HF1.out.cell 0
            have y1 := HF1.out.cell 1
            have y2 := HF1.out.cell 2
            have z0 := HF2.out.cell 0
            have z1 := HF2.out.cell 1
            have z2 := HF2.out.cell 2
            have z3 := HF2.out.cell 3
            have z4 := HF2.out.cell 4
            refine bodyPost_ret (v := .tuple #[.agg #[.slice A N c, .int .i64 (k4 : Nat), .int .i64 EE], .agg #[.int .i64 0, .slice none 0 0, .int .i64 0, .int .i64 0, .bool false]]) (by simp [results, Tryz.results18, go_sem, y0, y1, y2, z0, z1, z2, z3, z4]) rfl ⟨?_, HBF.out⟩
            rw [HO.out]
            exact ⟨none, 0, rfl, lies0⟩
      · obtain rfl : m = 0 := by omega
        rw [show ((0 : Nat) : Int) = 0 from rfl] at K
        have HGM : Hid (gM b ((k3, e3), 0) = ((k3, e3), (0, 0))) := rfl
        clear hm1 hm
        go_wp2_with fail
        refine (K.out).mono ?_
        rintro r w5 ⟨rfl, h1⟩
        have h1a := h1.alloc h1.size (.cells #[.slice A N c, .int .i64 (k3 : Nat), .int .i64 e3] 34)
        have hg8w : g8 < w5.heap.size := Nat.lt_of_lt_of_le H8.out.lt h1.size
        have HV := Lib.hid (HV.out.below h1a)
        have H8 := Lib.hid (H8.out.below h1a H8.out.lt)
        have HO := Lib.hid (ownI_below HO.out h1a)
        have H12 := Lib.hid (Box.new w5 #[.slice A N c, .int .i64 (k3 : Nat), .int .i64 e3] 34)
        have HO12 : Hid (∀ (W : World), W.ownsRow (g8 + 1) 3 1 (.slice (some ⟨gO, 0, none⟩) i c7) XX.length (litI XX) → ∀ x y z : Value, (((W.setCell ⟨w5.heap.size, 0, none⟩ x).setCell ⟨w5.heap.size, 1, none⟩ y).setCell ⟨w5.heap.size, 2, none⟩ z).ownsRow (g8 + 1) 3 1 (.slice (some ⟨gO, 0, none⟩) i c7) XX.length (litI XX)) := fun W h x y z => by
          have hlt : gO < w5.heap.size := Nat.lt_of_lt_of_le hgO h1.size
          exact ownI_set (ownI_set (ownI_set h rfl (by omega) 0 x) rfl (by omega) 1 y) rfl (by omega) 2 z
        clear h1 h1a H6 K v0 v1 v2
        go_upto_region 17 with fail
        generalize w5.alloc (.cells #[.slice A N c, .int .i64 (k3 : Nat), .int .i64 e3] 34) = w8 at *
        generalize w5.heap.size = g12 at *
        obtain ⟨R, hR⟩ : ∃ R, R = rsB (a : Nat) XX 0 0 false (i : Nat) := ⟨_, rfl⟩
        obtain ⟨A8, c8, e8, -, -, hlx⟩ := lies_ownI HO.out
        rw [hlen] at e8
        cases e8
        have HLX := Lib.hid hlx
        have KR : Hid (∀ W, Below w8.heap.size w8 W → Calls Tryz.prog 16 #[.agg #[.int .i64 (a : Nat), .slice (some ⟨gO, 0, none⟩) i c7, .int .i64 0, .int .i64 0, .bool false], .int .i64 (i : Nat)] W fun e w' => e = .returned (.bool R) ∧ Below W.heap.size W w') := fun W h => by
          have h9 := ref_RightSeen (a : Nat) XX (some ⟨gO, 0, none⟩) c7 0 0 false (i : Nat) W ((HLX.out.below h).mono h.size)
          rw [hlen, ← hR] at h9
          exact h9
        obtain ⟨EE, hEE⟩ : ∃ EE, EE = chkF R e3 := ⟨_, rfl⟩
        have KFM := Lib.hid (fun W => ref_form A N c k3 e3 R W)
        rw [← hEE] at KFM
        have HGE2 : Hid (out = ((k3, EE), if EE = 0 then (((a : Nat) : Int), XX, 0, 0, false) else (0, [], 0, 0, false))) := by show _ = _; rw [HGE.out, HGM.out, hEE, hR]; rfl
        have HLEN := Lib.hid hlen
        clear HGE HGM hR hEE hlx HLX hlen
        obtain ⟨v0, v1, v2, -, -, -⟩ := (box_drewI H12.out).three
        obtain ⟨s0, s1, s2, s3, s4⟩ := (show Box w8.drew g8 _ _ from H8.out).five
        have HD := Lib.hid ((Below.refl w8.heap.size w8).drew)
        have KQ := Lib.hid (KR.out w8.drew HD.out)
        clear KR
        go_region_with (first | (go_at_call 16; refine Calls.mono KQ.out ?_; rintro r wa ⟨rfl, g2⟩; have g3 := HD.out.trans g2; have HV := Lib.hid (HV.out.below g3); have H8 := Lib.hid (H8.out.below g3 H8.out.lt); have H12 := Lib.hid (H12.out.below g3 H12.out.lt); have HO := Lib.hid (ownI_below HO.out g3); clear g2 g3; obtain ⟨v0, v1, v2, -, -, -⟩ := H12.out.three) | (go_at_call 36; refine Calls.mono (KFM.out _) ?_; rintro r w6 ⟨rfl, g3⟩; have HV := Lib.hid (HV.out.below g3); have H8 := Lib.hid (H8.out.below g3 H8.out.lt); have H12 := Lib.hid (H12.out.below g3 H12.out.lt); have HO := Lib.hid (ownI_below HO.out g3); clear g3; obtain ⟨v0, v1, v2, f0, f1, f2⟩ := H12.out.three))
        all_goals
          have hg3' : w.heap.size + 3 ≤ g12 := by omega
          have HV9 := Lib.hid (((HV.out.off hg3' 0 (.slice A N c)).off hg3' 1 (.int .i64 (k3 : Nat))).off hg3' 2 (.int .i64 EE))
          have H89 := Lib.hid (((H8.out.off (p := ⟨g12, 0, none⟩) (by show g12 ≠ g8; omega) (.slice A N c)).off (p := ⟨g12, 1, none⟩) (by show g12 ≠ g8; omega) (.int .i64 (k3 : Nat))).off (p := ⟨g12, 2, none⟩) (by show g12 ≠ g8; omega) (.int .i64 EE))
          have H129 := Lib.hid (((H12.out.set 0 (.slice A N c)).set 1 (.int .i64 (k3 : Nat))).set 2 (.int .i64 EE))
          have HO9 := Lib.hid ((HO12.out w6 HO.out (.slice A N c) (.int .i64 (k3 : Nat)) (.int .i64 EE)))
          go_upto_region 18 with fail
          generalize ((w6.setCell ⟨g12, 0, none⟩ (.slice A N c)).setCell ⟨g12, 1, none⟩ (.int .i64 (k3 : Nat))).setCell ⟨g12, 2, none⟩ (.int .i64 EE) = w9 at *
          clear HV H8 H12 HO v0 v1 v2 f0 f1 f2 KQ KFM HD
          have hne1 : ¬ g8 = w.heap.size + 1 := by omega
          have hne2 : ¬ w.heap.size + 1 = g8 := by omega
          have hne3 : ¬ g8 = w.heap.size + 1 + 1 := by omega
          have hne4 : ¬ w.heap.size + 1 + 1 = g8 := by omega
          have hne5 : ¬ g12 = w.heap.size + 1 := by omega
          have hne6 : ¬ w.heap.size + 1 = g12 := by omega
          have hne7 : ¬ g12 = w.heap.size + 1 + 1 := by omega
          by_cases hE : EE = 0
          · subst hE
            have HO : Hid (out = ((k3, (0 : Int)), ((a : Nat) : Int), XX, 0, 0, false)) := HGE2.out.trans (by rw [if_pos rfl])
            clear HGE2
            obtain ⟨v0, v1, v2, -, -, -⟩ := H129.out.three
            obtain ⟨d0, d1, d2, -, -, -⟩ := (box_drewI H129.out).three
            obtain ⟨u0, u1, u2, f0, f1, f2⟩ := (box_drewI HV9.out.b1).three
            obtain ⟨u0', u1', u2', f0', f1', f2'⟩ := HV9.out.b1.three
            obtain ⟨s0, s1, s2, s3, s4⟩ := (show Box w9.drew g8 _ _ from H89.out).five
            obtain ⟨s0', s1', s2', s3', s4'⟩ := H89.out.five
            obtain ⟨q0, q1, q2, q3, q4⟩ := (show Box w9.drew (w.heap.size + 1 + 1) _ _ from HV9.out.b2).five
            obtain ⟨qf0, qf1, qf2, qf3, qf4⟩ := (show Box w9.drew (w.heap.size + 1 + 1) _ _ from HV9.out.b2).frees
            obtain ⟨q0', q1', q2', q3', q4'⟩ := (show Box w9 (w.heap.size + 1 + 1) _ _ from HV9.out.b2).five
            obtain ⟨qf0', qf1', qf2', qf3', qf4'⟩ := (show Box w9 (w.heap.size + 1 + 1) _ _ from HV9.out.b2).frees
            have hf1 : Box (((((((((w9.setCell ⟨w.heap.size + 1, 0, none⟩ (.slice A N c)).setCell ⟨w.heap.size + 1, 1, none⟩ (.int .i64 (k3 : Nat))).setCell ⟨w.heap.size + 1, 2, none⟩ (.int .i64 0)).setCell ⟨w.heap.size + 1 + 1, 0, none⟩ (.int .i64 (a : Nat))).setCell ⟨w.heap.size + 1 + 1, 1, none⟩ (.slice (some ⟨gO, 0, none⟩) i c7)).setCell ⟨w.heap.size + 1 + 1, 2, none⟩ (.int .i64 0)).setCell ⟨w.heap.size + 1 + 1, 3, none⟩ (.int .i64 0)).setCell ⟨w.heap.size + 1 + 1, 4, none⟩ (.bool false)).drew) (w.heap.size + 1) #[.slice A N c, .int .i64 (k3 : Nat), .int .i64 0] 34 := box_drewI (((Wr.set (w.heap.size + 1 + 1) 4 _ (.bool false)).box ((Wr.set (w.heap.size + 1 + 1) 3 _ (.int .i64 0)).box ((Wr.set (w.heap.size + 1 + 1) 2 _ (.int .i64 0)).box ((Wr.set (w.heap.size + 1 + 1) 1 _ (.slice (some ⟨gO, 0, none⟩) i c7)).box ((Wr.set (w.heap.size + 1 + 1) 0 _ (.int .i64 (a : Nat))).box (((HV9.out.b1.set 0 (.slice A N c)).set 1 (.int .i64 (k3 : Nat))).set 2 (.int .i64 0)) (by omega)) (by omega)) (by omega)) (by omega)) (by omega)))
            have hf2 : Box (((((((((w9.setCell ⟨w.heap.size + 1, 0, none⟩ (.slice A N c)).setCell ⟨w.heap.size + 1, 1, none⟩ (.int .i64 (k3 : Nat))).setCell ⟨w.heap.size + 1, 2, none⟩ (.int .i64 0)).setCell ⟨w.heap.size + 1 + 1, 0, none⟩ (.int .i64 (a : Nat))).setCell ⟨w.heap.size + 1 + 1, 1, none⟩ (.slice (some ⟨gO, 0, none⟩) i c7)).setCell ⟨w.heap.size + 1 + 1, 2, none⟩ (.int .i64 0)).setCell ⟨w.heap.size + 1 + 1, 3, none⟩ (.int .i64 0)).setCell ⟨w.heap.size + 1 + 1, 4, none⟩ (.bool false)).drew) (w.heap.size + 1 + 1) #[.int .i64 (a : Nat), .slice (some ⟨gO, 0, none⟩) i c7, .int .i64 0, .int .i64 0, .bool false] 41 := box_drewI ((((((((Wr.set (w.heap.size + 1) 2 _ (.int .i64 0)).box ((Wr.set (w.heap.size + 1) 1 _ (.int .i64 (k3 : Nat))).box ((Wr.set (w.heap.size + 1) 0 _ (.slice A N c)).box HV9.out.b2 (by omega)) (by omega)) (by omega)).set 0 (.int .i64 (a : Nat))).set 1 (.slice (some ⟨gO, 0, none⟩) i c7)).set 2 (.int .i64 0)).set 3 (.int .i64 0)).set 4 (.bool false)))
            have hbf : Below w.heap.size w (((((((((w9.setCell ⟨w.heap.size + 1, 0, none⟩ (.slice A N c)).setCell ⟨w.heap.size + 1, 1, none⟩ (.int .i64 (k3 : Nat))).setCell ⟨w.heap.size + 1, 2, none⟩ (.int .i64 0)).setCell ⟨w.heap.size + 1 + 1, 0, none⟩ (.int .i64 (a : Nat))).setCell ⟨w.heap.size + 1 + 1, 1, none⟩ (.slice (some ⟨gO, 0, none⟩) i c7)).setCell ⟨w.heap.size + 1 + 1, 2, none⟩ (.int .i64 0)).setCell ⟨w.heap.size + 1 + 1, 3, none⟩ (.int .i64 0)).setCell ⟨w.heap.size + 1 + 1, 4, none⟩ (.bool false)).drew) := ((((((((HV9.out.bel.setCell (p := ⟨w.heap.size + 1, 0, none⟩) (by show w.heap.size ≤ w.heap.size + 1; omega) (.slice A N c)).setCell (p := ⟨w.heap.size + 1, 1, none⟩) (by show w.heap.size ≤ w.heap.size + 1; omega) (.int .i64 (k3 : Nat))).setCell (p := ⟨w.heap.size + 1, 2, none⟩) (by show w.heap.size ≤ w.heap.size + 1; omega) (.int .i64 0)).setCell (p := ⟨w.heap.size + 1 + 1, 0, none⟩) (by show w.heap.size ≤ w.heap.size + 1 + 1; omega) (.int .i64 (a : Nat))).setCell (p := ⟨w.heap.size + 1 + 1, 1, none⟩) (by show w.heap.size ≤ w.heap.size + 1 + 1; omega) (.slice (some ⟨gO, 0, none⟩) i c7)).setCell (p := ⟨w.heap.size + 1 + 1, 2, none⟩) (by show w.heap.size ≤ w.heap.size + 1 + 1; omega) (.int .i64 0)).setCell (p := ⟨w.heap.size + 1 + 1, 3, none⟩) (by show w.heap.size ≤ w.heap.size + 1 + 1; omega) (.int .i64 0)).setCell (p := ⟨w.heap.size + 1 + 1, 4, none⟩) (by show w.heap.size ≤ w.heap.size + 1 + 1; omega) (.bool false)).drew
            have hof : (((((((((w9.setCell ⟨w.heap.size + 1, 0, none⟩ (.slice A N c)).setCell ⟨w.heap.size + 1, 1, none⟩ (.int .i64 (k3 : Nat))).setCell ⟨w.heap.size + 1, 2, none⟩ (.int .i64 0)).setCell ⟨w.heap.size + 1 + 1, 0, none⟩ (.int .i64 (a : Nat))).setCell ⟨w.heap.size + 1 + 1, 1, none⟩ (.slice (some ⟨gO, 0, none⟩) i c7)).setCell ⟨w.heap.size + 1 + 1, 2, none⟩ (.int .i64 0)).setCell ⟨w.heap.size + 1 + 1, 3, none⟩ (.int .i64 0)).setCell ⟨w.heap.size + 1 + 1, 4, none⟩ (.bool false)).drew).ownsRow (g8 + 1) 3 1 (.slice (some ⟨gO, 0, none⟩) i c7) XX.length (litI XX) := World.ownsRow.drew (ownI_off (ownI_off (ownI_off (ownI_off (ownI_off (ownI_off (ownI_off (ownI_off HO9.out (by omega) 0 (.slice A N c)) (by omega) 1 (.int .i64 (k3 : Nat))) (by omega) 2 (.int .i64 0)) (by omega) 0 (.int .i64 (a : Nat))) (by omega) 1 (.slice (some ⟨gO, 0, none⟩) i c7)) (by omega) 2 (.int .i64 0)) (by omega) 3 (.int .i64 0)) (by omega) 4 (.bool false))
            have HOF := Lib.hid hof
            clear hof
            have HF1 := Lib.hid hf1
            have HF2 := Lib.hid hf2
            have HBF := Lib.hid hbf
            clear hf1 hf2 hbf
            go_wp2
            go_region
            go_wp2
            generalize ((((((((w9.setCell ⟨w.heap.size + 1, 0, none⟩ (.slice A N c)).setCell ⟨w.heap.size + 1, 1, none⟩ (.int .i64 (k3 : Nat))).setCell ⟨w.heap.size + 1, 2, none⟩ (.int .i64 0)).setCell ⟨w.heap.size + 1 + 1, 0, none⟩ (.int .i64 (a : Nat))).setCell ⟨w.heap.size + 1 + 1, 1, none⟩ (.slice (some ⟨gO, 0, none⟩) i c7)).setCell ⟨w.heap.size + 1 + 1, 2, none⟩ (.int .i64 0)).setCell ⟨w.heap.size + 1 + 1, 3, none⟩ (.int .i64 0)).setCell ⟨w.heap.size + 1 + 1, 4, none⟩ (.bool false)).drew = wf at *
            have y0 := HF1.out.cell 0
            have y1 := HF1.out.cell 1
            have y2 := HF1.out.cell 2
            have z0 := HF2.out.cell 0
            have z1 := HF2.out.cell 1
            have z2 := HF2.out.cell 2
            have z3 := HF2.out.cell 3
            have z4 := HF2.out.cell 4
            refine bodyPost_ret (v := .tuple #[.agg #[.slice A N c, .int .i64 (k3 : Nat), .int .i64 0], .agg #[.int .i64 (a : Nat), .slice (some ⟨gO, 0, none⟩) i c7, .int .i64 0, .int .i64 0, .bool false]]) (by simp [results, Tryz.results18, go_sem, y0, y1, y2, z0, z1, z2, z3, z4]) rfl ⟨?_, HBF.out⟩
            rw [HO.out]
            obtain ⟨A8, c8, e8, -, -, g9⟩ := lies_ownI HOF.out
            rw [HLEN.out] at e8
            cases e8
            exact ⟨(some ⟨gO, 0, none⟩), c7, by show _ = _; rw [HLEN.out], g9⟩
          · have HO : Hid (out = ((k3, EE), (0 : Int), ([] : List Int), (0 : Int), (0 : Int), false)) := HGE2.out.trans (by rw [if_neg hE])
            have g2 : (EE != 0) = true := by simpa using hE
            clear HGE2 hE H89
            obtain ⟨v0, v1, v2, -, -, -⟩ := H129.out.three
            obtain ⟨u0, u1, u2, f0, f1, f2⟩ := HV9.out.b1.three
            obtain ⟨q0, q1, q2, q3, q4⟩ := (show Box w9 (w.heap.size + 1 + 1) _ _ from HV9.out.b2).five
            obtain ⟨qf0, qf1, qf2, qf3, qf4⟩ := (show Box w9 (w.heap.size + 1 + 1) _ _ from HV9.out.b2).frees
            have hf1 : Box (((((((((w9.setCell ⟨w.heap.size + 1, 0, none⟩ (.slice A N c)).setCell ⟨w.heap.size + 1, 1, none⟩ (.int .i64 (k3 : Nat))).setCell ⟨w.heap.size + 1, 2, none⟩ (.int .i64 EE)).setCell ⟨w.heap.size + 1 + 1, 0, none⟩ (.int .i64 0)).setCell ⟨w.heap.size + 1 + 1, 1, none⟩ (.slice none 0 0)).setCell ⟨w.heap.size + 1 + 1, 2, none⟩ (.int .i64 0)).setCell ⟨w.heap.size + 1 + 1, 3, none⟩ (.int .i64 0)).setCell ⟨w.heap.size + 1 + 1, 4, none⟩ (.bool false))) (w.heap.size + 1) #[.slice A N c, .int .i64 (k3 : Nat), .int .i64 EE] 34 := ((Wr.set (w.heap.size + 1 + 1) 4 _ (.bool false)).box ((Wr.set (w.heap.size + 1 + 1) 3 _ (.int .i64 0)).box ((Wr.set (w.heap.size + 1 + 1) 2 _ (.int .i64 0)).box ((Wr.set (w.heap.size + 1 + 1) 1 _ (.slice none 0 0)).box ((Wr.set (w.heap.size + 1 + 1) 0 _ (.int .i64 0)).box (((HV9.out.b1.set 0 (.slice A N c)).set 1 (.int .i64 (k3 : Nat))).set 2 (.int .i64 EE)) (by omega)) (by omega)) (by omega)) (by omega)) (by omega))
            have hf2 : Box (((((((((w9.setCell ⟨w.heap.size + 1, 0, none⟩ (.slice A N c)).setCell ⟨w.heap.size + 1, 1, none⟩ (.int .i64 (k3 : Nat))).setCell ⟨w.heap.size + 1, 2, none⟩ (.int .i64 EE)).setCell ⟨w.heap.size + 1 + 1, 0, none⟩ (.int .i64 0)).setCell ⟨w.heap.size + 1 + 1, 1, none⟩ (.slice none 0 0)).setCell ⟨w.heap.size + 1 + 1, 2, none⟩ (.int .i64 0)).setCell ⟨w.heap.size + 1 + 1, 3, none⟩ (.int .i64 0)).setCell ⟨w.heap.size + 1 + 1, 4, none⟩ (.bool false))) (w.heap.size + 1 + 1) #[.int .i64 0, .slice none 0 0, .int .i64 0, .int .i64 0, .bool false] 41 := (((((((Wr.set (w.heap.size + 1) 2 _ (.int .i64 EE)).box ((Wr.set (w.heap.size + 1) 1 _ (.int .i64 (k3 : Nat))).box ((Wr.set (w.heap.size + 1) 0 _ (.slice A N c)).box HV9.out.b2 (by omega)) (by omega)) (by omega)).set 0 (.int .i64 0)).set 1 (.slice none 0 0)).set 2 (.int .i64 0)).set 3 (.int .i64 0)).set 4 (.bool false))
            have hbf : Below w.heap.size w (((((((((w9.setCell ⟨w.heap.size + 1, 0, none⟩ (.slice A N c)).setCell ⟨w.heap.size + 1, 1, none⟩ (.int .i64 (k3 : Nat))).setCell ⟨w.heap.size + 1, 2, none⟩ (.int .i64 EE)).setCell ⟨w.heap.size + 1 + 1, 0, none⟩ (.int .i64 0)).setCell ⟨w.heap.size + 1 + 1, 1, none⟩ (.slice none 0 0)).setCell ⟨w.heap.size + 1 + 1, 2, none⟩ (.int .i64 0)).setCell ⟨w.heap.size + 1 + 1, 3, none⟩ (.int .i64 0)).setCell ⟨w.heap.size + 1 + 1, 4, none⟩ (.bool false))) := ((((((((HV9.out.bel.setCell (p := ⟨w.heap.size + 1, 0, none⟩) (by show w.heap.size ≤ w.heap.size + 1; omega) (.slice A N c)).setCell (p := ⟨w.heap.size + 1, 1, none⟩) (by show w.heap.size ≤ w.heap.size + 1; omega) (.int .i64 (k3 : Nat))).setCell (p := ⟨w.heap.size + 1, 2, none⟩) (by show w.heap.size ≤ w.heap.size + 1; omega) (.int .i64 EE)).setCell (p := ⟨w.heap.size + 1 + 1, 0, none⟩) (by show w.heap.size ≤ w.heap.size + 1 + 1; omega) (.int .i64 0)).setCell (p := ⟨w.heap.size + 1 + 1, 1, none⟩) (by show w.heap.size ≤ w.heap.size + 1 + 1; omega) (.slice none 0 0)).setCell (p := ⟨w.heap.size + 1 + 1, 2, none⟩) (by show w.heap.size ≤ w.heap.size + 1 + 1; omega) (.int .i64 0)).setCell (p := ⟨w.heap.size + 1 + 1, 3, none⟩) (by show w.heap.size ≤ w.heap.size + 1 + 1; omega) (.int .i64 0)).setCell (p := ⟨w.heap.size + 1 + 1, 4, none⟩) (by show w.heap.size ≤ w.heap.size + 1 + 1; omega) (.bool false))
            have HF1 := Lib.hid hf1
            have HF2 := Lib.hid hf2
            have HBF := Lib.hid hbf
            clear hf1 hf2 hbf
            go_wp2
            generalize ((((((((w9.setCell ⟨w.heap.size + 1, 0, none⟩ (.slice A N c)).setCell ⟨w.heap.size + 1, 1, none⟩ (.int .i64 (k3 : Nat))).setCell ⟨w.heap.size + 1, 2, none⟩ (.int .i64 EE)).setCell ⟨w.heap.size + 1 + 1, 0, none⟩ (.int .i64 0)).setCell ⟨w.heap.size + 1 + 1, 1, none⟩ (.slice none 0 0)).setCell ⟨w.heap.size + 1 + 1, 2, none⟩ (.int .i64 0)).setCell ⟨w.heap.size + 1 + 1, 3, none⟩ (.int .i64 0)).setCell ⟨w.heap.size + 1 + 1, 4, none⟩ (.bool false)) = wf at *
            have y0 := HF1.out.cell 0
            have y1 := HF1.out.cell 1
            have y2 := HF1.out.cell 2
            have z0 := HF2.out.cell 0
            have z1 := HF2.out.cell 1
            have z2 := HF2.out.cell 2
            have z3 := HF2.out.cell 3
            have z4 := HF2.out.cell 4
            refine bodyPost_ret (v := .tuple #[.agg #[.slice A N c, .int .i64 (k3 : Nat), .int .i64 EE], .agg #[.int .i64 0, .slice none 0 0, .int .i64 0, .int .i64 0, .bool false]]) (by simp [results, Tryz.results18, go_sem, y0, y1, y2, z0, z1, z2, z3, z4]) rfl ⟨?_, HBF.out⟩
            rw [HO.out]
            exact ⟨none, 0, rfl, lies0⟩
end Go.Proofs.YtpoemflclbhekaaGreat
