/- ItmND ItmNE ItmNF -/
import Derived.Test.YtpoemflclbhekaaItmRf

/-! Layer 22 (item): requests read, in the reference: GetAsk, ways (3,). -/
namespace Go.Proofs.Ytpoemflclbhekaa
open Go.RowKit
set_option linter.unusedVariables false
set_option linter.unusedSimpArgs false

set_option maxRecDepth 100000 in
set_option maxHeartbeats 16000000 in
theorem ref_GetAsk_w3 (b : List Int) (A : Option Addr) (c k : Nat) (e : Int) (w : World) (hA : LiesY w w.heap.size A b) (hb : byt b) (hl : b.length ≤ 1000000) (hk : k ≤ b.length) (hp : okK ((rN b k e 1099511627776).2 : Int) = true ∧ nmI ((rN b k e 1099511627776).2 : Int) = false ∧ nmX ((rN b k e 1099511627776).2 : Int) = false ∧ nmN ((rN b k e 1099511627776).2 : Int) = true ∧ nmM ((rN b k e 1099511627776).2 : Int) = false) : Calls Try.prog 28 #[.agg #[.slice A b.length c, .int .i64 (k : Nat), .int .i64 e]] w (GivesRA A b.length c (gA b k e) w) := by
  have i2 : I64 1099511627776 := by unfold I64; omega
  have i8 : I64 8 := by unfold I64; omega
  have KRN : Hid (∀ (W : World) (s : Nat × Int), Below w.heap.size w W → s.1 ≤ b.length → Calls Try.prog 97 #[.agg #[.slice A b.length c, .int .i64 (s.1 : Nat), .int .i64 s.2], .int .i64 1099511627776] W fun r w' => r = .returned (.tuple #[.agg #[.slice A b.length c, .int .i64 ((rdI b true s).1.1 : Nat), .int .i64 (rdI b true s).1.2], .int .i64 ((rdI b true s).2 : Nat)]) ∧ Below W.heap.size W w') := fun W s h hs => ref_ReadN21 b A c s.1 s.2 1099511627776 i2 W ((hA.below h).mono h.size) hb hl hs
  have KRL : Hid (∀ (W : World) (s : Nat × Int), Below w.heap.size w W → s.1 ≤ b.length → Calls Try.prog 111 #[.agg #[.slice A b.length c, .int .i64 (s.1 : Nat), .int .i64 s.2], .int .i64 8] W fun r w' => ∃ A2 c2, r = .returned (.tuple #[.agg #[.slice A b.length c, .int .i64 ((rdX b true s).1.1 : Nat), .int .i64 (rdX b true s).1.2], .slice A2 (rdX b true s).2.length c2]) ∧ w'.ownsRow W.heap.size 3 1 (.slice A2 (rdX b true s).2.length c2) (rdX b true s).2.length (litI (rdX b true s).2) ∧ Below W.heap.size W w') := fun W s h hs => ref_ReadL21 b A c s.1 s.2 8 i8 W ((hA.below h).mono h.size) hb hl hs
  have HPI : Hid (∀ s : Nat × Int, s.1 ≤ b.length → (rdI b true s).1.1 ≤ b.length) := fun s h => rN_at hb h s.2 1099511627776
  have HPX : Hid (∀ s : Nat × Int, s.1 ≤ b.length → (rdX b true s).1.1 ≤ b.length) := fun s h => rL_at hb h s.2 8
  have K1 := Lib.hid (KRN.out)
  have HK0 : Hid ((rN b k e 1099511627776).1.1 ≤ b.length) := rN_at hb hk e _
  have KFM := Lib.hid (fun (kk : Nat) (ee : Int) (q : Bool) W => ref_form A b.length c kk ee q W)
  have KRA := Lib.hid (fun (kind id n m : Nat) (X : List Int) (AX : Option Addr) (cX : Nat) (W : World) (hX : Lies W W.heap.size AX X) => ref_RightAsk kind id n m X AX cX W hX)
  obtain ⟨hX, hX0, hW⟩ := box_r w A b.length c (k : Nat) e
  have hb3 := hW.alloc hW.size (.cells #[.int .i64 0, .int .i64 0, .slice none 0 0, .int .i64 0, .int .i64 0] 41)
  have h2n := Box.new ((w.alloc (.cells #[.slice A b.length c, .int .i64 (k : Nat), .int .i64 e] 34)).alloc (.cells #[.slice none 0 0, .int .i64 0, .int .i64 0] 34)) #[.int .i64 0, .int .i64 0, .slice none 0 0, .int .i64 0, .int .i64 0] 41
  rw [alloc_size', alloc_size'] at h2n
  have H1 := Lib.hid (hX.alloc (.cells #[.int .i64 0, .int .i64 0, .slice none 0 0, .int .i64 0, .int .i64 0] 41))
  have H2 := Lib.hid h2n
  have HBL := Lib.hid hb3
  have K0 := Lib.hid (KRN.out _ (k, e) hb3 hk)
  rw [show (rdI b true (k, e)) = rN b k e 1099511627776 from rfl] at K0
  have KNM := Lib.hid (fun (j : Nat) W => ref_names (j : Int) W)
  unfold gA
  obtain ⟨r1, hr1⟩ : ∃ r1, r1 = rN b k e 1099511627776 := ⟨_, rfl⟩
  rw [← hr1] at K0 HK0 hp ⊢
  clear hr1 hX hX0 hW hb3 h2n hA K1
  obtain ⟨⟨k1, e1⟩, kd⟩ := r1
  simp only at K0 HK0 hp ⊢
  generalize b.length = N at *
  obtain ⟨hok, p1, p2, p3, p4⟩ := hp
  obtain ⟨hk1, hk7⟩ := of_decide_eq_true hok
  rw [hok]
  rw [show chkF true e1 = e1 from rfl]
  have KNK := Lib.hid (KNM.out kd)
  rw [p1, p2, p3, p4] at KNK
  rw [p1, p2, p3, p4]
  clear p1 p2 p3 p4 hok KNM
  rw [show gA5 b false false true false kd (k1, e1) = finA kd 0 ([] : List Int) (rdI b true (k1, e1)).2 ((rdI b true (k1, e1)).1, 0) from rfl]
  obtain ⟨rn, hrn⟩ : ∃ r, r = rdI b true (k1, e1) := ⟨_, rfl⟩
  rw [← hrn]
  have Kn : Hid (∀ (W : World), Below w.heap.size w W → Calls Try.prog 97 #[.agg #[.slice A N c, .int .i64 (k1 : Nat), .int .i64 e1], .int .i64 1099511627776] W fun r w' => r = .returned (.tuple #[.agg #[.slice A N c, .int .i64 (rn.1.1 : Nat), .int .i64 rn.1.2], .int .i64 (rn.2 : Nat)]) ∧ Below W.heap.size W w') := fun W h => by rw [hrn]; exact KRN.out W (k1, e1) h HK0.out
  have HKn : Hid (rn.1.1 ≤ N) := by show _ ≤ _; rw [hrn]; exact HPI.out (k1, e1) HK0.out
  clear hrn
  obtain ⟨⟨kn, en⟩, vn⟩ := rn
  simp only at Kn HKn ⊢
  obtain ⟨out, hout⟩ : ∃ out, out = finA kd 0 ([] : List Int) vn ((kn, en), 0) := ⟨_, rfl⟩
  rw [← hout]
  have HO1 : Hid (out.1.1 = kn ∧ out.1.2 = chkF (rightA (kd : Nat) (0 : Nat) (vn : Nat) (0 : Nat) ([] : List Int)) en) := by rw [hout]; exact ⟨rfl, rfl⟩
  have HCH : Hid (∀ AX cX, ∃ oA oc, (if chkF (rightA (kd : Nat) (0 : Nat) (vn : Nat) (0 : Nat) ([] : List Int)) en = 0 then Value.agg #[.int .i64 (kd : Nat), .int .i64 0, .slice AX 0 cX, .int .i64 (vn : Nat), .int .i64 0] else .agg #[.int .i64 0, .int .i64 0, .slice none 0 0, .int .i64 0, .int .i64 0]) = .agg #[.int .i64 (out.2.1 : Nat), .int .i64 (out.2.2.1 : Nat), .slice oA out.2.2.2.1.length oc, .int .i64 (out.2.2.2.2.1 : Nat), .int .i64 (out.2.2.2.2.2 : Nat)] ∧ ∀ (W : World) (B : Nat), W.ownsRow B 3 1 (.slice AX 0 cX) 0 (litI ([] : List Int)) → W.ownsRow B 3 1 (.slice oA out.2.2.2.1.length oc) out.2.2.2.1.length (litI out.2.2.2.1)) := fun AX cX => by rw [hout]; exact chk_out kd 0 vn ([] : List Int) ((kn, en), 0) AX cX
  clear hout
  go_enter Try.func28, Try.ntmps28
  go_wp2_with fail
  refine (K0.out).mono ?_
  rintro r w1 ⟨rfl, h2⟩
  have hsz1 : w.heap.size + 3 ≤ w1.heap.size := by have := h2.size; rw [alloc_size', alloc_size', alloc_size'] at this; omega
  have hal := (Below.refl w1.heap.size w1).alloc (Nat.le_refl _) (.cells #[.slice A N c, .int .i64 (k1 : Nat), .int .i64 e1] 34)
  have hal2 := hal.alloc hal.size (.cells #[.int .i64 (kd : Nat), .int .i64 0, .slice none 0 0, .int .i64 0, .int .i64 0] 41)
  have H1 := Lib.hid ((H1.out.below h2 H1.out.lt).below hal2 (H1.out.below h2 H1.out.lt).lt)
  have H2 := Lib.hid ((H2.out.below h2 H2.out.lt).below hal2 (H2.out.below h2 H2.out.lt).lt)
  have H4 := Lib.hid ((Box.new w1 #[.slice A N c, .int .i64 (k1 : Nat), .int .i64 e1] 34).alloc (.cells #[.int .i64 (kd : Nat), .int .i64 0, .slice none 0 0, .int .i64 0, .int .i64 0] 41))
  have h6 := Box.new (w1.alloc (.cells #[.slice A N c, .int .i64 (k1 : Nat), .int .i64 e1] 34)) #[.int .i64 (kd : Nat), .int .i64 0, .slice none 0 0, .int .i64 0, .int .i64 0] 41
  rw [alloc_size'] at h6
  have H6 := Lib.hid h6
  have HBL := Lib.hid ((HBL.out.trans (h2.mono HBL.out.size)).trans (hal2.mono (Nat.le_trans HBL.out.size h2.size)))
  clear h2 hal hal2 h6 K0
  go_wp2_with fail
  refine (KFM.out k1 e1 true _).mono ?_
  rintro r w3 ⟨rfl, h2⟩
  have H1 := Lib.hid (H1.out.below h2 H1.out.lt)
  have H2 := Lib.hid (H2.out.below h2 H2.out.lt)
  have H4 := Lib.hid (H4.out.below h2 H4.out.lt)
  have H6 := Lib.hid (H6.out.below h2 H6.out.lt)
  have HBL := Lib.hid (HBL.out.trans (h2.mono HBL.out.size))
  clear h2
  obtain ⟨x0, x1, x2, y0, y1, y2⟩ := H4.out.three
  obtain ⟨u0, u1, u2, u3, u4⟩ := H6.out.five
  rw [show chkF true e1 = e1 from rfl]
  go_wp2_with fail
  have hw4 : Wr w1.heap.size w3 (((w3.setCell ⟨w1.heap.size, 0, none⟩ (.slice A N c)).setCell ⟨w1.heap.size, 1, none⟩ (.int .i64 (k1 : Nat))).setCell ⟨w1.heap.size, 2, none⟩ (.int .i64 e1)) := ((Wr.set w1.heap.size 0 _ _).trans (Wr.set w1.heap.size 1 _ _)).trans (Wr.set w1.heap.size 2 _ _)
  have h4 : Box (((w3.setCell ⟨w1.heap.size, 0, none⟩ (.slice A N c)).setCell ⟨w1.heap.size, 1, none⟩ (.int .i64 (k1 : Nat))).setCell ⟨w1.heap.size, 2, none⟩ (.int .i64 e1)) w1.heap.size #[.slice A N c, .int .i64 (k1 : Nat), .int .i64 e1] 34 := ((H4.out.set 0 _).set 1 _).set 2 _
  have h6 := hw4.box H6.out (by omega)
  have h1 := hw4.box H1.out (by omega)
  have h2 := hw4.box H2.out (by omega)
  have hbl : Below w.heap.size w (((w3.setCell ⟨w1.heap.size, 0, none⟩ (.slice A N c)).setCell ⟨w1.heap.size, 1, none⟩ (.int .i64 (k1 : Nat))).setCell ⟨w1.heap.size, 2, none⟩ (.int .i64 e1)) := ((HBL.out.setCell (p := ⟨w1.heap.size, 0, none⟩) (by show w.heap.size ≤ w1.heap.size; omega) _).setCell (p := ⟨w1.heap.size, 1, none⟩) (by show w.heap.size ≤ w1.heap.size; omega) _).setCell (p := ⟨w1.heap.size, 2, none⟩) (by show w.heap.size ≤ w1.heap.size; omega) _
  have H1 := Lib.hid h1
  have H2 := Lib.hid h2
  have H4 := Lib.hid h4
  have H6 := Lib.hid h6
  have HBL := Lib.hid hbl
  clear hw4 h4 h6 h1 h2 hbl x0 x1 x2 y0 y1 y2 u0 u1 u2 u3 u4
  generalize (((w3.setCell ⟨w1.heap.size, 0, none⟩ (.slice A N c)).setCell ⟨w1.heap.size, 1, none⟩ (.int .i64 (k1 : Nat))).setCell ⟨w1.heap.size, 2, none⟩ (.int .i64 e1)) = w4 at *
  generalize hG6 : w1.heap.size + 1 = G6 at *
  have hlt46 : w1.heap.size < G6 := by omega
  have hne5 : ¬ G6 = w1.heap.size := by omega
  have hne6 : ¬ w1.heap.size = G6 := by omega
  clear hG6
  generalize w1.heap.size = G4 at *
  obtain ⟨x0, x1, x2, y0, y1, y2⟩ := H4.out.three
  obtain ⟨u0, u1, u2, u3, u4⟩ := H6.out.five
  obtain ⟨t0, t1, t2, t3, t4⟩ := H6.out.frees
  refine (KNK.out _).mono ?_
  rintro r wq ⟨rfl, rfl⟩
  go_wp2_with fail
  refine (Kn.out _ HBL.out).mono ?_
  rintro r wa1 ⟨rfl, h2⟩
  have H1 := Lib.hid (H1.out.below h2 H1.out.lt)
  have H2 := Lib.hid (H2.out.below h2 H2.out.lt)
  have H4 := Lib.hid (H4.out.below h2 H4.out.lt)
  have H6 := Lib.hid (H6.out.below h2 H6.out.lt)
  have HBL := Lib.hid (HBL.out.trans (h2.mono HBL.out.size))
  have hz := H6.out.lt
  have hz4 : G4 < wa1.heap.size := by omega
  have hne1 : ¬ wa1.heap.size = G4 := by omega
  have hne2 : ¬ G4 = wa1.heap.size := by omega
  have hne3 : ¬ wa1.heap.size = G6 := by omega
  have hne4 : ¬ G6 = wa1.heap.size := by omega
  clear h2 x0 x1 x2 y0 y1 y2 u0 u1 u2 u3 u4 t0 t1 t2 t3 t4
  obtain ⟨x0, x1, x2, y0, y1, y2⟩ := H4.out.three
  obtain ⟨u0, u1, u2, u3, u4⟩ := H6.out.five
  obtain ⟨t0, t1, t2, t3, t4⟩ := H6.out.frees
  have hw4 : Wr G4 wa1 (((wa1.setCell ⟨G4, 0, none⟩ (.slice A N c)).setCell ⟨G4, 1, none⟩ (.int .i64 (kn : Nat))).setCell ⟨G4, 2, none⟩ (.int .i64 en)) := ((Wr.set G4 0 _ _).trans (Wr.set G4 1 _ _)).trans (Wr.set G4 2 _ _)
  have h4 : Box (((wa1.setCell ⟨G4, 0, none⟩ (.slice A N c)).setCell ⟨G4, 1, none⟩ (.int .i64 (kn : Nat))).setCell ⟨G4, 2, none⟩ (.int .i64 en)) G4 #[.slice A N c, .int .i64 (kn : Nat), .int .i64 en] 34 := ((H4.out.set 0 _).set 1 _).set 2 _
  have h6 := hw4.box H6.out (by omega)
  have h1 := hw4.box H1.out (by omega)
  have h2 := hw4.box H2.out (by omega)
  have hbl : Below w.heap.size w (((wa1.setCell ⟨G4, 0, none⟩ (.slice A N c)).setCell ⟨G4, 1, none⟩ (.int .i64 (kn : Nat))).setCell ⟨G4, 2, none⟩ (.int .i64 en)) := ((HBL.out.setCell (p := ⟨G4, 0, none⟩) (by show w.heap.size ≤ G4; omega) _).setCell (p := ⟨G4, 1, none⟩) (by show w.heap.size ≤ G4; omega) _).setCell (p := ⟨G4, 2, none⟩) (by show w.heap.size ≤ G4; omega) _
  have hw6 : Wr (G6) (((wa1.setCell ⟨G4, 0, none⟩ (.slice A N c)).setCell ⟨G4, 1, none⟩ (.int .i64 (kn : Nat))).setCell ⟨G4, 2, none⟩ (.int .i64 en)) ((((wa1.setCell ⟨G4, 0, none⟩ (.slice A N c)).setCell ⟨G4, 1, none⟩ (.int .i64 (kn : Nat))).setCell ⟨G4, 2, none⟩ (.int .i64 en)).setCell ⟨G6, 3, none⟩ (.int .i64 (vn : Nat))) := Wr.set (G6) 3 _ _
  have h4 := hw6.box h4 (by omega)
  have h6 : Box ((((wa1.setCell ⟨G4, 0, none⟩ (.slice A N c)).setCell ⟨G4, 1, none⟩ (.int .i64 (kn : Nat))).setCell ⟨G4, 2, none⟩ (.int .i64 en)).setCell ⟨G6, 3, none⟩ (.int .i64 (vn : Nat))) (G6) _ 41 := h6.set 3 (.int .i64 (vn : Nat))
  have h1 := hw6.box h1 (by omega)
  have h2 := hw6.box h2 (by omega)
  have hbl : Below w.heap.size w ((((wa1.setCell ⟨G4, 0, none⟩ (.slice A N c)).setCell ⟨G4, 1, none⟩ (.int .i64 (kn : Nat))).setCell ⟨G4, 2, none⟩ (.int .i64 en)).setCell ⟨G6, 3, none⟩ (.int .i64 (vn : Nat))) := hbl.setCell (p := ⟨G6, 3, none⟩) (by show w.heap.size ≤ G6; omega) _
  have hal := (Below.refl ((((wa1.setCell ⟨G4, 0, none⟩ (.slice A N c)).setCell ⟨G4, 1, none⟩ (.int .i64 (kn : Nat))).setCell ⟨G4, 2, none⟩ (.int .i64 en)).setCell ⟨G6, 3, none⟩ (.int .i64 (vn : Nat))).heap.size ((((wa1.setCell ⟨G4, 0, none⟩ (.slice A N c)).setCell ⟨G4, 1, none⟩ (.int .i64 (kn : Nat))).setCell ⟨G4, 2, none⟩ (.int .i64 en)).setCell ⟨G6, 3, none⟩ (.int .i64 (vn : Nat)))).alloc (Nat.le_refl _) (.cells #[.slice A N c, .int .i64 (kn : Nat), .int .i64 en] 34)
  have h4 := h4.below hal h4.lt
  have h6 := h6.below hal h6.lt
  have h1 := h1.below hal h1.lt
  have h2 := h2.below hal h2.lt
  have hbl := hbl.trans (hal.mono hbl.size)
  have H1 := Lib.hid h1
  have H2 := Lib.hid h2
  have H4 := Lib.hid h4
  have H6 := Lib.hid h6
  have HBL := Lib.hid hbl
  clear hw4 hw6 h4 h6 h1 h2 hbl hal
  go_upto_region 21 with fail
  generalize (((((wa1.setCell ⟨G4, 0, none⟩ (.slice A N c)).setCell ⟨G4, 1, none⟩ (.int .i64 (kn : Nat))).setCell ⟨G4, 2, none⟩ (.int .i64 en)).setCell ⟨G6, 3, none⟩ (.int .i64 (vn : Nat))).alloc (.cells #[.slice A N c, .int .i64 (kn : Nat), .int .i64 en] 34)) = wb1 at *
  clear x0 x1 x2 y0 y1 y2 u0 u1 u2 u3 u4 t0 t1 t2 t3 t4 hne1 hne2 hne3 hne4 hz hz4
  obtain ⟨x0, x1, x2, y0, y1, y2⟩ := H4.out.three
  obtain ⟨u0, u1, u2, u3, u4⟩ := H6.out.five
  obtain ⟨t0, t1, t2, t3, t4⟩ := H6.out.frees
  have HO : Hid (wb1.ownsRow (G6 + 1) 3 1 (.slice none ([] : List Int).length 0) ([] : List Int).length (litI [])) := World.ownsRow_nil _ _ _ _
  obtain ⟨A9, c9, e9, q1, q2, q3⟩ := lies_ownI HO.out
  cases e9
  obtain ⟨oA, oc, hv, ho⟩ := HCH.out none 0
  have kq := KRA.out kd 0 vn 0 ([] : List Int) none 0 wb1.drew (q3.below (Below.refl wb1.heap.size wb1).drew)
  try simp only [List.length_nil] at kq hv
  try rw [show ((0 : Nat) : Int) = 0 from rfl] at kq
  have KQ := Lib.hid kq
  clear kq q1 q2 q3
  generalize hRR : rightA (kd : Nat) (0 : Nat) (vn : Nat) (0 : Nat) ([] : List Int) = R at *
  have HRR := Lib.hid hRR
  clear hRR
  have HV := Lib.hid hv
  have HOO := Lib.hid ho
  clear hv ho HCH
  have hd := (Below.refl wb1.heap.size wb1).drew
  obtain ⟨x0', x1', x2', y0', y1', y2'⟩ := (box_drew21 H4.out).three
  obtain ⟨u0', u1', u2', u3', u4'⟩ := (box_drew21 H6.out).five
  go_region_with (first | (go_at_call 26; refine Calls.mono KQ.out ?_; rintro r w5 ⟨rfl, g2⟩; have g3 := hd.trans g2; have H1 := Lib.hid (H1.out.below g3 H1.out.lt); have H2 := Lib.hid (H2.out.below g3 H2.out.lt); have H4 := Lib.hid (H4.out.below g3 H4.out.lt); have H6 := Lib.hid (H6.out.below g3 H6.out.lt); have HBL := Lib.hid (HBL.out.trans (g3.mono HBL.out.size)); have HO := Lib.hid (ownI_below HO.out g3); clear g2 g3; obtain ⟨x0, x1, x2, y0, y1, y2⟩ := H4.out.three; obtain ⟨u0, u1, u2, u3, u4⟩ := H6.out.five) | (go_at_call 98; refine Calls.mono (KFM.out kn en R _) ?_; rintro r w6 ⟨rfl, g3⟩; have H1 := Lib.hid (H1.out.below g3 H1.out.lt); have H2 := Lib.hid (H2.out.below g3 H2.out.lt); have H4 := Lib.hid (H4.out.below g3 H4.out.lt); have H6 := Lib.hid (H6.out.below g3 H6.out.lt); have HBL := Lib.hid (HBL.out.trans (g3.mono HBL.out.size)); have HO := Lib.hid (ownI_below HO.out g3); clear g3; obtain ⟨x0, x1, x2, y0, y1, y2⟩ := H4.out.three; obtain ⟨u0, u1, u2, u3, u4⟩ := H6.out.five))
  all_goals
    generalize hEE : chkF R en = E at *
    have HEE := Lib.hid hEE
    clear hEE
    have hw4 : Wr G4 w6 (((w6.setCell ⟨G4, 0, none⟩ (.slice A N c)).setCell ⟨G4, 1, none⟩ (.int .i64 (kn : Nat))).setCell ⟨G4, 2, none⟩ (.int .i64 E)) := ((Wr.set G4 0 _ _).trans (Wr.set G4 1 _ _)).trans (Wr.set G4 2 _ _)
    have h4 : Box (((w6.setCell ⟨G4, 0, none⟩ (.slice A N c)).setCell ⟨G4, 1, none⟩ (.int .i64 (kn : Nat))).setCell ⟨G4, 2, none⟩ (.int .i64 E)) G4 #[.slice A N c, .int .i64 (kn : Nat), .int .i64 E] 34 := ((H4.out.set 0 _).set 1 _).set 2 _
    have h6 := hw4.box H6.out (by omega)
    have h1 := hw4.box H1.out (by omega)
    have h2 := hw4.box H2.out (by omega)
    have hbl : Below w.heap.size w (((w6.setCell ⟨G4, 0, none⟩ (.slice A N c)).setCell ⟨G4, 1, none⟩ (.int .i64 (kn : Nat))).setCell ⟨G4, 2, none⟩ (.int .i64 E)) := ((HBL.out.setCell (p := ⟨G4, 0, none⟩) (by show w.heap.size ≤ G4; omega) _).setCell (p := ⟨G4, 1, none⟩) (by show w.heap.size ≤ G4; omega) _).setCell (p := ⟨G4, 2, none⟩) (by show w.heap.size ≤ G4; omega) _
    have ho := ownI_wr2 HO.out hw4 (by omega)
    have H1 := Lib.hid h1
    have H2 := Lib.hid h2
    have H4 := Lib.hid h4
    have H6 := Lib.hid h6
    have HBL := Lib.hid hbl
    have HO := Lib.hid ho
    clear ho hw4 h4 h6 h1 h2 hbl
    go_upto_region 22 with fail
    generalize (((w6.setCell ⟨G4, 0, none⟩ (.slice A N c)).setCell ⟨G4, 1, none⟩ (.int .i64 (kn : Nat))).setCell ⟨G4, 2, none⟩ (.int .i64 E)) = w7 at *
    obtain ⟨x0, x1, x2, y0, y1, y2⟩ := H4.out.three
    obtain ⟨u0, u1, u2, u3, u4⟩ := H6.out.five
    obtain ⟨a0, a1, a2, b0, b1, b2⟩ := H1.out.three
    obtain ⟨c0, c1, c2, c3, c4⟩ := H2.out.five
    obtain ⟨d0, d1, d2, d3, d4⟩ := H2.out.frees
    have n1 : ¬ w.heap.size + 1 = G4 := by omega
    have n2 : ¬ G4 = w.heap.size + 1 := by omega
    have n3 : ¬ w.heap.size + 1 + 1 = G4 := by omega
    have n4 : ¬ G4 = w.heap.size + 1 + 1 := by omega
    have n5 : ¬ w.heap.size + 1 = G6 := by omega
    have n6 : ¬ w.heap.size + 1 + 1 = G6 := by omega
    have hv := HV.out
    by_cases hE : E = 0
    · subst hE
      rw [if_pos rfl] at hv
      clear HV HEE HRR
      have HVV := Lib.hid hv
      clear hv
      obtain ⟨x0', x1', x2', y0', y1', y2'⟩ := (box_drew21 H4.out).three
      obtain ⟨u0', u1', u2', u3', u4'⟩ := (box_drewI H6.out).five
      obtain ⟨a0', a1', a2', b0', b1', b2'⟩ := (box_drewI H1.out).three
      obtain ⟨c0', c1', c2', c3', c4'⟩ := (box_drewI H2.out).five
      obtain ⟨d0', d1', d2', d3', d4'⟩ := (box_drewI H2.out).frees
      go_wp2
      go_region
      go_wp2
      have h1a := (((H1.out).set 0 (.slice A N c)).set 1 (.int .i64 (kn : Nat))).set 2 (.int .i64 0)
      have h1f := ((Wr.set (w.heap.size + 1 + 1) 4 _ (.int .i64 0)).box ((Wr.set (w.heap.size + 1 + 1) 3 _ (.int .i64 (vn : Nat))).box ((Wr.set (w.heap.size + 1 + 1) 2 _ (.slice none 0 0)).box ((Wr.set (w.heap.size + 1 + 1) 1 _ (.int .i64 0)).box ((Wr.set (w.heap.size + 1 + 1) 0 _ (.int .i64 (kd : Nat))).box h1a (by omega)) (by omega)) (by omega)) (by omega)) (by omega))
      have h2f := (((((((Wr.set (w.heap.size + 1) 2 _ (.int .i64 0)).box ((Wr.set (w.heap.size + 1) 1 _ (.int .i64 (kn : Nat))).box ((Wr.set (w.heap.size + 1) 0 _ (.slice A N c)).box (H2.out) (by omega)) (by omega)) (by omega)).set 0 (.int .i64 (kd : Nat))).set 1 (.int .i64 0)).set 2 (.slice none 0 0)).set 3 (.int .i64 (vn : Nat))).set 4 (.int .i64 0))
      have hof := (ownI_wr2 (ownI_wr2 (ownI_wr2 (ownI_wr2 (ownI_wr2 (ownI_wr2 (ownI_wr2 (ownI_wr2 HO.out (Wr.set (w.heap.size + 1) 0 _ (.slice A N c)) (by omega)) (Wr.set (w.heap.size + 1) 1 _ (.int .i64 (kn : Nat))) (by omega)) (Wr.set (w.heap.size + 1) 2 _ (.int .i64 0)) (by omega)) (Wr.set (w.heap.size + 1 + 1) 0 _ (.int .i64 (kd : Nat))) (by omega)) (Wr.set (w.heap.size + 1 + 1) 1 _ (.int .i64 0)) (by omega)) (Wr.set (w.heap.size + 1 + 1) 2 _ (.slice none 0 0)) (by omega)) (Wr.set (w.heap.size + 1 + 1) 3 _ (.int .i64 (vn : Nat))) (by omega)) (Wr.set (w.heap.size + 1 + 1) 4 _ (.int .i64 0)) (by omega))
      have hbf := ((((((((HBL.out.setCell (p := ⟨w.heap.size + 1, 0, none⟩) (by show w.heap.size ≤ w.heap.size + 1; omega) (.slice A N c)).setCell (p := ⟨w.heap.size + 1, 1, none⟩) (by show w.heap.size ≤ w.heap.size + 1; omega) (.int .i64 (kn : Nat))).setCell (p := ⟨w.heap.size + 1, 2, none⟩) (by show w.heap.size ≤ w.heap.size + 1; omega) (.int .i64 0)).setCell (p := ⟨w.heap.size + 1 + 1, 0, none⟩) (by show w.heap.size ≤ w.heap.size + 1 + 1; omega) (.int .i64 (kd : Nat))).setCell (p := ⟨w.heap.size + 1 + 1, 1, none⟩) (by show w.heap.size ≤ w.heap.size + 1 + 1; omega) (.int .i64 0)).setCell (p := ⟨w.heap.size + 1 + 1, 2, none⟩) (by show w.heap.size ≤ w.heap.size + 1 + 1; omega) (.slice none 0 0)).setCell (p := ⟨w.heap.size + 1 + 1, 3, none⟩) (by show w.heap.size ≤ w.heap.size + 1 + 1; omega) (.int .i64 (vn : Nat))).setCell (p := ⟨w.heap.size + 1 + 1, 4, none⟩) (by show w.heap.size ≤ w.heap.size + 1 + 1; omega) (.int .i64 0))
      have h1f := box_drewI h1f
      have h2f := box_drewI h2f
      have hof := World.ownsRow.drew hof
      have hbf := hbf.drew
      have HF1 := Lib.hid h1f
      have HF2 := Lib.hid h2f
      have HOF := Lib.hid hof
      have HBF := Lib.hid hbf
      clear h1a h1f h2f hof hbf
      generalize (((((((((w7.setCell ⟨w.heap.size + 1, 0, none⟩ (.slice A N c)).setCell ⟨w.heap.size + 1, 1, none⟩ (.int .i64 (kn : Nat))).setCell ⟨w.heap.size + 1, 2, none⟩ (.int .i64 0)).setCell ⟨w.heap.size + 1 + 1, 0, none⟩ (.int .i64 (kd : Nat))).setCell ⟨w.heap.size + 1 + 1, 1, none⟩ (.int .i64 0)).setCell ⟨w.heap.size + 1 + 1, 2, none⟩ (.slice none 0 0)).setCell ⟨w.heap.size + 1 + 1, 3, none⟩ (.int .i64 (vn : Nat))).setCell ⟨w.heap.size + 1 + 1, 4, none⟩ (.int .i64 0)).drew) = w8 at *
      have h1f := HF1.out
      have h2f := HF2.out
      clear a0 a1 a2 b0 b1 b2 c0 c1 c2 c3 c4 d0 d1 d2 d3 d4 x0 x1 x2 y0 y1 y2 u0 u1 u2 u3 u4
      have s0 := h1f.cell 0
      have s1 := h1f.cell 1
      have s2 := h1f.cell 2
      have s3 := h2f.cell 0
      have s4 := h2f.cell 1
      have s5 := h2f.cell 2
      have s6 := h2f.cell 3
      have s7 := h2f.cell 4
      refine bodyPost_ret (v := .tuple #[.agg #[.slice A N c, .int .i64 (kn : Nat), .int .i64 0], .agg #[.int .i64 (kd : Nat), .int .i64 0, .slice none 0 0, .int .i64 (vn : Nat), .int .i64 0]]) (by simp [results, Try.results28, go_sem, s0, s1, s2, s3, s4, s5, s6, s7]) rfl ⟨⟨oA, oc, ?_, ?_⟩, ?_⟩
      · rw [HO1.out.1, HO1.out.2, ← HVV.out]
      · have hz9 := HOO.out _ _ HOF.out
        obtain ⟨A8, c8, e8, -, -, g8⟩ := lies_ownI hz9
        cases e8
        exact g8
      · exact HBF.out
    · rw [if_neg hE] at hv
      have g1 : (E == 0) = false := by simpa using hE
      have g2 : (E != 0) = true := by simpa using hE
      clear HV HEE HRR hE
      have HVV := Lib.hid hv
      clear hv
      go_wp2
      have h1a := (((H1.out).set 0 (.slice A N c)).set 1 (.int .i64 (kn : Nat))).set 2 (.int .i64 E)
      have h1f := ((Wr.set (w.heap.size + 1 + 1) 4 _ (.int .i64 0)).box ((Wr.set (w.heap.size + 1 + 1) 3 _ (.int .i64 0)).box ((Wr.set (w.heap.size + 1 + 1) 2 _ (.slice none 0 0)).box ((Wr.set (w.heap.size + 1 + 1) 1 _ (.int .i64 0)).box ((Wr.set (w.heap.size + 1 + 1) 0 _ (.int .i64 0)).box h1a (by omega)) (by omega)) (by omega)) (by omega)) (by omega))
      have h2f := (((((((Wr.set (w.heap.size + 1) 2 _ (.int .i64 E)).box ((Wr.set (w.heap.size + 1) 1 _ (.int .i64 (kn : Nat))).box ((Wr.set (w.heap.size + 1) 0 _ (.slice A N c)).box (H2.out) (by omega)) (by omega)) (by omega)).set 0 (.int .i64 0)).set 1 (.int .i64 0)).set 2 (.slice none 0 0)).set 3 (.int .i64 0)).set 4 (.int .i64 0))
      have hof := (ownI_wr2 (ownI_wr2 (ownI_wr2 (ownI_wr2 (ownI_wr2 (ownI_wr2 (ownI_wr2 (ownI_wr2 HO.out (Wr.set (w.heap.size + 1) 0 _ (.slice A N c)) (by omega)) (Wr.set (w.heap.size + 1) 1 _ (.int .i64 (kn : Nat))) (by omega)) (Wr.set (w.heap.size + 1) 2 _ (.int .i64 E)) (by omega)) (Wr.set (w.heap.size + 1 + 1) 0 _ (.int .i64 0)) (by omega)) (Wr.set (w.heap.size + 1 + 1) 1 _ (.int .i64 0)) (by omega)) (Wr.set (w.heap.size + 1 + 1) 2 _ (.slice none 0 0)) (by omega)) (Wr.set (w.heap.size + 1 + 1) 3 _ (.int .i64 0)) (by omega)) (Wr.set (w.heap.size + 1 + 1) 4 _ (.int .i64 0)) (by omega))
      have hbf := ((((((((HBL.out.setCell (p := ⟨w.heap.size + 1, 0, none⟩) (by show w.heap.size ≤ w.heap.size + 1; omega) (.slice A N c)).setCell (p := ⟨w.heap.size + 1, 1, none⟩) (by show w.heap.size ≤ w.heap.size + 1; omega) (.int .i64 (kn : Nat))).setCell (p := ⟨w.heap.size + 1, 2, none⟩) (by show w.heap.size ≤ w.heap.size + 1; omega) (.int .i64 E)).setCell (p := ⟨w.heap.size + 1 + 1, 0, none⟩) (by show w.heap.size ≤ w.heap.size + 1 + 1; omega) (.int .i64 0)).setCell (p := ⟨w.heap.size + 1 + 1, 1, none⟩) (by show w.heap.size ≤ w.heap.size + 1 + 1; omega) (.int .i64 0)).setCell (p := ⟨w.heap.size + 1 + 1, 2, none⟩) (by show w.heap.size ≤ w.heap.size + 1 + 1; omega) (.slice none 0 0)).setCell (p := ⟨w.heap.size + 1 + 1, 3, none⟩) (by show w.heap.size ≤ w.heap.size + 1 + 1; omega) (.int .i64 0)).setCell (p := ⟨w.heap.size + 1 + 1, 4, none⟩) (by show w.heap.size ≤ w.heap.size + 1 + 1; omega) (.int .i64 0))
      have HF1 := Lib.hid h1f
      have HF2 := Lib.hid h2f
      have HOF := Lib.hid hof
      have HBF := Lib.hid hbf
      clear h1a h1f h2f hof hbf
      generalize ((((((((w7.setCell ⟨w.heap.size + 1, 0, none⟩ (.slice A N c)).setCell ⟨w.heap.size + 1, 1, none⟩ (.int .i64 (kn : Nat))).setCell ⟨w.heap.size + 1, 2, none⟩ (.int .i64 E)).setCell ⟨w.heap.size + 1 + 1, 0, none⟩ (.int .i64 0)).setCell ⟨w.heap.size + 1 + 1, 1, none⟩ (.int .i64 0)).setCell ⟨w.heap.size + 1 + 1, 2, none⟩ (.slice none 0 0)).setCell ⟨w.heap.size + 1 + 1, 3, none⟩ (.int .i64 0)).setCell ⟨w.heap.size + 1 + 1, 4, none⟩ (.int .i64 0)) = w8 at *
      have h1f := HF1.out
      have h2f := HF2.out
      clear a0 a1 a2 b0 b1 b2 c0 c1 c2 c3 c4 d0 d1 d2 d3 d4 x0 x1 x2 y0 y1 y2 u0 u1 u2 u3 u4
      have s0 := h1f.cell 0
      have s1 := h1f.cell 1
      have s2 := h1f.cell 2
      have s3 := h2f.cell 0
      have s4 := h2f.cell 1
      have s5 := h2f.cell 2
      have s6 := h2f.cell 3
      have s7 := h2f.cell 4
      refine bodyPost_ret (v := .tuple #[.agg #[.slice A N c, .int .i64 (kn : Nat), .int .i64 E], .agg #[.int .i64 0, .int .i64 0, .slice none 0 0, .int .i64 0, .int .i64 0]]) (by simp [results, Try.results28, go_sem, s0, s1, s2, s3, s4, s5, s6, s7]) rfl ⟨⟨oA, oc, ?_, ?_⟩, ?_⟩
      · rw [HO1.out.1, HO1.out.2, ← HVV.out]
      · have hz9 := HOO.out _ _ HOF.out
        obtain ⟨A8, c8, e8, -, -, g8⟩ := lies_ownI hz9
        cases e8
        exact g8
      · exact HBF.out
end Go.Proofs.Ytpoemflclbhekaa

/-! Layer 22 (item): requests read, in the reference: GetAsk, ways (4,). -/
namespace Go.Proofs.Ytpoemflclbhekaa
open Go.RowKit
set_option linter.unusedVariables false
set_option linter.unusedSimpArgs false

set_option maxRecDepth 100000 in
set_option maxHeartbeats 16000000 in
theorem ref_GetAsk_w4 (b : List Int) (A : Option Addr) (c k : Nat) (e : Int) (w : World) (hA : LiesY w w.heap.size A b) (hb : byt b) (hl : b.length ≤ 1000000) (hk : k ≤ b.length) (hp : okK ((rN b k e 1099511627776).2 : Int) = true ∧ nmI ((rN b k e 1099511627776).2 : Int) = false ∧ nmX ((rN b k e 1099511627776).2 : Int) = false ∧ nmN ((rN b k e 1099511627776).2 : Int) = false ∧ nmM ((rN b k e 1099511627776).2 : Int) = false) : Calls Try.prog 28 #[.agg #[.slice A b.length c, .int .i64 (k : Nat), .int .i64 e]] w (GivesRA A b.length c (gA b k e) w) := by
  have i2 : I64 1099511627776 := by unfold I64; omega
  have i8 : I64 8 := by unfold I64; omega
  have KRN : Hid (∀ (W : World) (s : Nat × Int), Below w.heap.size w W → s.1 ≤ b.length → Calls Try.prog 97 #[.agg #[.slice A b.length c, .int .i64 (s.1 : Nat), .int .i64 s.2], .int .i64 1099511627776] W fun r w' => r = .returned (.tuple #[.agg #[.slice A b.length c, .int .i64 ((rdI b true s).1.1 : Nat), .int .i64 (rdI b true s).1.2], .int .i64 ((rdI b true s).2 : Nat)]) ∧ Below W.heap.size W w') := fun W s h hs => ref_ReadN21 b A c s.1 s.2 1099511627776 i2 W ((hA.below h).mono h.size) hb hl hs
  have KRL : Hid (∀ (W : World) (s : Nat × Int), Below w.heap.size w W → s.1 ≤ b.length → Calls Try.prog 111 #[.agg #[.slice A b.length c, .int .i64 (s.1 : Nat), .int .i64 s.2], .int .i64 8] W fun r w' => ∃ A2 c2, r = .returned (.tuple #[.agg #[.slice A b.length c, .int .i64 ((rdX b true s).1.1 : Nat), .int .i64 (rdX b true s).1.2], .slice A2 (rdX b true s).2.length c2]) ∧ w'.ownsRow W.heap.size 3 1 (.slice A2 (rdX b true s).2.length c2) (rdX b true s).2.length (litI (rdX b true s).2) ∧ Below W.heap.size W w') := fun W s h hs => ref_ReadL21 b A c s.1 s.2 8 i8 W ((hA.below h).mono h.size) hb hl hs
  have HPI : Hid (∀ s : Nat × Int, s.1 ≤ b.length → (rdI b true s).1.1 ≤ b.length) := fun s h => rN_at hb h s.2 1099511627776
  have HPX : Hid (∀ s : Nat × Int, s.1 ≤ b.length → (rdX b true s).1.1 ≤ b.length) := fun s h => rL_at hb h s.2 8
  have K1 := Lib.hid (KRN.out)
  have HK0 : Hid ((rN b k e 1099511627776).1.1 ≤ b.length) := rN_at hb hk e _
  have KFM := Lib.hid (fun (kk : Nat) (ee : Int) (q : Bool) W => ref_form A b.length c kk ee q W)
  have KRA := Lib.hid (fun (kind id n m : Nat) (X : List Int) (AX : Option Addr) (cX : Nat) (W : World) (hX : Lies W W.heap.size AX X) => ref_RightAsk kind id n m X AX cX W hX)
  obtain ⟨hX, hX0, hW⟩ := box_r w A b.length c (k : Nat) e
  have hb3 := hW.alloc hW.size (.cells #[.int .i64 0, .int .i64 0, .slice none 0 0, .int .i64 0, .int .i64 0] 41)
  have h2n := Box.new ((w.alloc (.cells #[.slice A b.length c, .int .i64 (k : Nat), .int .i64 e] 34)).alloc (.cells #[.slice none 0 0, .int .i64 0, .int .i64 0] 34)) #[.int .i64 0, .int .i64 0, .slice none 0 0, .int .i64 0, .int .i64 0] 41
  rw [alloc_size', alloc_size'] at h2n
  have H1 := Lib.hid (hX.alloc (.cells #[.int .i64 0, .int .i64 0, .slice none 0 0, .int .i64 0, .int .i64 0] 41))
  have H2 := Lib.hid h2n
  have HBL := Lib.hid hb3
  have K0 := Lib.hid (KRN.out _ (k, e) hb3 hk)
  rw [show (rdI b true (k, e)) = rN b k e 1099511627776 from rfl] at K0
  have KNM := Lib.hid (fun (j : Nat) W => ref_names (j : Int) W)
  unfold gA
  obtain ⟨r1, hr1⟩ : ∃ r1, r1 = rN b k e 1099511627776 := ⟨_, rfl⟩
  rw [← hr1] at K0 HK0 hp ⊢
  clear hr1 hX hX0 hW hb3 h2n hA K1
  obtain ⟨⟨k1, e1⟩, kd⟩ := r1
  simp only at K0 HK0 hp ⊢
  generalize b.length = N at *
  obtain ⟨hok, p1, p2, p3, p4⟩ := hp
  obtain ⟨hk1, hk7⟩ := of_decide_eq_true hok
  rw [hok]
  rw [show chkF true e1 = e1 from rfl]
  have KNK := Lib.hid (KNM.out kd)
  rw [p1, p2, p3, p4] at KNK
  rw [p1, p2, p3, p4]
  clear p1 p2 p3 p4 hok KNM
  rw [show gA5 b false false false false kd (k1, e1) = finA kd 0 ([] : List Int) 0 ((k1, e1), 0) from rfl]
  obtain ⟨out, hout⟩ : ∃ out, out = finA kd 0 ([] : List Int) 0 ((k1, e1), 0) := ⟨_, rfl⟩
  rw [← hout]
  have HO1 : Hid (out.1.1 = k1 ∧ out.1.2 = chkF (rightA (kd : Nat) (0 : Nat) (0 : Nat) (0 : Nat) ([] : List Int)) e1) := by rw [hout]; exact ⟨rfl, rfl⟩
  have HCH : Hid (∀ AX cX, ∃ oA oc, (if chkF (rightA (kd : Nat) (0 : Nat) (0 : Nat) (0 : Nat) ([] : List Int)) e1 = 0 then Value.agg #[.int .i64 (kd : Nat), .int .i64 0, .slice AX 0 cX, .int .i64 0, .int .i64 0] else .agg #[.int .i64 0, .int .i64 0, .slice none 0 0, .int .i64 0, .int .i64 0]) = .agg #[.int .i64 (out.2.1 : Nat), .int .i64 (out.2.2.1 : Nat), .slice oA out.2.2.2.1.length oc, .int .i64 (out.2.2.2.2.1 : Nat), .int .i64 (out.2.2.2.2.2 : Nat)] ∧ ∀ (W : World) (B : Nat), W.ownsRow B 3 1 (.slice AX 0 cX) 0 (litI ([] : List Int)) → W.ownsRow B 3 1 (.slice oA out.2.2.2.1.length oc) out.2.2.2.1.length (litI out.2.2.2.1)) := fun AX cX => by rw [hout]; exact chk_out kd 0 0 ([] : List Int) ((k1, e1), 0) AX cX
  clear hout
  go_enter Try.func28, Try.ntmps28
  go_wp2_with fail
  refine (K0.out).mono ?_
  rintro r w1 ⟨rfl, h2⟩
  have hsz1 : w.heap.size + 3 ≤ w1.heap.size := by have := h2.size; rw [alloc_size', alloc_size', alloc_size'] at this; omega
  have hal := (Below.refl w1.heap.size w1).alloc (Nat.le_refl _) (.cells #[.slice A N c, .int .i64 (k1 : Nat), .int .i64 e1] 34)
  have hal2 := hal.alloc hal.size (.cells #[.int .i64 (kd : Nat), .int .i64 0, .slice none 0 0, .int .i64 0, .int .i64 0] 41)
  have H1 := Lib.hid ((H1.out.below h2 H1.out.lt).below hal2 (H1.out.below h2 H1.out.lt).lt)
  have H2 := Lib.hid ((H2.out.below h2 H2.out.lt).below hal2 (H2.out.below h2 H2.out.lt).lt)
  have H4 := Lib.hid ((Box.new w1 #[.slice A N c, .int .i64 (k1 : Nat), .int .i64 e1] 34).alloc (.cells #[.int .i64 (kd : Nat), .int .i64 0, .slice none 0 0, .int .i64 0, .int .i64 0] 41))
  have h6 := Box.new (w1.alloc (.cells #[.slice A N c, .int .i64 (k1 : Nat), .int .i64 e1] 34)) #[.int .i64 (kd : Nat), .int .i64 0, .slice none 0 0, .int .i64 0, .int .i64 0] 41
  rw [alloc_size'] at h6
  have H6 := Lib.hid h6
  have HBL := Lib.hid ((HBL.out.trans (h2.mono HBL.out.size)).trans (hal2.mono (Nat.le_trans HBL.out.size h2.size)))
  clear h2 hal hal2 h6 K0
  go_wp2_with fail
  refine (KFM.out k1 e1 true _).mono ?_
  rintro r w3 ⟨rfl, h2⟩
  have H1 := Lib.hid (H1.out.below h2 H1.out.lt)
  have H2 := Lib.hid (H2.out.below h2 H2.out.lt)
  have H4 := Lib.hid (H4.out.below h2 H4.out.lt)
  have H6 := Lib.hid (H6.out.below h2 H6.out.lt)
  have HBL := Lib.hid (HBL.out.trans (h2.mono HBL.out.size))
  clear h2
  obtain ⟨x0, x1, x2, y0, y1, y2⟩ := H4.out.three
  obtain ⟨u0, u1, u2, u3, u4⟩ := H6.out.five
  rw [show chkF true e1 = e1 from rfl]
  go_wp2_with fail
  have hw4 : Wr w1.heap.size w3 (((w3.setCell ⟨w1.heap.size, 0, none⟩ (.slice A N c)).setCell ⟨w1.heap.size, 1, none⟩ (.int .i64 (k1 : Nat))).setCell ⟨w1.heap.size, 2, none⟩ (.int .i64 e1)) := ((Wr.set w1.heap.size 0 _ _).trans (Wr.set w1.heap.size 1 _ _)).trans (Wr.set w1.heap.size 2 _ _)
  have h4 : Box (((w3.setCell ⟨w1.heap.size, 0, none⟩ (.slice A N c)).setCell ⟨w1.heap.size, 1, none⟩ (.int .i64 (k1 : Nat))).setCell ⟨w1.heap.size, 2, none⟩ (.int .i64 e1)) w1.heap.size #[.slice A N c, .int .i64 (k1 : Nat), .int .i64 e1] 34 := ((H4.out.set 0 _).set 1 _).set 2 _
  have h6 := hw4.box H6.out (by omega)
  have h1 := hw4.box H1.out (by omega)
  have h2 := hw4.box H2.out (by omega)
  have hbl : Below w.heap.size w (((w3.setCell ⟨w1.heap.size, 0, none⟩ (.slice A N c)).setCell ⟨w1.heap.size, 1, none⟩ (.int .i64 (k1 : Nat))).setCell ⟨w1.heap.size, 2, none⟩ (.int .i64 e1)) := ((HBL.out.setCell (p := ⟨w1.heap.size, 0, none⟩) (by show w.heap.size ≤ w1.heap.size; omega) _).setCell (p := ⟨w1.heap.size, 1, none⟩) (by show w.heap.size ≤ w1.heap.size; omega) _).setCell (p := ⟨w1.heap.size, 2, none⟩) (by show w.heap.size ≤ w1.heap.size; omega) _
  have H1 := Lib.hid h1
  have H2 := Lib.hid h2
  have H4 := Lib.hid h4
  have H6 := Lib.hid h6
  have HBL := Lib.hid hbl
  clear hw4 h4 h6 h1 h2 hbl x0 x1 x2 y0 y1 y2 u0 u1 u2 u3 u4
  generalize (((w3.setCell ⟨w1.heap.size, 0, none⟩ (.slice A N c)).setCell ⟨w1.heap.size, 1, none⟩ (.int .i64 (k1 : Nat))).setCell ⟨w1.heap.size, 2, none⟩ (.int .i64 e1)) = w4 at *
  generalize hG6 : w1.heap.size + 1 = G6 at *
  have hlt46 : w1.heap.size < G6 := by omega
  have hne5 : ¬ G6 = w1.heap.size := by omega
  have hne6 : ¬ w1.heap.size = G6 := by omega
  clear hG6
  generalize w1.heap.size = G4 at *
  obtain ⟨x0, x1, x2, y0, y1, y2⟩ := H4.out.three
  obtain ⟨u0, u1, u2, u3, u4⟩ := H6.out.five
  obtain ⟨t0, t1, t2, t3, t4⟩ := H6.out.frees
  refine (KNK.out _).mono ?_
  rintro r wq ⟨rfl, rfl⟩
  go_upto_region 21 with fail
  have HO : Hid (w4.ownsRow (G6 + 1) 3 1 (.slice none ([] : List Int).length 0) ([] : List Int).length (litI [])) := World.ownsRow_nil _ _ _ _
  obtain ⟨A9, c9, e9, q1, q2, q3⟩ := lies_ownI HO.out
  cases e9
  obtain ⟨oA, oc, hv, ho⟩ := HCH.out none 0
  have kq := KRA.out kd 0 0 0 ([] : List Int) none 0 w4.drew (q3.below (Below.refl w4.heap.size w4).drew)
  try simp only [List.length_nil] at kq hv
  try rw [show ((0 : Nat) : Int) = 0 from rfl] at kq
  have KQ := Lib.hid kq
  clear kq q1 q2 q3
  generalize hRR : rightA (kd : Nat) (0 : Nat) (0 : Nat) (0 : Nat) ([] : List Int) = R at *
  have HRR := Lib.hid hRR
  clear hRR
  have HV := Lib.hid hv
  have HOO := Lib.hid ho
  clear hv ho HCH
  have hd := (Below.refl w4.heap.size w4).drew
  obtain ⟨x0', x1', x2', y0', y1', y2'⟩ := (box_drew21 H4.out).three
  obtain ⟨u0', u1', u2', u3', u4'⟩ := (box_drew21 H6.out).five
  go_region_with (first | (go_at_call 26; refine Calls.mono KQ.out ?_; rintro r w5 ⟨rfl, g2⟩; have g3 := hd.trans g2; have H1 := Lib.hid (H1.out.below g3 H1.out.lt); have H2 := Lib.hid (H2.out.below g3 H2.out.lt); have H4 := Lib.hid (H4.out.below g3 H4.out.lt); have H6 := Lib.hid (H6.out.below g3 H6.out.lt); have HBL := Lib.hid (HBL.out.trans (g3.mono HBL.out.size)); have HO := Lib.hid (ownI_below HO.out g3); clear g2 g3; obtain ⟨x0, x1, x2, y0, y1, y2⟩ := H4.out.three; obtain ⟨u0, u1, u2, u3, u4⟩ := H6.out.five) | (go_at_call 98; refine Calls.mono (KFM.out k1 e1 R _) ?_; rintro r w6 ⟨rfl, g3⟩; have H1 := Lib.hid (H1.out.below g3 H1.out.lt); have H2 := Lib.hid (H2.out.below g3 H2.out.lt); have H4 := Lib.hid (H4.out.below g3 H4.out.lt); have H6 := Lib.hid (H6.out.below g3 H6.out.lt); have HBL := Lib.hid (HBL.out.trans (g3.mono HBL.out.size)); have HO := Lib.hid (ownI_below HO.out g3); clear g3; obtain ⟨x0, x1, x2, y0, y1, y2⟩ := H4.out.three; obtain ⟨u0, u1, u2, u3, u4⟩ := H6.out.five))
  all_goals
    generalize hEE : chkF R e1 = E at *
    have HEE := Lib.hid hEE
    clear hEE
    have hw4 : Wr G4 w6 (((w6.setCell ⟨G4, 0, none⟩ (.slice A N c)).setCell ⟨G4, 1, none⟩ (.int .i64 (k1 : Nat))).setCell ⟨G4, 2, none⟩ (.int .i64 E)) := ((Wr.set G4 0 _ _).trans (Wr.set G4 1 _ _)).trans (Wr.set G4 2 _ _)
    have h4 : Box (((w6.setCell ⟨G4, 0, none⟩ (.slice A N c)).setCell ⟨G4, 1, none⟩ (.int .i64 (k1 : Nat))).setCell ⟨G4, 2, none⟩ (.int .i64 E)) G4 #[.slice A N c, .int .i64 (k1 : Nat), .int .i64 E] 34 := ((H4.out.set 0 _).set 1 _).set 2 _
    have h6 := hw4.box H6.out (by omega)
    have h1 := hw4.box H1.out (by omega)
    have h2 := hw4.box H2.out (by omega)
    have hbl : Below w.heap.size w (((w6.setCell ⟨G4, 0, none⟩ (.slice A N c)).setCell ⟨G4, 1, none⟩ (.int .i64 (k1 : Nat))).setCell ⟨G4, 2, none⟩ (.int .i64 E)) := ((HBL.out.setCell (p := ⟨G4, 0, none⟩) (by show w.heap.size ≤ G4; omega) _).setCell (p := ⟨G4, 1, none⟩) (by show w.heap.size ≤ G4; omega) _).setCell (p := ⟨G4, 2, none⟩) (by show w.heap.size ≤ G4; omega) _
    have ho := ownI_wr2 HO.out hw4 (by omega)
    have H1 := Lib.hid h1
    have H2 := Lib.hid h2
    have H4 := Lib.hid h4
    have H6 := Lib.hid h6
    have HBL := Lib.hid hbl
    have HO := Lib.hid ho
    clear ho hw4 h4 h6 h1 h2 hbl
    go_upto_region 22 with fail
    generalize (((w6.setCell ⟨G4, 0, none⟩ (.slice A N c)).setCell ⟨G4, 1, none⟩ (.int .i64 (k1 : Nat))).setCell ⟨G4, 2, none⟩ (.int .i64 E)) = w7 at *
    obtain ⟨x0, x1, x2, y0, y1, y2⟩ := H4.out.three
    obtain ⟨u0, u1, u2, u3, u4⟩ := H6.out.five
    obtain ⟨a0, a1, a2, b0, b1, b2⟩ := H1.out.three
    obtain ⟨c0, c1, c2, c3, c4⟩ := H2.out.five
    obtain ⟨d0, d1, d2, d3, d4⟩ := H2.out.frees
    have n1 : ¬ w.heap.size + 1 = G4 := by omega
    have n2 : ¬ G4 = w.heap.size + 1 := by omega
    have n3 : ¬ w.heap.size + 1 + 1 = G4 := by omega
    have n4 : ¬ G4 = w.heap.size + 1 + 1 := by omega
    have n5 : ¬ w.heap.size + 1 = G6 := by omega
    have n6 : ¬ w.heap.size + 1 + 1 = G6 := by omega
    have hv := HV.out
    by_cases hE : E = 0
    · subst hE
      rw [if_pos rfl] at hv
      clear HV HEE HRR
      have HVV := Lib.hid hv
      clear hv
      obtain ⟨x0', x1', x2', y0', y1', y2'⟩ := (box_drew21 H4.out).three
      obtain ⟨u0', u1', u2', u3', u4'⟩ := (box_drewI H6.out).five
      obtain ⟨a0', a1', a2', b0', b1', b2'⟩ := (box_drewI H1.out).three
      obtain ⟨c0', c1', c2', c3', c4'⟩ := (box_drewI H2.out).five
      obtain ⟨d0', d1', d2', d3', d4'⟩ := (box_drewI H2.out).frees
      go_wp2
      go_region
      go_wp2
      have h1a := (((H1.out).set 0 (.slice A N c)).set 1 (.int .i64 (k1 : Nat))).set 2 (.int .i64 0)
      have h1f := ((Wr.set (w.heap.size + 1 + 1) 4 _ (.int .i64 0)).box ((Wr.set (w.heap.size + 1 + 1) 3 _ (.int .i64 0)).box ((Wr.set (w.heap.size + 1 + 1) 2 _ (.slice none 0 0)).box ((Wr.set (w.heap.size + 1 + 1) 1 _ (.int .i64 0)).box ((Wr.set (w.heap.size + 1 + 1) 0 _ (.int .i64 (kd : Nat))).box h1a (by omega)) (by omega)) (by omega)) (by omega)) (by omega))
      have h2f := (((((((Wr.set (w.heap.size + 1) 2 _ (.int .i64 0)).box ((Wr.set (w.heap.size + 1) 1 _ (.int .i64 (k1 : Nat))).box ((Wr.set (w.heap.size + 1) 0 _ (.slice A N c)).box (H2.out) (by omega)) (by omega)) (by omega)).set 0 (.int .i64 (kd : Nat))).set 1 (.int .i64 0)).set 2 (.slice none 0 0)).set 3 (.int .i64 0)).set 4 (.int .i64 0))
      have hof := (ownI_wr2 (ownI_wr2 (ownI_wr2 (ownI_wr2 (ownI_wr2 (ownI_wr2 (ownI_wr2 (ownI_wr2 HO.out (Wr.set (w.heap.size + 1) 0 _ (.slice A N c)) (by omega)) (Wr.set (w.heap.size + 1) 1 _ (.int .i64 (k1 : Nat))) (by omega)) (Wr.set (w.heap.size + 1) 2 _ (.int .i64 0)) (by omega)) (Wr.set (w.heap.size + 1 + 1) 0 _ (.int .i64 (kd : Nat))) (by omega)) (Wr.set (w.heap.size + 1 + 1) 1 _ (.int .i64 0)) (by omega)) (Wr.set (w.heap.size + 1 + 1) 2 _ (.slice none 0 0)) (by omega)) (Wr.set (w.heap.size + 1 + 1) 3 _ (.int .i64 0)) (by omega)) (Wr.set (w.heap.size + 1 + 1) 4 _ (.int .i64 0)) (by omega))
      have hbf := ((((((((HBL.out.setCell (p := ⟨w.heap.size + 1, 0, none⟩) (by show w.heap.size ≤ w.heap.size + 1; omega) (.slice A N c)).setCell (p := ⟨w.heap.size + 1, 1, none⟩) (by show w.heap.size ≤ w.heap.size + 1; omega) (.int .i64 (k1 : Nat))).setCell (p := ⟨w.heap.size + 1, 2, none⟩) (by show w.heap.size ≤ w.heap.size + 1; omega) (.int .i64 0)).setCell (p := ⟨w.heap.size + 1 + 1, 0, none⟩) (by show w.heap.size ≤ w.heap.size + 1 + 1; omega) (.int .i64 (kd : Nat))).setCell (p := ⟨w.heap.size + 1 + 1, 1, none⟩) (by show w.heap.size ≤ w.heap.size + 1 + 1; omega) (.int .i64 0)).setCell (p := ⟨w.heap.size + 1 + 1, 2, none⟩) (by show w.heap.size ≤ w.heap.size + 1 + 1; omega) (.slice none 0 0)).setCell (p := ⟨w.heap.size + 1 + 1, 3, none⟩) (by show w.heap.size ≤ w.heap.size + 1 + 1; omega) (.int .i64 0)).setCell (p := ⟨w.heap.size + 1 + 1, 4, none⟩) (by show w.heap.size ≤ w.heap.size + 1 + 1; omega) (.int .i64 0))
      have h1f := box_drewI h1f
      have h2f := box_drewI h2f
      have hof := World.ownsRow.drew hof
      have hbf := hbf.drew
      have HF1 := Lib.hid h1f
      have HF2 := Lib.hid h2f
      have HOF := Lib.hid hof
      have HBF := Lib.hid hbf
      clear h1a h1f h2f hof hbf
      generalize (((((((((w7.setCell ⟨w.heap.size + 1, 0, none⟩ (.slice A N c)).setCell ⟨w.heap.size + 1, 1, none⟩ (.int .i64 (k1 : Nat))).setCell ⟨w.heap.size + 1, 2, none⟩ (.int .i64 0)).setCell ⟨w.heap.size + 1 + 1, 0, none⟩ (.int .i64 (kd : Nat))).setCell ⟨w.heap.size + 1 + 1, 1, none⟩ (.int .i64 0)).setCell ⟨w.heap.size + 1 + 1, 2, none⟩ (.slice none 0 0)).setCell ⟨w.heap.size + 1 + 1, 3, none⟩ (.int .i64 0)).setCell ⟨w.heap.size + 1 + 1, 4, none⟩ (.int .i64 0)).drew) = w8 at *
      have h1f := HF1.out
      have h2f := HF2.out
      clear a0 a1 a2 b0 b1 b2 c0 c1 c2 c3 c4 d0 d1 d2 d3 d4 x0 x1 x2 y0 y1 y2 u0 u1 u2 u3 u4
      have s0 := h1f.cell 0
      have s1 := h1f.cell 1
      have s2 := h1f.cell 2
      have s3 := h2f.cell 0
      have s4 := h2f.cell 1
      have s5 := h2f.cell 2
      have s6 := h2f.cell 3
      have s7 := h2f.cell 4
      refine bodyPost_ret (v := .tuple #[.agg #[.slice A N c, .int .i64 (k1 : Nat), .int .i64 0], .agg #[.int .i64 (kd : Nat), .int .i64 0, .slice none 0 0, .int .i64 0, .int .i64 0]]) (by simp [results, Try.results28, go_sem, s0, s1, s2, s3, s4, s5, s6, s7]) rfl ⟨⟨oA, oc, ?_, ?_⟩, ?_⟩
      · rw [HO1.out.1, HO1.out.2, ← HVV.out]
      · have hz9 := HOO.out _ _ HOF.out
        obtain ⟨A8, c8, e8, -, -, g8⟩ := lies_ownI hz9
        cases e8
        exact g8
      · exact HBF.out
    · rw [if_neg hE] at hv
      have g1 : (E == 0) = false := by simpa using hE
      have g2 : (E != 0) = true := by simpa using hE
      clear HV HEE HRR hE
      have HVV := Lib.hid hv
      clear hv
      go_wp2
      have h1a := (((H1.out).set 0 (.slice A N c)).set 1 (.int .i64 (k1 : Nat))).set 2 (.int .i64 E)
      have h1f := ((Wr.set (w.heap.size + 1 + 1) 4 _ (.int .i64 0)).box ((Wr.set (w.heap.size + 1 + 1) 3 _ (.int .i64 0)).box ((Wr.set (w.heap.size + 1 + 1) 2 _ (.slice none 0 0)).box ((Wr.set (w.heap.size + 1 + 1) 1 _ (.int .i64 0)).box ((Wr.set (w.heap.size + 1 + 1) 0 _ (.int .i64 0)).box h1a (by omega)) (by omega)) (by omega)) (by omega)) (by omega))
      have h2f := (((((((Wr.set (w.heap.size + 1) 2 _ (.int .i64 E)).box ((Wr.set (w.heap.size + 1) 1 _ (.int .i64 (k1 : Nat))).box ((Wr.set (w.heap.size + 1) 0 _ (.slice A N c)).box (H2.out) (by omega)) (by omega)) (by omega)).set 0 (.int .i64 0)).set 1 (.int .i64 0)).set 2 (.slice none 0 0)).set 3 (.int .i64 0)).set 4 (.int .i64 0))
      have hof := (ownI_wr2 (ownI_wr2 (ownI_wr2 (ownI_wr2 (ownI_wr2 (ownI_wr2 (ownI_wr2 (ownI_wr2 HO.out (Wr.set (w.heap.size + 1) 0 _ (.slice A N c)) (by omega)) (Wr.set (w.heap.size + 1) 1 _ (.int .i64 (k1 : Nat))) (by omega)) (Wr.set (w.heap.size + 1) 2 _ (.int .i64 E)) (by omega)) (Wr.set (w.heap.size + 1 + 1) 0 _ (.int .i64 0)) (by omega)) (Wr.set (w.heap.size + 1 + 1) 1 _ (.int .i64 0)) (by omega)) (Wr.set (w.heap.size + 1 + 1) 2 _ (.slice none 0 0)) (by omega)) (Wr.set (w.heap.size + 1 + 1) 3 _ (.int .i64 0)) (by omega)) (Wr.set (w.heap.size + 1 + 1) 4 _ (.int .i64 0)) (by omega))
      have hbf := ((((((((HBL.out.setCell (p := ⟨w.heap.size + 1, 0, none⟩) (by show w.heap.size ≤ w.heap.size + 1; omega) (.slice A N c)).setCell (p := ⟨w.heap.size + 1, 1, none⟩) (by show w.heap.size ≤ w.heap.size + 1; omega) (.int .i64 (k1 : Nat))).setCell (p := ⟨w.heap.size + 1, 2, none⟩) (by show w.heap.size ≤ w.heap.size + 1; omega) (.int .i64 E)).setCell (p := ⟨w.heap.size + 1 + 1, 0, none⟩) (by show w.heap.size ≤ w.heap.size + 1 + 1; omega) (.int .i64 0)).setCell (p := ⟨w.heap.size + 1 + 1, 1, none⟩) (by show w.heap.size ≤ w.heap.size + 1 + 1; omega) (.int .i64 0)).setCell (p := ⟨w.heap.size + 1 + 1, 2, none⟩) (by show w.heap.size ≤ w.heap.size + 1 + 1; omega) (.slice none 0 0)).setCell (p := ⟨w.heap.size + 1 + 1, 3, none⟩) (by show w.heap.size ≤ w.heap.size + 1 + 1; omega) (.int .i64 0)).setCell (p := ⟨w.heap.size + 1 + 1, 4, none⟩) (by show w.heap.size ≤ w.heap.size + 1 + 1; omega) (.int .i64 0))
      have HF1 := Lib.hid h1f
      have HF2 := Lib.hid h2f
      have HOF := Lib.hid hof
      have HBF := Lib.hid hbf
      clear h1a h1f h2f hof hbf
      generalize ((((((((w7.setCell ⟨w.heap.size + 1, 0, none⟩ (.slice A N c)).setCell ⟨w.heap.size + 1, 1, none⟩ (.int .i64 (k1 : Nat))).setCell ⟨w.heap.size + 1, 2, none⟩ (.int .i64 E)).setCell ⟨w.heap.size + 1 + 1, 0, none⟩ (.int .i64 0)).setCell ⟨w.heap.size + 1 + 1, 1, none⟩ (.int .i64 0)).setCell ⟨w.heap.size + 1 + 1, 2, none⟩ (.slice none 0 0)).setCell ⟨w.heap.size + 1 + 1, 3, none⟩ (.int .i64 0)).setCell ⟨w.heap.size + 1 + 1, 4, none⟩ (.int .i64 0)) = w8 at *
      have h1f := HF1.out
      have h2f := HF2.out
      clear a0 a1 a2 b0 b1 b2 c0 c1 c2 c3 c4 d0 d1 d2 d3 d4 x0 x1 x2 y0 y1 y2 u0 u1 u2 u3 u4
      have s0 := h1f.cell 0
      have s1 := h1f.cell 1
      have s2 := h1f.cell 2
      have s3 := h2f.cell 0
      have s4 := h2f.cell 1
      have s5 := h2f.cell 2
      have s6 := h2f.cell 3
      have s7 := h2f.cell 4
      refine bodyPost_ret (v := .tuple #[.agg #[.slice A N c, .int .i64 (k1 : Nat), .int .i64 E], .agg #[.int .i64 0, .int .i64 0, .slice none 0 0, .int .i64 0, .int .i64 0]]) (by simp [results, Try.results28, go_sem, s0, s1, s2, s3, s4, s5, s6, s7]) rfl ⟨⟨oA, oc, ?_, ?_⟩, ?_⟩
      · rw [HO1.out.1, HO1.out.2, ← HVV.out]
      · have hz9 := HOO.out _ _ HOF.out
        obtain ⟨A8, c8, e8, -, -, g8⟩ := lies_ownI hz9
        cases e8
        exact g8
      · exact HBF.out
end Go.Proofs.Ytpoemflclbhekaa

/-! Layer 22 (item): requests read, in the reference: GetAsk, ways (5, 6). -/
namespace Go.Proofs.Ytpoemflclbhekaa
open Go.RowKit
set_option linter.unusedVariables false
set_option linter.unusedSimpArgs false

set_option maxRecDepth 100000 in
set_option maxHeartbeats 16000000 in
theorem ref_GetAsk_w5 (b : List Int) (A : Option Addr) (c k : Nat) (e : Int) (w : World) (hA : LiesY w w.heap.size A b) (hb : byt b) (hl : b.length ≤ 1000000) (hk : k ≤ b.length) (hp : ¬ 1 ≤ ((rN b k e 1099511627776).2 : Int)) : Calls Try.prog 28 #[.agg #[.slice A b.length c, .int .i64 (k : Nat), .int .i64 e]] w (GivesRA A b.length c (gA b k e) w) := by
  have i2 : I64 1099511627776 := by unfold I64; omega
  have i8 : I64 8 := by unfold I64; omega
  have KRN : Hid (∀ (W : World) (s : Nat × Int), Below w.heap.size w W → s.1 ≤ b.length → Calls Try.prog 97 #[.agg #[.slice A b.length c, .int .i64 (s.1 : Nat), .int .i64 s.2], .int .i64 1099511627776] W fun r w' => r = .returned (.tuple #[.agg #[.slice A b.length c, .int .i64 ((rdI b true s).1.1 : Nat), .int .i64 (rdI b true s).1.2], .int .i64 ((rdI b true s).2 : Nat)]) ∧ Below W.heap.size W w') := fun W s h hs => ref_ReadN21 b A c s.1 s.2 1099511627776 i2 W ((hA.below h).mono h.size) hb hl hs
  have KRL : Hid (∀ (W : World) (s : Nat × Int), Below w.heap.size w W → s.1 ≤ b.length → Calls Try.prog 111 #[.agg #[.slice A b.length c, .int .i64 (s.1 : Nat), .int .i64 s.2], .int .i64 8] W fun r w' => ∃ A2 c2, r = .returned (.tuple #[.agg #[.slice A b.length c, .int .i64 ((rdX b true s).1.1 : Nat), .int .i64 (rdX b true s).1.2], .slice A2 (rdX b true s).2.length c2]) ∧ w'.ownsRow W.heap.size 3 1 (.slice A2 (rdX b true s).2.length c2) (rdX b true s).2.length (litI (rdX b true s).2) ∧ Below W.heap.size W w') := fun W s h hs => ref_ReadL21 b A c s.1 s.2 8 i8 W ((hA.below h).mono h.size) hb hl hs
  have HPI : Hid (∀ s : Nat × Int, s.1 ≤ b.length → (rdI b true s).1.1 ≤ b.length) := fun s h => rN_at hb h s.2 1099511627776
  have HPX : Hid (∀ s : Nat × Int, s.1 ≤ b.length → (rdX b true s).1.1 ≤ b.length) := fun s h => rL_at hb h s.2 8
  have K1 := Lib.hid (KRN.out)
  have HK0 : Hid ((rN b k e 1099511627776).1.1 ≤ b.length) := rN_at hb hk e _
  have KFM := Lib.hid (fun (kk : Nat) (ee : Int) (q : Bool) W => ref_form A b.length c kk ee q W)
  have KRA := Lib.hid (fun (kind id n m : Nat) (X : List Int) (AX : Option Addr) (cX : Nat) (W : World) (hX : Lies W W.heap.size AX X) => ref_RightAsk kind id n m X AX cX W hX)
  obtain ⟨hX, hX0, hW⟩ := box_r w A b.length c (k : Nat) e
  have hb3 := hW.alloc hW.size (.cells #[.int .i64 0, .int .i64 0, .slice none 0 0, .int .i64 0, .int .i64 0] 41)
  have h2n := Box.new ((w.alloc (.cells #[.slice A b.length c, .int .i64 (k : Nat), .int .i64 e] 34)).alloc (.cells #[.slice none 0 0, .int .i64 0, .int .i64 0] 34)) #[.int .i64 0, .int .i64 0, .slice none 0 0, .int .i64 0, .int .i64 0] 41
  rw [alloc_size', alloc_size'] at h2n
  have H1 := Lib.hid (hX.alloc (.cells #[.int .i64 0, .int .i64 0, .slice none 0 0, .int .i64 0, .int .i64 0] 41))
  have H2 := Lib.hid h2n
  have HBL := Lib.hid hb3
  have K0 := Lib.hid (KRN.out _ (k, e) hb3 hk)
  rw [show (rdI b true (k, e)) = rN b k e 1099511627776 from rfl] at K0
  have KNM := Lib.hid (fun (j : Nat) W => ref_names (j : Int) W)
  unfold gA
  obtain ⟨r1, hr1⟩ : ∃ r1, r1 = rN b k e 1099511627776 := ⟨_, rfl⟩
  rw [← hr1] at K0 HK0 hp ⊢
  clear hr1 hX hX0 hW hb3 h2n hA K1
  obtain ⟨⟨k1, e1⟩, kd⟩ := r1
  simp only at K0 HK0 hp ⊢
  generalize b.length = N at *
  have hok : okK (kd : Nat) = false := decide_eq_false (by omega)
  obtain ⟨p1, p2, p3, p4⟩ := nm_no hok
  have hk1 := hp
  rw [hok]
  rw [show chkF false e1 = failE e1 211 from rfl]
  obtain ⟨E1, hE1⟩ : ∃ E1, E1 = failE e1 211 := ⟨_, rfl⟩
  rw [← hE1]
  have KNK := Lib.hid (KNM.out kd)
  rw [p1, p2, p3, p4] at KNK
  rw [p1, p2, p3, p4]
  clear p1 p2 p3 p4 hok KNM
  rw [show gA5 b false false false false kd (k1, E1) = finA kd 0 ([] : List Int) 0 ((k1, E1), 0) from rfl]
  obtain ⟨out, hout⟩ : ∃ out, out = finA kd 0 ([] : List Int) 0 ((k1, E1), 0) := ⟨_, rfl⟩
  rw [← hout]
  have HO1 : Hid (out.1.1 = k1 ∧ out.1.2 = chkF (rightA (kd : Nat) (0 : Nat) (0 : Nat) (0 : Nat) ([] : List Int)) E1) := by rw [hout]; exact ⟨rfl, rfl⟩
  have HCH : Hid (∀ AX cX, ∃ oA oc, (if chkF (rightA (kd : Nat) (0 : Nat) (0 : Nat) (0 : Nat) ([] : List Int)) E1 = 0 then Value.agg #[.int .i64 (kd : Nat), .int .i64 0, .slice AX 0 cX, .int .i64 0, .int .i64 0] else .agg #[.int .i64 0, .int .i64 0, .slice none 0 0, .int .i64 0, .int .i64 0]) = .agg #[.int .i64 (out.2.1 : Nat), .int .i64 (out.2.2.1 : Nat), .slice oA out.2.2.2.1.length oc, .int .i64 (out.2.2.2.2.1 : Nat), .int .i64 (out.2.2.2.2.2 : Nat)] ∧ ∀ (W : World) (B : Nat), W.ownsRow B 3 1 (.slice AX 0 cX) 0 (litI ([] : List Int)) → W.ownsRow B 3 1 (.slice oA out.2.2.2.1.length oc) out.2.2.2.1.length (litI out.2.2.2.1)) := fun AX cX => by rw [hout]; exact chk_out kd 0 0 ([] : List Int) ((k1, E1), 0) AX cX
  clear hout
  go_enter Try.func28, Try.ntmps28
  go_wp2_with fail
  refine (K0.out).mono ?_
  rintro r w1 ⟨rfl, h2⟩
  have hsz1 : w.heap.size + 3 ≤ w1.heap.size := by have := h2.size; rw [alloc_size', alloc_size', alloc_size'] at this; omega
  have hal := (Below.refl w1.heap.size w1).alloc (Nat.le_refl _) (.cells #[.slice A N c, .int .i64 (k1 : Nat), .int .i64 e1] 34)
  have hal2 := hal.alloc hal.size (.cells #[.int .i64 (kd : Nat), .int .i64 0, .slice none 0 0, .int .i64 0, .int .i64 0] 41)
  have H1 := Lib.hid ((H1.out.below h2 H1.out.lt).below hal2 (H1.out.below h2 H1.out.lt).lt)
  have H2 := Lib.hid ((H2.out.below h2 H2.out.lt).below hal2 (H2.out.below h2 H2.out.lt).lt)
  have H4 := Lib.hid ((Box.new w1 #[.slice A N c, .int .i64 (k1 : Nat), .int .i64 e1] 34).alloc (.cells #[.int .i64 (kd : Nat), .int .i64 0, .slice none 0 0, .int .i64 0, .int .i64 0] 41))
  have h6 := Box.new (w1.alloc (.cells #[.slice A N c, .int .i64 (k1 : Nat), .int .i64 e1] 34)) #[.int .i64 (kd : Nat), .int .i64 0, .slice none 0 0, .int .i64 0, .int .i64 0] 41
  rw [alloc_size'] at h6
  have H6 := Lib.hid h6
  have HBL := Lib.hid ((HBL.out.trans (h2.mono HBL.out.size)).trans (hal2.mono (Nat.le_trans HBL.out.size h2.size)))
  clear h2 hal hal2 h6 K0
  go_wp2_with fail
  refine (KFM.out k1 e1 false _).mono ?_
  rintro r w3 ⟨rfl, h2⟩
  have H1 := Lib.hid (H1.out.below h2 H1.out.lt)
  have H2 := Lib.hid (H2.out.below h2 H2.out.lt)
  have H4 := Lib.hid (H4.out.below h2 H4.out.lt)
  have H6 := Lib.hid (H6.out.below h2 H6.out.lt)
  have HBL := Lib.hid (HBL.out.trans (h2.mono HBL.out.size))
  clear h2
  obtain ⟨x0, x1, x2, y0, y1, y2⟩ := H4.out.three
  obtain ⟨u0, u1, u2, u3, u4⟩ := H6.out.five
  rw [show chkF false e1 = failE e1 211 from rfl]
  rw [← hE1] at *
  clear hE1
  go_wp2_with fail
  have hw4 : Wr w1.heap.size w3 (((w3.setCell ⟨w1.heap.size, 0, none⟩ (.slice A N c)).setCell ⟨w1.heap.size, 1, none⟩ (.int .i64 (k1 : Nat))).setCell ⟨w1.heap.size, 2, none⟩ (.int .i64 E1)) := ((Wr.set w1.heap.size 0 _ _).trans (Wr.set w1.heap.size 1 _ _)).trans (Wr.set w1.heap.size 2 _ _)
  have h4 : Box (((w3.setCell ⟨w1.heap.size, 0, none⟩ (.slice A N c)).setCell ⟨w1.heap.size, 1, none⟩ (.int .i64 (k1 : Nat))).setCell ⟨w1.heap.size, 2, none⟩ (.int .i64 E1)) w1.heap.size #[.slice A N c, .int .i64 (k1 : Nat), .int .i64 E1] 34 := ((H4.out.set 0 _).set 1 _).set 2 _
  have h6 := hw4.box H6.out (by omega)
  have h1 := hw4.box H1.out (by omega)
  have h2 := hw4.box H2.out (by omega)
  have hbl : Below w.heap.size w (((w3.setCell ⟨w1.heap.size, 0, none⟩ (.slice A N c)).setCell ⟨w1.heap.size, 1, none⟩ (.int .i64 (k1 : Nat))).setCell ⟨w1.heap.size, 2, none⟩ (.int .i64 E1)) := ((HBL.out.setCell (p := ⟨w1.heap.size, 0, none⟩) (by show w.heap.size ≤ w1.heap.size; omega) _).setCell (p := ⟨w1.heap.size, 1, none⟩) (by show w.heap.size ≤ w1.heap.size; omega) _).setCell (p := ⟨w1.heap.size, 2, none⟩) (by show w.heap.size ≤ w1.heap.size; omega) _
  have H1 := Lib.hid h1
  have H2 := Lib.hid h2
  have H4 := Lib.hid h4
  have H6 := Lib.hid h6
  have HBL := Lib.hid hbl
  clear hw4 h4 h6 h1 h2 hbl x0 x1 x2 y0 y1 y2 u0 u1 u2 u3 u4
  generalize (((w3.setCell ⟨w1.heap.size, 0, none⟩ (.slice A N c)).setCell ⟨w1.heap.size, 1, none⟩ (.int .i64 (k1 : Nat))).setCell ⟨w1.heap.size, 2, none⟩ (.int .i64 E1)) = w4 at *
  generalize hG6 : w1.heap.size + 1 = G6 at *
  have hlt46 : w1.heap.size < G6 := by omega
  have hne5 : ¬ G6 = w1.heap.size := by omega
  have hne6 : ¬ w1.heap.size = G6 := by omega
  clear hG6
  generalize w1.heap.size = G4 at *
  obtain ⟨x0, x1, x2, y0, y1, y2⟩ := H4.out.three
  obtain ⟨u0, u1, u2, u3, u4⟩ := H6.out.five
  obtain ⟨t0, t1, t2, t3, t4⟩ := H6.out.frees
  refine (KNK.out _).mono ?_
  rintro r wq ⟨rfl, rfl⟩
  go_upto_region 21 with fail
  have HO : Hid (w4.ownsRow (G6 + 1) 3 1 (.slice none ([] : List Int).length 0) ([] : List Int).length (litI [])) := World.ownsRow_nil _ _ _ _
  obtain ⟨A9, c9, e9, q1, q2, q3⟩ := lies_ownI HO.out
  cases e9
  obtain ⟨oA, oc, hv, ho⟩ := HCH.out none 0
  have kq := KRA.out kd 0 0 0 ([] : List Int) none 0 w4.drew (q3.below (Below.refl w4.heap.size w4).drew)
  try simp only [List.length_nil] at kq hv
  try rw [show ((0 : Nat) : Int) = 0 from rfl] at kq
  have KQ := Lib.hid kq
  clear kq q1 q2 q3
  generalize hRR : rightA (kd : Nat) (0 : Nat) (0 : Nat) (0 : Nat) ([] : List Int) = R at *
  have HRR := Lib.hid hRR
  clear hRR
  have HV := Lib.hid hv
  have HOO := Lib.hid ho
  clear hv ho HCH
  have hd := (Below.refl w4.heap.size w4).drew
  obtain ⟨x0', x1', x2', y0', y1', y2'⟩ := (box_drew21 H4.out).three
  obtain ⟨u0', u1', u2', u3', u4'⟩ := (box_drew21 H6.out).five
  go_region_with (first | (go_at_call 26; refine Calls.mono KQ.out ?_; rintro r w5 ⟨rfl, g2⟩; have g3 := hd.trans g2; have H1 := Lib.hid (H1.out.below g3 H1.out.lt); have H2 := Lib.hid (H2.out.below g3 H2.out.lt); have H4 := Lib.hid (H4.out.below g3 H4.out.lt); have H6 := Lib.hid (H6.out.below g3 H6.out.lt); have HBL := Lib.hid (HBL.out.trans (g3.mono HBL.out.size)); have HO := Lib.hid (ownI_below HO.out g3); clear g2 g3; obtain ⟨x0, x1, x2, y0, y1, y2⟩ := H4.out.three; obtain ⟨u0, u1, u2, u3, u4⟩ := H6.out.five) | (go_at_call 98; refine Calls.mono (KFM.out k1 E1 R _) ?_; rintro r w6 ⟨rfl, g3⟩; have H1 := Lib.hid (H1.out.below g3 H1.out.lt); have H2 := Lib.hid (H2.out.below g3 H2.out.lt); have H4 := Lib.hid (H4.out.below g3 H4.out.lt); have H6 := Lib.hid (H6.out.below g3 H6.out.lt); have HBL := Lib.hid (HBL.out.trans (g3.mono HBL.out.size)); have HO := Lib.hid (ownI_below HO.out g3); clear g3; obtain ⟨x0, x1, x2, y0, y1, y2⟩ := H4.out.three; obtain ⟨u0, u1, u2, u3, u4⟩ := H6.out.five))
  all_goals
    generalize hEE : chkF R E1 = E at *
    have HEE := Lib.hid hEE
    clear hEE
    have hw4 : Wr G4 w6 (((w6.setCell ⟨G4, 0, none⟩ (.slice A N c)).setCell ⟨G4, 1, none⟩ (.int .i64 (k1 : Nat))).setCell ⟨G4, 2, none⟩ (.int .i64 E)) := ((Wr.set G4 0 _ _).trans (Wr.set G4 1 _ _)).trans (Wr.set G4 2 _ _)
    have h4 : Box (((w6.setCell ⟨G4, 0, none⟩ (.slice A N c)).setCell ⟨G4, 1, none⟩ (.int .i64 (k1 : Nat))).setCell ⟨G4, 2, none⟩ (.int .i64 E)) G4 #[.slice A N c, .int .i64 (k1 : Nat), .int .i64 E] 34 := ((H4.out.set 0 _).set 1 _).set 2 _
    have h6 := hw4.box H6.out (by omega)
    have h1 := hw4.box H1.out (by omega)
    have h2 := hw4.box H2.out (by omega)
    have hbl : Below w.heap.size w (((w6.setCell ⟨G4, 0, none⟩ (.slice A N c)).setCell ⟨G4, 1, none⟩ (.int .i64 (k1 : Nat))).setCell ⟨G4, 2, none⟩ (.int .i64 E)) := ((HBL.out.setCell (p := ⟨G4, 0, none⟩) (by show w.heap.size ≤ G4; omega) _).setCell (p := ⟨G4, 1, none⟩) (by show w.heap.size ≤ G4; omega) _).setCell (p := ⟨G4, 2, none⟩) (by show w.heap.size ≤ G4; omega) _
    have ho := ownI_wr2 HO.out hw4 (by omega)
    have H1 := Lib.hid h1
    have H2 := Lib.hid h2
    have H4 := Lib.hid h4
    have H6 := Lib.hid h6
    have HBL := Lib.hid hbl
    have HO := Lib.hid ho
    clear ho hw4 h4 h6 h1 h2 hbl
    go_upto_region 22 with fail
    generalize (((w6.setCell ⟨G4, 0, none⟩ (.slice A N c)).setCell ⟨G4, 1, none⟩ (.int .i64 (k1 : Nat))).setCell ⟨G4, 2, none⟩ (.int .i64 E)) = w7 at *
    obtain ⟨x0, x1, x2, y0, y1, y2⟩ := H4.out.three
    obtain ⟨u0, u1, u2, u3, u4⟩ := H6.out.five
    obtain ⟨a0, a1, a2, b0, b1, b2⟩ := H1.out.three
    obtain ⟨c0, c1, c2, c3, c4⟩ := H2.out.five
    obtain ⟨d0, d1, d2, d3, d4⟩ := H2.out.frees
    have n1 : ¬ w.heap.size + 1 = G4 := by omega
    have n2 : ¬ G4 = w.heap.size + 1 := by omega
    have n3 : ¬ w.heap.size + 1 + 1 = G4 := by omega
    have n4 : ¬ G4 = w.heap.size + 1 + 1 := by omega
    have n5 : ¬ w.heap.size + 1 = G6 := by omega
    have n6 : ¬ w.heap.size + 1 + 1 = G6 := by omega
    have hv := HV.out
    by_cases hE : E = 0
    · subst hE
      rw [if_pos rfl] at hv
      clear HV HEE HRR
      have HVV := Lib.hid hv
      clear hv
      obtain ⟨x0', x1', x2', y0', y1', y2'⟩ := (box_drew21 H4.out).three
      obtain ⟨u0', u1', u2', u3', u4'⟩ := (box_drewI H6.out).five
      obtain ⟨a0', a1', a2', b0', b1', b2'⟩ := (box_drewI H1.out).three
      obtain ⟨c0', c1', c2', c3', c4'⟩ := (box_drewI H2.out).five
      obtain ⟨d0', d1', d2', d3', d4'⟩ := (box_drewI H2.out).frees
      go_wp2
      go_region
      go_wp2
      have h1a := (((H1.out).set 0 (.slice A N c)).set 1 (.int .i64 (k1 : Nat))).set 2 (.int .i64 0)
      have h1f := ((Wr.set (w.heap.size + 1 + 1) 4 _ (.int .i64 0)).box ((Wr.set (w.heap.size + 1 + 1) 3 _ (.int .i64 0)).box ((Wr.set (w.heap.size + 1 + 1) 2 _ (.slice none 0 0)).box ((Wr.set (w.heap.size + 1 + 1) 1 _ (.int .i64 0)).box ((Wr.set (w.heap.size + 1 + 1) 0 _ (.int .i64 (kd : Nat))).box h1a (by omega)) (by omega)) (by omega)) (by omega)) (by omega))
      have h2f := (((((((Wr.set (w.heap.size + 1) 2 _ (.int .i64 0)).box ((Wr.set (w.heap.size + 1) 1 _ (.int .i64 (k1 : Nat))).box ((Wr.set (w.heap.size + 1) 0 _ (.slice A N c)).box (H2.out) (by omega)) (by omega)) (by omega)).set 0 (.int .i64 (kd : Nat))).set 1 (.int .i64 0)).set 2 (.slice none 0 0)).set 3 (.int .i64 0)).set 4 (.int .i64 0))
      have hof := (ownI_wr2 (ownI_wr2 (ownI_wr2 (ownI_wr2 (ownI_wr2 (ownI_wr2 (ownI_wr2 (ownI_wr2 HO.out (Wr.set (w.heap.size + 1) 0 _ (.slice A N c)) (by omega)) (Wr.set (w.heap.size + 1) 1 _ (.int .i64 (k1 : Nat))) (by omega)) (Wr.set (w.heap.size + 1) 2 _ (.int .i64 0)) (by omega)) (Wr.set (w.heap.size + 1 + 1) 0 _ (.int .i64 (kd : Nat))) (by omega)) (Wr.set (w.heap.size + 1 + 1) 1 _ (.int .i64 0)) (by omega)) (Wr.set (w.heap.size + 1 + 1) 2 _ (.slice none 0 0)) (by omega)) (Wr.set (w.heap.size + 1 + 1) 3 _ (.int .i64 0)) (by omega)) (Wr.set (w.heap.size + 1 + 1) 4 _ (.int .i64 0)) (by omega))
      have hbf := ((((((((HBL.out.setCell (p := ⟨w.heap.size + 1, 0, none⟩) (by show w.heap.size ≤ w.heap.size + 1; omega) (.slice A N c)).setCell (p := ⟨w.heap.size + 1, 1, none⟩) (by show w.heap.size ≤ w.heap.size + 1; omega) (.int .i64 (k1 : Nat))).setCell (p := ⟨w.heap.size + 1, 2, none⟩) (by show w.heap.size ≤ w.heap.size + 1; omega) (.int .i64 0)).setCell (p := ⟨w.heap.size + 1 + 1, 0, none⟩) (by show w.heap.size ≤ w.heap.size + 1 + 1; omega) (.int .i64 (kd : Nat))).setCell (p := ⟨w.heap.size + 1 + 1, 1, none⟩) (by show w.heap.size ≤ w.heap.size + 1 + 1; omega) (.int .i64 0)).setCell (p := ⟨w.heap.size + 1 + 1, 2, none⟩) (by show w.heap.size ≤ w.heap.size + 1 + 1; omega) (.slice none 0 0)).setCell (p := ⟨w.heap.size + 1 + 1, 3, none⟩) (by show w.heap.size ≤ w.heap.size + 1 + 1; omega) (.int .i64 0)).setCell (p := ⟨w.heap.size + 1 + 1, 4, none⟩) (by show w.heap.size ≤ w.heap.size + 1 + 1; omega) (.int .i64 0))
      have h1f := box_drewI h1f
      have h2f := box_drewI h2f
      have hof := World.ownsRow.drew hof
      have hbf := hbf.drew
      have HF1 := Lib.hid h1f
      have HF2 := Lib.hid h2f
      have HOF := Lib.hid hof
      have HBF := Lib.hid hbf
      clear h1a h1f h2f hof hbf
      generalize (((((((((w7.setCell ⟨w.heap.size + 1, 0, none⟩ (.slice A N c)).setCell ⟨w.heap.size + 1, 1, none⟩ (.int .i64 (k1 : Nat))).setCell ⟨w.heap.size + 1, 2, none⟩ (.int .i64 0)).setCell ⟨w.heap.size + 1 + 1, 0, none⟩ (.int .i64 (kd : Nat))).setCell ⟨w.heap.size + 1 + 1, 1, none⟩ (.int .i64 0)).setCell ⟨w.heap.size + 1 + 1, 2, none⟩ (.slice none 0 0)).setCell ⟨w.heap.size + 1 + 1, 3, none⟩ (.int .i64 0)).setCell ⟨w.heap.size + 1 + 1, 4, none⟩ (.int .i64 0)).drew) = w8 at *
      have h1f := HF1.out
      have h2f := HF2.out
      clear a0 a1 a2 b0 b1 b2 c0 c1 c2 c3 c4 d0 d1 d2 d3 d4 x0 x1 x2 y0 y1 y2 u0 u1 u2 u3 u4
      have s0 := h1f.cell 0
      have s1 := h1f.cell 1
      have s2 := h1f.cell 2
      have s3 := h2f.cell 0
      have s4 := h2f.cell 1
      have s5 := h2f.cell 2
      have s6 := h2f.cell 3
      have s7 := h2f.cell 4
      refine bodyPost_ret (v := .tuple #[.agg #[.slice A N c, .int .i64 (k1 : Nat), .int .i64 0], .agg #[.int .i64 (kd : Nat), .int .i64 0, .slice none 0 0, .int .i64 0, .int .i64 0]]) (by simp [results, Try.results28, go_sem, s0, s1, s2, s3, s4, s5, s6, s7]) rfl ⟨⟨oA, oc, ?_, ?_⟩, ?_⟩
      · rw [HO1.out.1, HO1.out.2, ← HVV.out]
      · have hz9 := HOO.out _ _ HOF.out
        obtain ⟨A8, c8, e8, -, -, g8⟩ := lies_ownI hz9
        cases e8
        exact g8
      · exact HBF.out
    · rw [if_neg hE] at hv
      have g1 : (E == 0) = false := by simpa using hE
      have g2 : (E != 0) = true := by simpa using hE
      clear HV HEE HRR hE
      have HVV := Lib.hid hv
      clear hv
      go_wp2
      have h1a := (((H1.out).set 0 (.slice A N c)).set 1 (.int .i64 (k1 : Nat))).set 2 (.int .i64 E)
      have h1f := ((Wr.set (w.heap.size + 1 + 1) 4 _ (.int .i64 0)).box ((Wr.set (w.heap.size + 1 + 1) 3 _ (.int .i64 0)).box ((Wr.set (w.heap.size + 1 + 1) 2 _ (.slice none 0 0)).box ((Wr.set (w.heap.size + 1 + 1) 1 _ (.int .i64 0)).box ((Wr.set (w.heap.size + 1 + 1) 0 _ (.int .i64 0)).box h1a (by omega)) (by omega)) (by omega)) (by omega)) (by omega))
      have h2f := (((((((Wr.set (w.heap.size + 1) 2 _ (.int .i64 E)).box ((Wr.set (w.heap.size + 1) 1 _ (.int .i64 (k1 : Nat))).box ((Wr.set (w.heap.size + 1) 0 _ (.slice A N c)).box (H2.out) (by omega)) (by omega)) (by omega)).set 0 (.int .i64 0)).set 1 (.int .i64 0)).set 2 (.slice none 0 0)).set 3 (.int .i64 0)).set 4 (.int .i64 0))
      have hof := (ownI_wr2 (ownI_wr2 (ownI_wr2 (ownI_wr2 (ownI_wr2 (ownI_wr2 (ownI_wr2 (ownI_wr2 HO.out (Wr.set (w.heap.size + 1) 0 _ (.slice A N c)) (by omega)) (Wr.set (w.heap.size + 1) 1 _ (.int .i64 (k1 : Nat))) (by omega)) (Wr.set (w.heap.size + 1) 2 _ (.int .i64 E)) (by omega)) (Wr.set (w.heap.size + 1 + 1) 0 _ (.int .i64 0)) (by omega)) (Wr.set (w.heap.size + 1 + 1) 1 _ (.int .i64 0)) (by omega)) (Wr.set (w.heap.size + 1 + 1) 2 _ (.slice none 0 0)) (by omega)) (Wr.set (w.heap.size + 1 + 1) 3 _ (.int .i64 0)) (by omega)) (Wr.set (w.heap.size + 1 + 1) 4 _ (.int .i64 0)) (by omega))
      have hbf := ((((((((HBL.out.setCell (p := ⟨w.heap.size + 1, 0, none⟩) (by show w.heap.size ≤ w.heap.size + 1; omega) (.slice A N c)).setCell (p := ⟨w.heap.size + 1, 1, none⟩) (by show w.heap.size ≤ w.heap.size + 1; omega) (.int .i64 (k1 : Nat))).setCell (p := ⟨w.heap.size + 1, 2, none⟩) (by show w.heap.size ≤ w.heap.size + 1; omega) (.int .i64 E)).setCell (p := ⟨w.heap.size + 1 + 1, 0, none⟩) (by show w.heap.size ≤ w.heap.size + 1 + 1; omega) (.int .i64 0)).setCell (p := ⟨w.heap.size + 1 + 1, 1, none⟩) (by show w.heap.size ≤ w.heap.size + 1 + 1; omega) (.int .i64 0)).setCell (p := ⟨w.heap.size + 1 + 1, 2, none⟩) (by show w.heap.size ≤ w.heap.size + 1 + 1; omega) (.slice none 0 0)).setCell (p := ⟨w.heap.size + 1 + 1, 3, none⟩) (by show w.heap.size ≤ w.heap.size + 1 + 1; omega) (.int .i64 0)).setCell (p := ⟨w.heap.size + 1 + 1, 4, none⟩) (by show w.heap.size ≤ w.heap.size + 1 + 1; omega) (.int .i64 0))
      have HF1 := Lib.hid h1f
      have HF2 := Lib.hid h2f
      have HOF := Lib.hid hof
      have HBF := Lib.hid hbf
      clear h1a h1f h2f hof hbf
      generalize ((((((((w7.setCell ⟨w.heap.size + 1, 0, none⟩ (.slice A N c)).setCell ⟨w.heap.size + 1, 1, none⟩ (.int .i64 (k1 : Nat))).setCell ⟨w.heap.size + 1, 2, none⟩ (.int .i64 E)).setCell ⟨w.heap.size + 1 + 1, 0, none⟩ (.int .i64 0)).setCell ⟨w.heap.size + 1 + 1, 1, none⟩ (.int .i64 0)).setCell ⟨w.heap.size + 1 + 1, 2, none⟩ (.slice none 0 0)).setCell ⟨w.heap.size + 1 + 1, 3, none⟩ (.int .i64 0)).setCell ⟨w.heap.size + 1 + 1, 4, none⟩ (.int .i64 0)) = w8 at *
      have h1f := HF1.out
      have h2f := HF2.out
      clear a0 a1 a2 b0 b1 b2 c0 c1 c2 c3 c4 d0 d1 d2 d3 d4 x0 x1 x2 y0 y1 y2 u0 u1 u2 u3 u4
      have s0 := h1f.cell 0
      have s1 := h1f.cell 1
      have s2 := h1f.cell 2
      have s3 := h2f.cell 0
      have s4 := h2f.cell 1
      have s5 := h2f.cell 2
      have s6 := h2f.cell 3
      have s7 := h2f.cell 4
      refine bodyPost_ret (v := .tuple #[.agg #[.slice A N c, .int .i64 (k1 : Nat), .int .i64 E], .agg #[.int .i64 0, .int .i64 0, .slice none 0 0, .int .i64 0, .int .i64 0]]) (by simp [results, Try.results28, go_sem, s0, s1, s2, s3, s4, s5, s6, s7]) rfl ⟨⟨oA, oc, ?_, ?_⟩, ?_⟩
      · rw [HO1.out.1, HO1.out.2, ← HVV.out]
      · have hz9 := HOO.out _ _ HOF.out
        obtain ⟨A8, c8, e8, -, -, g8⟩ := lies_ownI hz9
        cases e8
        exact g8
      · exact HBF.out
set_option maxRecDepth 100000 in
set_option maxHeartbeats 16000000 in
theorem ref_GetAsk_w6 (b : List Int) (A : Option Addr) (c k : Nat) (e : Int) (w : World) (hA : LiesY w w.heap.size A b) (hb : byt b) (hl : b.length ≤ 1000000) (hk : k ≤ b.length) (hp : 1 ≤ ((rN b k e 1099511627776).2 : Int) ∧ ¬ ((rN b k e 1099511627776).2 : Int) ≤ 7) : Calls Try.prog 28 #[.agg #[.slice A b.length c, .int .i64 (k : Nat), .int .i64 e]] w (GivesRA A b.length c (gA b k e) w) := by
  have i2 : I64 1099511627776 := by unfold I64; omega
  have i8 : I64 8 := by unfold I64; omega
  have KRN : Hid (∀ (W : World) (s : Nat × Int), Below w.heap.size w W → s.1 ≤ b.length → Calls Try.prog 97 #[.agg #[.slice A b.length c, .int .i64 (s.1 : Nat), .int .i64 s.2], .int .i64 1099511627776] W fun r w' => r = .returned (.tuple #[.agg #[.slice A b.length c, .int .i64 ((rdI b true s).1.1 : Nat), .int .i64 (rdI b true s).1.2], .int .i64 ((rdI b true s).2 : Nat)]) ∧ Below W.heap.size W w') := fun W s h hs => ref_ReadN21 b A c s.1 s.2 1099511627776 i2 W ((hA.below h).mono h.size) hb hl hs
  have KRL : Hid (∀ (W : World) (s : Nat × Int), Below w.heap.size w W → s.1 ≤ b.length → Calls Try.prog 111 #[.agg #[.slice A b.length c, .int .i64 (s.1 : Nat), .int .i64 s.2], .int .i64 8] W fun r w' => ∃ A2 c2, r = .returned (.tuple #[.agg #[.slice A b.length c, .int .i64 ((rdX b true s).1.1 : Nat), .int .i64 (rdX b true s).1.2], .slice A2 (rdX b true s).2.length c2]) ∧ w'.ownsRow W.heap.size 3 1 (.slice A2 (rdX b true s).2.length c2) (rdX b true s).2.length (litI (rdX b true s).2) ∧ Below W.heap.size W w') := fun W s h hs => ref_ReadL21 b A c s.1 s.2 8 i8 W ((hA.below h).mono h.size) hb hl hs
  have HPI : Hid (∀ s : Nat × Int, s.1 ≤ b.length → (rdI b true s).1.1 ≤ b.length) := fun s h => rN_at hb h s.2 1099511627776
  have HPX : Hid (∀ s : Nat × Int, s.1 ≤ b.length → (rdX b true s).1.1 ≤ b.length) := fun s h => rL_at hb h s.2 8
  have K1 := Lib.hid (KRN.out)
  have HK0 : Hid ((rN b k e 1099511627776).1.1 ≤ b.length) := rN_at hb hk e _
  have KFM := Lib.hid (fun (kk : Nat) (ee : Int) (q : Bool) W => ref_form A b.length c kk ee q W)
  have KRA := Lib.hid (fun (kind id n m : Nat) (X : List Int) (AX : Option Addr) (cX : Nat) (W : World) (hX : Lies W W.heap.size AX X) => ref_RightAsk kind id n m X AX cX W hX)
  obtain ⟨hX, hX0, hW⟩ := box_r w A b.length c (k : Nat) e
  have hb3 := hW.alloc hW.size (.cells #[.int .i64 0, .int .i64 0, .slice none 0 0, .int .i64 0, .int .i64 0] 41)
  have h2n := Box.new ((w.alloc (.cells #[.slice A b.length c, .int .i64 (k : Nat), .int .i64 e] 34)).alloc (.cells #[.slice none 0 0, .int .i64 0, .int .i64 0] 34)) #[.int .i64 0, .int .i64 0, .slice none 0 0, .int .i64 0, .int .i64 0] 41
  rw [alloc_size', alloc_size'] at h2n
  have H1 := Lib.hid (hX.alloc (.cells #[.int .i64 0, .int .i64 0, .slice none 0 0, .int .i64 0, .int .i64 0] 41))
  have H2 := Lib.hid h2n
  have HBL := Lib.hid hb3
  have K0 := Lib.hid (KRN.out _ (k, e) hb3 hk)
  rw [show (rdI b true (k, e)) = rN b k e 1099511627776 from rfl] at K0
  have KNM := Lib.hid (fun (j : Nat) W => ref_names (j : Int) W)
  unfold gA
  obtain ⟨r1, hr1⟩ : ∃ r1, r1 = rN b k e 1099511627776 := ⟨_, rfl⟩
  rw [← hr1] at K0 HK0 hp ⊢
  clear hr1 hX hX0 hW hb3 h2n hA K1
  obtain ⟨⟨k1, e1⟩, kd⟩ := r1
  simp only at K0 HK0 hp ⊢
  generalize b.length = N at *
  have hok : okK (kd : Nat) = false := decide_eq_false (by omega)
  obtain ⟨p1, p2, p3, p4⟩ := nm_no hok
  obtain ⟨hk1, hk7⟩ := hp
  rw [hok]
  rw [show chkF false e1 = failE e1 211 from rfl]
  obtain ⟨E1, hE1⟩ : ∃ E1, E1 = failE e1 211 := ⟨_, rfl⟩
  rw [← hE1]
  have KNK := Lib.hid (KNM.out kd)
  rw [p1, p2, p3, p4] at KNK
  rw [p1, p2, p3, p4]
  clear p1 p2 p3 p4 hok KNM
  rw [show gA5 b false false false false kd (k1, E1) = finA kd 0 ([] : List Int) 0 ((k1, E1), 0) from rfl]
  obtain ⟨out, hout⟩ : ∃ out, out = finA kd 0 ([] : List Int) 0 ((k1, E1), 0) := ⟨_, rfl⟩
  rw [← hout]
  have HO1 : Hid (out.1.1 = k1 ∧ out.1.2 = chkF (rightA (kd : Nat) (0 : Nat) (0 : Nat) (0 : Nat) ([] : List Int)) E1) := by rw [hout]; exact ⟨rfl, rfl⟩
  have HCH : Hid (∀ AX cX, ∃ oA oc, (if chkF (rightA (kd : Nat) (0 : Nat) (0 : Nat) (0 : Nat) ([] : List Int)) E1 = 0 then Value.agg #[.int .i64 (kd : Nat), .int .i64 0, .slice AX 0 cX, .int .i64 0, .int .i64 0] else .agg #[.int .i64 0, .int .i64 0, .slice none 0 0, .int .i64 0, .int .i64 0]) = .agg #[.int .i64 (out.2.1 : Nat), .int .i64 (out.2.2.1 : Nat), .slice oA out.2.2.2.1.length oc, .int .i64 (out.2.2.2.2.1 : Nat), .int .i64 (out.2.2.2.2.2 : Nat)] ∧ ∀ (W : World) (B : Nat), W.ownsRow B 3 1 (.slice AX 0 cX) 0 (litI ([] : List Int)) → W.ownsRow B 3 1 (.slice oA out.2.2.2.1.length oc) out.2.2.2.1.length (litI out.2.2.2.1)) := fun AX cX => by rw [hout]; exact chk_out kd 0 0 ([] : List Int) ((k1, E1), 0) AX cX
  clear hout
  go_enter Try.func28, Try.ntmps28
  go_wp2_with fail
  refine (K0.out).mono ?_
  rintro r w1 ⟨rfl, h2⟩
  have hsz1 : w.heap.size + 3 ≤ w1.heap.size := by have := h2.size; rw [alloc_size', alloc_size', alloc_size'] at this; omega
  have hal := (Below.refl w1.heap.size w1).alloc (Nat.le_refl _) (.cells #[.slice A N c, .int .i64 (k1 : Nat), .int .i64 e1] 34)
  have hal2 := hal.alloc hal.size (.cells #[.int .i64 (kd : Nat), .int .i64 0, .slice none 0 0, .int .i64 0, .int .i64 0] 41)
  have H1 := Lib.hid ((H1.out.below h2 H1.out.lt).below hal2 (H1.out.below h2 H1.out.lt).lt)
  have H2 := Lib.hid ((H2.out.below h2 H2.out.lt).below hal2 (H2.out.below h2 H2.out.lt).lt)
  have H4 := Lib.hid ((Box.new w1 #[.slice A N c, .int .i64 (k1 : Nat), .int .i64 e1] 34).alloc (.cells #[.int .i64 (kd : Nat), .int .i64 0, .slice none 0 0, .int .i64 0, .int .i64 0] 41))
  have h6 := Box.new (w1.alloc (.cells #[.slice A N c, .int .i64 (k1 : Nat), .int .i64 e1] 34)) #[.int .i64 (kd : Nat), .int .i64 0, .slice none 0 0, .int .i64 0, .int .i64 0] 41
  rw [alloc_size'] at h6
  have H6 := Lib.hid h6
  have HBL := Lib.hid ((HBL.out.trans (h2.mono HBL.out.size)).trans (hal2.mono (Nat.le_trans HBL.out.size h2.size)))
  clear h2 hal hal2 h6 K0
  go_wp2_with fail
  refine (KFM.out k1 e1 (decide ((kd : Int) ≤ 7)) _).mono ?_
  rintro r w3 ⟨rfl, h2⟩
  have H1 := Lib.hid (H1.out.below h2 H1.out.lt)
  have H2 := Lib.hid (H2.out.below h2 H2.out.lt)
  have H4 := Lib.hid (H4.out.below h2 H4.out.lt)
  have H6 := Lib.hid (H6.out.below h2 H6.out.lt)
  have HBL := Lib.hid (HBL.out.trans (h2.mono HBL.out.size))
  clear h2
  obtain ⟨x0, x1, x2, y0, y1, y2⟩ := H4.out.three
  obtain ⟨u0, u1, u2, u3, u4⟩ := H6.out.five
  rw [show decide ((kd : Int) ≤ 7) = false from decide_eq_false (by omega)]
  rw [show chkF false e1 = failE e1 211 from rfl]
  rw [← hE1] at *
  clear hE1
  go_wp2_with fail
  have hw4 : Wr w1.heap.size w3 (((w3.setCell ⟨w1.heap.size, 0, none⟩ (.slice A N c)).setCell ⟨w1.heap.size, 1, none⟩ (.int .i64 (k1 : Nat))).setCell ⟨w1.heap.size, 2, none⟩ (.int .i64 E1)) := ((Wr.set w1.heap.size 0 _ _).trans (Wr.set w1.heap.size 1 _ _)).trans (Wr.set w1.heap.size 2 _ _)
  have h4 : Box (((w3.setCell ⟨w1.heap.size, 0, none⟩ (.slice A N c)).setCell ⟨w1.heap.size, 1, none⟩ (.int .i64 (k1 : Nat))).setCell ⟨w1.heap.size, 2, none⟩ (.int .i64 E1)) w1.heap.size #[.slice A N c, .int .i64 (k1 : Nat), .int .i64 E1] 34 := ((H4.out.set 0 _).set 1 _).set 2 _
  have h6 := hw4.box H6.out (by omega)
  have h1 := hw4.box H1.out (by omega)
  have h2 := hw4.box H2.out (by omega)
  have hbl : Below w.heap.size w (((w3.setCell ⟨w1.heap.size, 0, none⟩ (.slice A N c)).setCell ⟨w1.heap.size, 1, none⟩ (.int .i64 (k1 : Nat))).setCell ⟨w1.heap.size, 2, none⟩ (.int .i64 E1)) := ((HBL.out.setCell (p := ⟨w1.heap.size, 0, none⟩) (by show w.heap.size ≤ w1.heap.size; omega) _).setCell (p := ⟨w1.heap.size, 1, none⟩) (by show w.heap.size ≤ w1.heap.size; omega) _).setCell (p := ⟨w1.heap.size, 2, none⟩) (by show w.heap.size ≤ w1.heap.size; omega) _
  have H1 := Lib.hid h1
  have H2 := Lib.hid h2
  have H4 := Lib.hid h4
  have H6 := Lib.hid h6
  have HBL := Lib.hid hbl
  clear hw4 h4 h6 h1 h2 hbl x0 x1 x2 y0 y1 y2 u0 u1 u2 u3 u4
  generalize (((w3.setCell ⟨w1.heap.size, 0, none⟩ (.slice A N c)).setCell ⟨w1.heap.size, 1, none⟩ (.int .i64 (k1 : Nat))).setCell ⟨w1.heap.size, 2, none⟩ (.int .i64 E1)) = w4 at *
  generalize hG6 : w1.heap.size + 1 = G6 at *
  have hlt46 : w1.heap.size < G6 := by omega
  have hne5 : ¬ G6 = w1.heap.size := by omega
  have hne6 : ¬ w1.heap.size = G6 := by omega
  clear hG6
  generalize w1.heap.size = G4 at *
  obtain ⟨x0, x1, x2, y0, y1, y2⟩ := H4.out.three
  obtain ⟨u0, u1, u2, u3, u4⟩ := H6.out.five
  obtain ⟨t0, t1, t2, t3, t4⟩ := H6.out.frees
  refine (KNK.out _).mono ?_
  rintro r wq ⟨rfl, rfl⟩
  go_upto_region 21 with fail
  have HO : Hid (w4.ownsRow (G6 + 1) 3 1 (.slice none ([] : List Int).length 0) ([] : List Int).length (litI [])) := World.ownsRow_nil _ _ _ _
  obtain ⟨A9, c9, e9, q1, q2, q3⟩ := lies_ownI HO.out
  cases e9
  obtain ⟨oA, oc, hv, ho⟩ := HCH.out none 0
  have kq := KRA.out kd 0 0 0 ([] : List Int) none 0 w4.drew (q3.below (Below.refl w4.heap.size w4).drew)
  try simp only [List.length_nil] at kq hv
  try rw [show ((0 : Nat) : Int) = 0 from rfl] at kq
  have KQ := Lib.hid kq
  clear kq q1 q2 q3
  generalize hRR : rightA (kd : Nat) (0 : Nat) (0 : Nat) (0 : Nat) ([] : List Int) = R at *
  have HRR := Lib.hid hRR
  clear hRR
  have HV := Lib.hid hv
  have HOO := Lib.hid ho
  clear hv ho HCH
  have hd := (Below.refl w4.heap.size w4).drew
  obtain ⟨x0', x1', x2', y0', y1', y2'⟩ := (box_drew21 H4.out).three
  obtain ⟨u0', u1', u2', u3', u4'⟩ := (box_drew21 H6.out).five
  go_region_with (first | (go_at_call 26; refine Calls.mono KQ.out ?_; rintro r w5 ⟨rfl, g2⟩; have g3 := hd.trans g2; have H1 := Lib.hid (H1.out.below g3 H1.out.lt); have H2 := Lib.hid (H2.out.below g3 H2.out.lt); have H4 := Lib.hid (H4.out.below g3 H4.out.lt); have H6 := Lib.hid (H6.out.below g3 H6.out.lt); have HBL := Lib.hid (HBL.out.trans (g3.mono HBL.out.size)); have HO := Lib.hid (ownI_below HO.out g3); clear g2 g3; obtain ⟨x0, x1, x2, y0, y1, y2⟩ := H4.out.three; obtain ⟨u0, u1, u2, u3, u4⟩ := H6.out.five) | (go_at_call 98; refine Calls.mono (KFM.out k1 E1 R _) ?_; rintro r w6 ⟨rfl, g3⟩; have H1 := Lib.hid (H1.out.below g3 H1.out.lt); have H2 := Lib.hid (H2.out.below g3 H2.out.lt); have H4 := Lib.hid (H4.out.below g3 H4.out.lt); have H6 := Lib.hid (H6.out.below g3 H6.out.lt); have HBL := Lib.hid (HBL.out.trans (g3.mono HBL.out.size)); have HO := Lib.hid (ownI_below HO.out g3); clear g3; obtain ⟨x0, x1, x2, y0, y1, y2⟩ := H4.out.three; obtain ⟨u0, u1, u2, u3, u4⟩ := H6.out.five))
  all_goals
    generalize hEE : chkF R E1 = E at *
    have HEE := Lib.hid hEE
    clear hEE
    have hw4 : Wr G4 w6 (((w6.setCell ⟨G4, 0, none⟩ (.slice A N c)).setCell ⟨G4, 1, none⟩ (.int .i64 (k1 : Nat))).setCell ⟨G4, 2, none⟩ (.int .i64 E)) := ((Wr.set G4 0 _ _).trans (Wr.set G4 1 _ _)).trans (Wr.set G4 2 _ _)
    have h4 : Box (((w6.setCell ⟨G4, 0, none⟩ (.slice A N c)).setCell ⟨G4, 1, none⟩ (.int .i64 (k1 : Nat))).setCell ⟨G4, 2, none⟩ (.int .i64 E)) G4 #[.slice A N c, .int .i64 (k1 : Nat), .int .i64 E] 34 := ((H4.out.set 0 _).set 1 _).set 2 _
    have h6 := hw4.box H6.out (by omega)
    have h1 := hw4.box H1.out (by omega)
    have h2 := hw4.box H2.out (by omega)
    have hbl : Below w.heap.size w (((w6.setCell ⟨G4, 0, none⟩ (.slice A N c)).setCell ⟨G4, 1, none⟩ (.int .i64 (k1 : Nat))).setCell ⟨G4, 2, none⟩ (.int .i64 E)) := ((HBL.out.setCell (p := ⟨G4, 0, none⟩) (by show w.heap.size ≤ G4; omega) _).setCell (p := ⟨G4, 1, none⟩) (by show w.heap.size ≤ G4; omega) _).setCell (p := ⟨G4, 2, none⟩) (by show w.heap.size ≤ G4; omega) _
    have ho := ownI_wr2 HO.out hw4 (by omega)
    have H1 := Lib.hid h1
    have H2 := Lib.hid h2
    have H4 := Lib.hid h4
    have H6 := Lib.hid h6
    have HBL := Lib.hid hbl
    have HO := Lib.hid ho
    clear ho hw4 h4 h6 h1 h2 hbl
    go_upto_region 22 with fail
    generalize (((w6.setCell ⟨G4, 0, none⟩ (.slice A N c)).setCell ⟨G4, 1, none⟩ (.int .i64 (k1 : Nat))).setCell ⟨G4, 2, none⟩ (.int .i64 E)) = w7 at *
    obtain ⟨x0, x1, x2, y0, y1, y2⟩ := H4.out.three
    obtain ⟨u0, u1, u2, u3, u4⟩ := H6.out.five
    obtain ⟨a0, a1, a2, b0, b1, b2⟩ := H1.out.three
    obtain ⟨c0, c1, c2, c3, c4⟩ := H2.out.five
    obtain ⟨d0, d1, d2, d3, d4⟩ := H2.out.frees
    have n1 : ¬ w.heap.size + 1 = G4 := by omega
    have n2 : ¬ G4 = w.heap.size + 1 := by omega
    have n3 : ¬ w.heap.size + 1 + 1 = G4 := by omega
    have n4 : ¬ G4 = w.heap.size + 1 + 1 := by omega
    have n5 : ¬ w.heap.size + 1 = G6 := by omega
    have n6 : ¬ w.heap.size + 1 + 1 = G6 := by omega
    have hv := HV.out
    by_cases hE : E = 0
    · subst hE
      rw [if_pos rfl] at hv
      clear HV HEE HRR
      have HVV := Lib.hid hv
      clear hv
      obtain ⟨x0', x1', x2', y0', y1', y2'⟩ := (box_drew21 H4.out).three
      obtain ⟨u0', u1', u2', u3', u4'⟩ := (box_drewI H6.out).five
      obtain ⟨a0', a1', a2', b0', b1', b2'⟩ := (box_drewI H1.out).three
      obtain ⟨c0', c1', c2', c3', c4'⟩ := (box_drewI H2.out).five
      obtain ⟨d0', d1', d2', d3', d4'⟩ := (box_drewI H2.out).frees
      go_wp2
      go_region
      go_wp2
      have h1a := (((H1.out).set 0 (.slice A N c)).set 1 (.int .i64 (k1 : Nat))).set 2 (.int .i64 0)
      have h1f := ((Wr.set (w.heap.size + 1 + 1) 4 _ (.int .i64 0)).box ((Wr.set (w.heap.size + 1 + 1) 3 _ (.int .i64 0)).box ((Wr.set (w.heap.size + 1 + 1) 2 _ (.slice none 0 0)).box ((Wr.set (w.heap.size + 1 + 1) 1 _ (.int .i64 0)).box ((Wr.set (w.heap.size + 1 + 1) 0 _ (.int .i64 (kd : Nat))).box h1a (by omega)) (by omega)) (by omega)) (by omega)) (by omega))
      have h2f := (((((((Wr.set (w.heap.size + 1) 2 _ (.int .i64 0)).box ((Wr.set (w.heap.size + 1) 1 _ (.int .i64 (k1 : Nat))).box ((Wr.set (w.heap.size + 1) 0 _ (.slice A N c)).box (H2.out) (by omega)) (by omega)) (by omega)).set 0 (.int .i64 (kd : Nat))).set 1 (.int .i64 0)).set 2 (.slice none 0 0)).set 3 (.int .i64 0)).set 4 (.int .i64 0))
      have hof := (ownI_wr2 (ownI_wr2 (ownI_wr2 (ownI_wr2 (ownI_wr2 (ownI_wr2 (ownI_wr2 (ownI_wr2 HO.out (Wr.set (w.heap.size + 1) 0 _ (.slice A N c)) (by omega)) (Wr.set (w.heap.size + 1) 1 _ (.int .i64 (k1 : Nat))) (by omega)) (Wr.set (w.heap.size + 1) 2 _ (.int .i64 0)) (by omega)) (Wr.set (w.heap.size + 1 + 1) 0 _ (.int .i64 (kd : Nat))) (by omega)) (Wr.set (w.heap.size + 1 + 1) 1 _ (.int .i64 0)) (by omega)) (Wr.set (w.heap.size + 1 + 1) 2 _ (.slice none 0 0)) (by omega)) (Wr.set (w.heap.size + 1 + 1) 3 _ (.int .i64 0)) (by omega)) (Wr.set (w.heap.size + 1 + 1) 4 _ (.int .i64 0)) (by omega))
      have hbf := ((((((((HBL.out.setCell (p := ⟨w.heap.size + 1, 0, none⟩) (by show w.heap.size ≤ w.heap.size + 1; omega) (.slice A N c)).setCell (p := ⟨w.heap.size + 1, 1, none⟩) (by show w.heap.size ≤ w.heap.size + 1; omega) (.int .i64 (k1 : Nat))).setCell (p := ⟨w.heap.size + 1, 2, none⟩) (by show w.heap.size ≤ w.heap.size + 1; omega) (.int .i64 0)).setCell (p := ⟨w.heap.size + 1 + 1, 0, none⟩) (by show w.heap.size ≤ w.heap.size + 1 + 1; omega) (.int .i64 (kd : Nat))).setCell (p := ⟨w.heap.size + 1 + 1, 1, none⟩) (by show w.heap.size ≤ w.heap.size + 1 + 1; omega) (.int .i64 0)).setCell (p := ⟨w.heap.size + 1 + 1, 2, none⟩) (by show w.heap.size ≤ w.heap.size + 1 + 1; omega) (.slice none 0 0)).setCell (p := ⟨w.heap.size + 1 + 1, 3, none⟩) (by show w.heap.size ≤ w.heap.size + 1 + 1; omega) (.int .i64 0)).setCell (p := ⟨w.heap.size + 1 + 1, 4, none⟩) (by show w.heap.size ≤ w.heap.size + 1 + 1; omega) (.int .i64 0))
      have h1f := box_drewI h1f
      have h2f := box_drewI h2f
      have hof := World.ownsRow.drew hof
      have hbf := hbf.drew
      have HF1 := Lib.hid h1f
      have HF2 := Lib.hid h2f
      have HOF := Lib.hid hof
      have HBF := Lib.hid hbf
      clear h1a h1f h2f hof hbf
      generalize (((((((((w7.setCell ⟨w.heap.size + 1, 0, none⟩ (.slice A N c)).setCell ⟨w.heap.size + 1, 1, none⟩ (.int .i64 (k1 : Nat))).setCell ⟨w.heap.size + 1, 2, none⟩ (.int .i64 0)).setCell ⟨w.heap.size + 1 + 1, 0, none⟩ (.int .i64 (kd : Nat))).setCell ⟨w.heap.size + 1 + 1, 1, none⟩ (.int .i64 0)).setCell ⟨w.heap.size + 1 + 1, 2, none⟩ (.slice none 0 0)).setCell ⟨w.heap.size + 1 + 1, 3, none⟩ (.int .i64 0)).setCell ⟨w.heap.size + 1 + 1, 4, none⟩ (.int .i64 0)).drew) = w8 at *
      have h1f := HF1.out
      have h2f := HF2.out
      clear a0 a1 a2 b0 b1 b2 c0 c1 c2 c3 c4 d0 d1 d2 d3 d4 x0 x1 x2 y0 y1 y2 u0 u1 u2 u3 u4
      have s0 := h1f.cell 0
      have s1 := h1f.cell 1
      have s2 := h1f.cell 2
      have s3 := h2f.cell 0
      have s4 := h2f.cell 1
      have s5 := h2f.cell 2
      have s6 := h2f.cell 3
      have s7 := h2f.cell 4
      refine bodyPost_ret (v := .tuple #[.agg #[.slice A N c, .int .i64 (k1 : Nat), .int .i64 0], .agg #[.int .i64 (kd : Nat), .int .i64 0, .slice none 0 0, .int .i64 0, .int .i64 0]]) (by simp [results, Try.results28, go_sem, s0, s1, s2, s3, s4, s5, s6, s7]) rfl ⟨⟨oA, oc, ?_, ?_⟩, ?_⟩
      · rw [HO1.out.1, HO1.out.2, ← HVV.out]
      · have hz9 := HOO.out _ _ HOF.out
        obtain ⟨A8, c8, e8, -, -, g8⟩ := lies_ownI hz9
        cases e8
        exact g8
      · exact HBF.out
    · rw [if_neg hE] at hv
      have g1 : (E == 0) = false := by simpa using hE
      have g2 : (E != 0) = true := by simpa using hE
      clear HV HEE HRR hE
      have HVV := Lib.hid hv
      clear hv
      go_wp2
      have h1a := (((H1.out).set 0 (.slice A N c)).set 1 (.int .i64 (k1 : Nat))).set 2 (.int .i64 E)
      have h1f := ((Wr.set (w.heap.size + 1 + 1) 4 _ (.int .i64 0)).box ((Wr.set (w.heap.size + 1 + 1) 3 _ (.int .i64 0)).box ((Wr.set (w.heap.size + 1 + 1) 2 _ (.slice none 0 0)).box ((Wr.set (w.heap.size + 1 + 1) 1 _ (.int .i64 0)).box ((Wr.set (w.heap.size + 1 + 1) 0 _ (.int .i64 0)).box h1a (by omega)) (by omega)) (by omega)) (by omega)) (by omega))
      have h2f := (((((((Wr.set (w.heap.size + 1) 2 _ (.int .i64 E)).box ((Wr.set (w.heap.size + 1) 1 _ (.int .i64 (k1 : Nat))).box ((Wr.set (w.heap.size + 1) 0 _ (.slice A N c)).box (H2.out) (by omega)) (by omega)) (by omega)).set 0 (.int .i64 0)).set 1 (.int .i64 0)).set 2 (.slice none 0 0)).set 3 (.int .i64 0)).set 4 (.int .i64 0))
      have hof := (ownI_wr2 (ownI_wr2 (ownI_wr2 (ownI_wr2 (ownI_wr2 (ownI_wr2 (ownI_wr2 (ownI_wr2 HO.out (Wr.set (w.heap.size + 1) 0 _ (.slice A N c)) (by omega)) (Wr.set (w.heap.size + 1) 1 _ (.int .i64 (k1 : Nat))) (by omega)) (Wr.set (w.heap.size + 1) 2 _ (.int .i64 E)) (by omega)) (Wr.set (w.heap.size + 1 + 1) 0 _ (.int .i64 0)) (by omega)) (Wr.set (w.heap.size + 1 + 1) 1 _ (.int .i64 0)) (by omega)) (Wr.set (w.heap.size + 1 + 1) 2 _ (.slice none 0 0)) (by omega)) (Wr.set (w.heap.size + 1 + 1) 3 _ (.int .i64 0)) (by omega)) (Wr.set (w.heap.size + 1 + 1) 4 _ (.int .i64 0)) (by omega))
      have hbf := ((((((((HBL.out.setCell (p := ⟨w.heap.size + 1, 0, none⟩) (by show w.heap.size ≤ w.heap.size + 1; omega) (.slice A N c)).setCell (p := ⟨w.heap.size + 1, 1, none⟩) (by show w.heap.size ≤ w.heap.size + 1; omega) (.int .i64 (k1 : Nat))).setCell (p := ⟨w.heap.size + 1, 2, none⟩) (by show w.heap.size ≤ w.heap.size + 1; omega) (.int .i64 E)).setCell (p := ⟨w.heap.size + 1 + 1, 0, none⟩) (by show w.heap.size ≤ w.heap.size + 1 + 1; omega) (.int .i64 0)).setCell (p := ⟨w.heap.size + 1 + 1, 1, none⟩) (by show w.heap.size ≤ w.heap.size + 1 + 1; omega) (.int .i64 0)).setCell (p := ⟨w.heap.size + 1 + 1, 2, none⟩) (by show w.heap.size ≤ w.heap.size + 1 + 1; omega) (.slice none 0 0)).setCell (p := ⟨w.heap.size + 1 + 1, 3, none⟩) (by show w.heap.size ≤ w.heap.size + 1 + 1; omega) (.int .i64 0)).setCell (p := ⟨w.heap.size + 1 + 1, 4, none⟩) (by show w.heap.size ≤ w.heap.size + 1 + 1; omega) (.int .i64 0))
      have HF1 := Lib.hid h1f
      have HF2 := Lib.hid h2f
      have HOF := Lib.hid hof
      have HBF := Lib.hid hbf
      clear h1a h1f h2f hof hbf
      generalize ((((((((w7.setCell ⟨w.heap.size + 1, 0, none⟩ (.slice A N c)).setCell ⟨w.heap.size + 1, 1, none⟩ (.int .i64 (k1 : Nat))).setCell ⟨w.heap.size + 1, 2, none⟩ (.int .i64 E)).setCell ⟨w.heap.size + 1 + 1, 0, none⟩ (.int .i64 0)).setCell ⟨w.heap.size + 1 + 1, 1, none⟩ (.int .i64 0)).setCell ⟨w.heap.size + 1 + 1, 2, none⟩ (.slice none 0 0)).setCell ⟨w.heap.size + 1 + 1, 3, none⟩ (.int .i64 0)).setCell ⟨w.heap.size + 1 + 1, 4, none⟩ (.int .i64 0)) = w8 at *
      have h1f := HF1.out
      have h2f := HF2.out
      clear a0 a1 a2 b0 b1 b2 c0 c1 c2 c3 c4 d0 d1 d2 d3 d4 x0 x1 x2 y0 y1 y2 u0 u1 u2 u3 u4
      have s0 := h1f.cell 0
      have s1 := h1f.cell 1
      have s2 := h1f.cell 2
      have s3 := h2f.cell 0
      have s4 := h2f.cell 1
      have s5 := h2f.cell 2
      have s6 := h2f.cell 3
      have s7 := h2f.cell 4
      refine bodyPost_ret (v := .tuple #[.agg #[.slice A N c, .int .i64 (k1 : Nat), .int .i64 E], .agg #[.int .i64 0, .int .i64 0, .slice none 0 0, .int .i64 0, .int .i64 0]]) (by simp [results, Try.results28, go_sem, s0, s1, s2, s3, s4, s5, s6, s7]) rfl ⟨⟨oA, oc, ?_, ?_⟩, ?_⟩
      · rw [HO1.out.1, HO1.out.2, ← HVV.out]
      · have hz9 := HOO.out _ _ HOF.out
        obtain ⟨A8, c8, e8, -, -, g8⟩ := lies_ownI hz9
        cases e8
        exact g8
      · exact HBF.out
end Go.Proofs.Ytpoemflclbhekaa
