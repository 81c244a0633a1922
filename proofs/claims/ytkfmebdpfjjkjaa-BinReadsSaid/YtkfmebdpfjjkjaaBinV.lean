/- Layer 21 (bin): the reference's reader: ReadInts. -/
import Derived.Test.YtkfmebdpfjjkjaaBinU
namespace Go.Proofs.Ytkfmebdpfjjkjaa
open Go.RowKit
set_option linter.unusedVariables false
set_option linter.unusedSimpArgs false

/-- the memory of the reference's ReadInts, in its loop -/
structure IJ (w : World) (G : Nat) (A : Option Addr) (N c : Nat) (k e k' e' : Int) (L : List Int) (v : Value) (wr : World) : Prop where
  b0 : Box wr w.heap.size #[.slice A N c, .int .i64 k, .int .i64 e] 56
  b1 : Box wr (w.heap.size + 1) #[.slice none 0 0, .int .i64 0, .int .i64 0] 56
  b6 : Box wr G #[.slice A N c, .int .i64 k', .int .i64 e'] 56
  own : wr.ownsRow (G + 1) 3 1 v L.length (litI L)
  bel : Below w.heap.size w wr
  hG : w.heap.size + 2 ≤ G
theorem IJ.below {w : World} {G : Nat} {A : Option Addr} {N c : Nat} {k e k' e' : Int} {L : List Int} {v : Value} {wr wy : World} (h : IJ w G A N c k e k' e' L v wr) (hb : Below wr.heap.size wr wy) : IJ w G A N c k e k' e' L v wy :=
  ⟨h.b0.below hb h.b0.lt, h.b1.below hb h.b1.lt, h.b6.below hb h.b6.lt, ownI_below h.own hb, h.bel.trans (hb.mono h.bel.size), h.hG⟩
theorem IJ.set {w : World} {G : Nat} {A : Option Addr} {N c : Nat} {k e k' e' : Int} {L : List Int} {v : Value} {wr : World} (h : IJ w G A N c k e k' e' L v wr) (k2 e2 : Int) :
    IJ w G A N c k e k2 e2 L v (((wr.setCell ⟨G, 0, none⟩ (.slice A N c)).setCell ⟨G, 1, none⟩ (.int .i64 k2)).setCell ⟨G, 2, none⟩ (.int .i64 e2)) := by
  have hG := h.hG
  have hs : ∀ (X : World) (i : Nat) (u : Value) (j : Nat), j ≠ G → (X.setCell ⟨G, i, none⟩ u).heap[j]? = X.heap[j]? := fun X i u j hj => Below.heap_setCell _ _ _ _ hj
  have hb : ∀ j, j ≠ G → (((wr.setCell ⟨G, 0, none⟩ (.slice A N c)).setCell ⟨G, 1, none⟩ (.int .i64 k2)).setCell ⟨G, 2, none⟩ (.int .i64 e2)).heap[j]? = wr.heap[j]? := fun j hj => (hs _ _ _ _ hj).trans ((hs _ _ _ _ hj).trans (hs _ _ _ _ hj))
  refine ⟨(hb _ (by omega)).trans h.b0, (hb _ (by omega)).trans h.b1, ((h.b6.set 0 _).set 1 _).set 2 _, ownI_keep h.own (Nat.le_refl _) (fun j h1 h2 => hb j (by omega)), ?_, hG⟩
  exact ((h.bel.setCell (by show _ ≤ G; omega) _).setCell (by show _ ≤ G; omega) _).setCell (by show _ ≤ G; omega) _
theorem IJ.app {w : World} {G : Nat} {A : Option Addr} {N c : Nat} {k e k' e' : Int} {L L2 : List Int} {v v2 : Value} {wr wy : World} (h : IJ w G A N c k e k' e' L v wr) (hb : Below (G + 1) wr wy) (ho : wy.ownsRow (G + 1) 3 1 v2 L2.length (litI L2)) : IJ w G A N c k e k' e' L2 v2 wy :=
  ⟨h.b0.below hb (by have := h.hG; omega), h.b1.below hb (by have := h.hG; omega), h.b6.below hb (by omega), ho, h.bel.trans (hb.mono (by have := h.hG; omega)), h.hG⟩
set_option maxRecDepth 100000 in
set_option maxHeartbeats 16000000 in
theorem ref_ReadL21 (b : List Int) (A : Option Addr) (c k : Nat) (e most : Int) (hm : I64 most) (w : World) (hA : LiesY w w.heap.size A b) (hb : byt b) (hl : b.length ≤ 1000000) (hk : k ≤ b.length) : Calls Try.prog 82 #[.agg #[.slice A b.length c, .int .i64 (k : Nat), .int .i64 e], .int .i64 most] w fun r w' => ∃ A2 c2, r = .returned (.tuple #[.agg #[.slice A b.length c, .int .i64 ((rL b k e most).1.1 : Nat), .int .i64 (rL b k e most).1.2], .slice A2 (rL b k e most).2.length c2]) ∧ w'.ownsRow w.heap.size 3 1 (.slice A2 (rL b k e most).2.length c2) (rL b k e most).2.length (litI (rL b k e most).2) ∧ Below w.heap.size w w' := by
  obtain ⟨hX, hX0, hW⟩ := box_r w A b.length c (k : Nat) e
  have KN := Lib.hid (ref_ReadN21 b A c k e most hm _ ((hA.below hW).mono hW.size) hb hl hk)
  have KI : Hid (∀ W k1 e1, Below w.heap.size w W → k1 ≤ b.length → Calls Try.prog 80 #[.agg #[.slice A b.length c, .int .i64 (k1 : Nat), .int .i64 e1]] W fun r w' => r = .returned (.tuple #[.agg #[.slice A b.length c, .int .i64 ((rU b k1 e1).1.1 : Nat), .int .i64 (rU b k1 e1).1.2], .int .i64 (unfoldI (rU b k1 e1).2)]) ∧ Below W.heap.size W w') := fun W k1 e1 h1 h2 => ref_ReadI21 b A c k1 e1 W ((hA.below h1).mono h1.size) hb hl h2
  have HUK : Hid (∀ k1, k1 ≤ b.length → ((rU b k1 0).1.2 = 0 → k1 < (rU b k1 0).1.1) ∧ ((rU b k1 0).1.2 ≠ 0 → (rU b k1 0).1.1 = k1) ∧ (rU b k1 0).1.1 ≤ b.length) := fun k1 h1 => ⟨fun h => (rU_ok hb h).1, fun h => (rU_err h).1, rU_at hb h1⟩
  have hn0 : ((rN b k e most).2 : Int) ≤ 9223372036854775807 := by
    by_cases c1 : (rN b k e most).1.2 = 0
    · have := (rN_bd c1).1
      have := hm.2
      omega
    · rw [(rN_err c1).2]; omega
  have hK1 : (rN b k e most).1.1 ≤ b.length := by
    by_cases c1 : (rN b k e most).1.2 = 0
    · rw [(rN_bd c1).2.2]; exact rU_at hb hk
    · rw [(rN_err c1).1]; exact hk
  have HFIN : Hid (∀ (L : List Int) (s : Nat × Int), rdL b (rN b k e most).2 (rN b k e most).1 [] = (s, L) → rL b k e most = if s.2 ≠ 0 then ((k, s.2), []) else (s, L)) := fun L s h => by
    show _ = _
    unfold rL
    rw [h]
  obtain ⟨rr, hrr⟩ : ∃ rr, rr = rL b k e most := ⟨_, rfl⟩
  rw [← hrr] at HFIN ⊢
  have HX := Lib.hid hX
  have HX0 := Lib.hid hX0
  have HW := Lib.hid hW
  clear hrr hX hX0 hW hA hb
  obtain ⟨rn, hrn⟩ : ∃ rn, rn = rN b k e most := ⟨_, rfl⟩
  rw [← hrn] at KN HFIN hn0 hK1
  clear hrn
  obtain ⟨⟨K1, E1⟩, n⟩ := rn
  simp only at KN HFIN hn0 hK1
  generalize hN : b.length = N at *
  clear hN
  go_enter Try.func82, Try.ntmps82
  go_wp2_with fail
  refine (KN.out).mono ?_
  rintro r w1 ⟨rfl, hb⟩
  have HJ : Hid (IJ w w1.heap.size A N c (k : Nat) e (K1 : Nat) E1 [] (.slice none 0 0) (w1.alloc (.cells #[.slice A N c, .int .i64 (K1 : Nat), .int .i64 E1] 56))) := by
    have hz := hb.size
    rw [alloc_size', alloc_size'] at hz
    have hbe := HW.out.trans (hb.mono HW.out.size)
    exact ⟨(HX0.out.below hb HX0.out.lt).alloc _, (HX.out.below hb HX.out.lt).alloc _, Box.new w1 _ _, World.ownsRow_nil _ _ _ _, hbe.alloc hbe.size _, hz⟩
  have HG : Hid (w.heap.size + 2 ≤ w1.heap.size) := HJ.out.hG
  clear hb HX HX0 HW KN
  generalize hG : w1.heap.size = G at *
  go_wp2
  generalize w1.alloc (.cells #[.slice A N c, .int .i64 (K1 : Nat), .int .i64 E1] 56) = w2 at *
  clear hG
  go_loopw [8, 9, 10, 11] (fun lv iv _ _ wr => ∃ (L : List Int) (A7 : Option Addr) (c7 k1 : Nat) (e1 : Int), lv = .slice A7 L.length c7 ∧ iv = .int .i64 (L.length : Nat) ∧ L.length ≤ n ∧ k1 ≤ N ∧ L.length ≤ k1 + 1 ∧ (e1 = 0 → L.length ≤ k1) ∧ Hid (IJ w G A N c (k : Nat) e (k1 : Nat) e1 L (.slice A7 L.length c7) wr) ∧ Hid (rdL b n (K1, E1) [] = rdL b (n - L.length) (k1, e1) L)) (fun lv _ _ _ _ => n - slN lv)
  case atStart => exact ⟨[], none, 0, K1, E1, rfl, rfl, Nat.zero_le _, hK1, Nat.zero_le _, fun _ => Nat.zero_le _, HJ, rfl⟩
  case round =>
    obtain ⟨L, A7, c7, k1, e1, rfl, rfl, hLn, hk1, hLk, hLe, HJ, HE⟩ := hrel
    obtain ⟨v0, v1, v2, f0, f1, f2⟩ := HJ.out.b6.three
    by_cases hgo : L.length < n ∧ e1 = 0
    · obtain ⟨hlt, he⟩ := hgo
      subst he
      have hlg : (L.length : Int) < (n : Int) := by omega
      have hl1 := hLe rfl
      have KQ := Lib.hid (KI.out wr k1 0 HJ.out.bel hk1)
      have HE2 : Hid (rdL b n (K1, E1) [] = rdL b (n - (L ++ [unfoldI (rU b k1 0).2]).length) ((rU b k1 0).1.1, (rU b k1 0).1.2) (L ++ [unfoldI (rU b k1 0).2])) := by
        show _ = _
        rw [HE.out, List.length_append, List.length_singleton, show n - L.length = n - (L.length + 1) + 1 from by omega, rdL_step]
      obtain ⟨hu1, hu2, hu3⟩ := HUK.out k1 hk1
      clear HE KI HUK HFIN hLe
      generalize (rU b k1 0).1.1 = k2 at *
      generalize (rU b k1 0).1.2 = e2 at *
      generalize unfoldI (rU b k1 0).2 = d at *
      have hln : L.length + 1 ≤ 1000000000 := by omega
      generalize hM : L.length = M at *
      have HM := Lib.hid hM
      clear hM
      go_wp2_with fail
      refine (KQ.out).mono ?_
      rintro r w3 ⟨rfl, hb⟩
      have hal := (Below.refl w3.heap.size w3).alloc (Nat.le_refl _) (.cells #[.slice A N c, .int .i64 (k2 : Nat), .int .i64 e2] 56)
      have HJ4 := Lib.hid (HJ.out.below hb)
      have hG3 : G < w3.heap.size := (HJ.out.below hb).b6.lt
      have hne1 : ¬ w3.heap.size = G := by omega
      have hne2 : ¬ G = w3.heap.size := by omega
      obtain ⟨x0, x1, x2, y0, y1, y2⟩ := HJ4.out.b6.three
      have HJ5 := Lib.hid ((HJ4.out.set (k2 : Nat) e2).below ((Below.refl _ _).alloc (Nat.le_refl _) (.cells #[.slice A N c, .int .i64 (k2 : Nat), .int .i64 e2] 56)))
      have hsz := HJ5.out.b6.lt
      clear hb hal KQ v0 v1 v2 f0 f1 f2
      go_upto_region 8 with fail
      generalize (((w3.setCell ⟨G, 0, none⟩ (.slice A N c)).setCell ⟨G, 1, none⟩ (.int .i64 (k2 : Nat))).setCell ⟨G, 2, none⟩ (.int .i64 e2)).alloc (.cells #[.slice A N c, .int .i64 (k2 : Nat), .int .i64 e2] 56) = w4 at *
      clear x0 x1 x2 y0 y1 y2 hne1 hne2 HJ4
      go_wp2_with (at_builtin; refine app_int (B := G + 1) rfl (.tmp 34) (.tmp 36) rfl _ L d rfl HJ5.out.own rfl hsz (by rw [HM.out]; exact hln) ?_; intro v3 w5 g1 g2 _; have HJ6 := Lib.hid (HJ5.out.app g2 g1); clear g1 g2)
      obtain ⟨A3, c3, e3, -, -, -⟩ := lies_ownI HJ6.out.own
      subst e3
      have hl3 : (L ++ [d]).length = M + 1 := by rw [List.length_append, HM.out]; rfl
      exact ⟨⟨L ++ [d], A3, c3, k2, e2, rfl, by rw [hl3]; go_num, by omega, hu3, (by by_cases hz : e2 = 0; (have := hu1 hz; omega); (have := hu2 hz; omega)), (fun hz => by have := hu1 hz; omega), HJ6.out, HE2⟩, by simp only [slN]; omega⟩
    · have hend : n - L.length = 0 ∨ e1 ≠ 0 := by
        rcases Nat.lt_or_ge L.length n with h1 | h1
        · exact .inr fun h2 => hgo ⟨h1, h2⟩
        · exact .inl (by omega)
      have HQ := Lib.hid (HFIN.out L (k1, e1) (by rw [HE.out, rdL_end (s := (k1, e1)) hend]))
      clear HFIN HE hend KI HUK
      obtain ⟨z0, z1, z2, zf0, zf1, zf2⟩ := HJ.out.b1.three
      obtain ⟨t0, t1, t2, tf0, tf1, tf2⟩ := HJ.out.b0.three
      have hgn : L.length < n ∨ ¬ L.length < n := by omega
      by_cases he : e1 = 0
      · subst he
        have hlg : ¬ (L.length : Int) < (n : Int) := fun h => hgo ⟨by omega, rfl⟩
        have HQ2 : Hid (rr = ((k1, 0), L)) := by
          have := HQ.out
          rw [if_neg (by simp)] at this
          exact this
        obtain ⟨A8, c8, e8, -, -, g8⟩ := lies_ownI HJ.out.own
        cases e8
        have HML : Hid (L.length = L.length) := rfl
        clear hgo HQ hLe g8
        generalize hM : L.length = M at *
        have HM := Lib.hid hM
        clear hM HML
        go_wp2
        have s0 := (HJ.out.b1.set 0 (.slice A N c)).cell 0
        have s1 := ((HJ.out.b1.set 0 (.slice A N c)).set 1 (.int .i64 (k1 : Nat))).cell 1
        have s2 := (((HJ.out.b1.set 0 (.slice A N c)).set 1 (.int .i64 (k1 : Nat))).set 2 (.int .i64 0)).cell 2
        refine bodyPost_ret (v := .tuple #[.agg #[.slice A N c, .int .i64 (k1 : Nat), .int .i64 0], .slice A7 M c7]) (by simp [results, Try.results82, go_sem, s0, s1, s2]) rfl ?_
        have hGG := HG.out
        have hbl := (((HJ.out.bel.setCell (p := ⟨w.heap.size + 1, 0, none⟩) (by simp) (.slice A N c)).setCell (p := ⟨w.heap.size + 1, 1, none⟩) (by simp) (.int .i64 (k1 : Nat))).setCell (p := ⟨w.heap.size + 1, 2, none⟩) (by simp) (.int .i64 0))
        have hown := HJ.out.own
        rw [HQ2.out]
        rw [← HM.out] at hown ⊢
        have ho2 := ownI_keep (w' := ((wr.setCell ⟨w.heap.size + 1, 0, none⟩ (.slice A N c)).setCell ⟨w.heap.size + 1, 1, none⟩ (.int .i64 (k1 : Nat))).setCell ⟨w.heap.size + 1, 2, none⟩ (.int .i64 0)) hown (Nat.le_refl _) (fun j h1 h2 => (Below.heap_setCell _ _ _ _ (by show j ≠ w.heap.size + 1; omega)).trans ((Below.heap_setCell _ _ _ _ (by show j ≠ w.heap.size + 1; omega)).trans (Below.heap_setCell _ _ _ _ (by show j ≠ w.heap.size + 1; omega))))
        exact ⟨_, _, rfl, ownI_keep ho2 (by omega) (fun j h1 h2 => rfl), hbl⟩
      · have heb : (e1 == 0) = false := by simpa using he
        have hne : (e1 != 0) = true := by simpa using he
        have HQ2 : Hid (rr = ((k, e1), [])) := by
          have := HQ.out
          rw [if_pos he] at this
          exact this
        clear hgo HQ hLe he
        generalize hM : L.length = M at *
        clear hM
        by_cases hlt : M < n
        · have hlg : (M : Int) < (n : Int) := by omega
          go_wp2_with fail
          refine (ref_fail21 A N c (k : Nat) e e1 _).mono ?_
          rintro r w3 ⟨rfl, hb⟩
          have HJ3 := Lib.hid (HJ.out.below hb)
          clear hb z0 z1 z2 zf0 zf1 zf2 t0 t1 t2 tf0 tf1 tf2 v0 v1 v2 f0 f1 f2
          obtain ⟨z0, z1, z2, zf0, zf1, zf2⟩ := HJ3.out.b1.three
          go_wp2
          have s0 := (HJ3.out.b1.set 0 (.slice A N c)).cell 0
          have s1 := ((HJ3.out.b1.set 0 (.slice A N c)).set 1 (.int .i64 (k : Nat))).cell 1
          have s2 := (((HJ3.out.b1.set 0 (.slice A N c)).set 1 (.int .i64 (k : Nat))).set 2 (.int .i64 e1)).cell 2
          refine bodyPost_ret (v := .tuple #[.agg #[.slice A N c, .int .i64 (k : Nat), .int .i64 e1], .slice none 0 0]) (by simp [results, Try.results82, go_sem, s0, s1, s2]) rfl ?_
          rw [HQ2.out]
          refine ⟨none, 0, rfl, World.ownsRow_nil _ _ _ _, ?_⟩
          exact (((HJ3.out.bel.setCell (p := ⟨w.heap.size + 1, 0, none⟩) (by simp) (.slice A N c)).setCell (p := ⟨w.heap.size + 1, 1, none⟩) (by simp) (.int .i64 (k : Nat))).setCell (p := ⟨w.heap.size + 1, 2, none⟩) (by simp) (.int .i64 e1))
        · have hlg : ¬ (M : Int) < (n : Int) := by omega
          go_wp2_with fail
          refine (ref_fail21 A N c (k : Nat) e e1 _).mono ?_
          rintro r w3 ⟨rfl, hb⟩
          have HJ3 := Lib.hid (HJ.out.below hb)
          clear hb z0 z1 z2 zf0 zf1 zf2 t0 t1 t2 tf0 tf1 tf2 v0 v1 v2 f0 f1 f2
          obtain ⟨z0, z1, z2, zf0, zf1, zf2⟩ := HJ3.out.b1.three
          go_wp2
          have s0 := (HJ3.out.b1.set 0 (.slice A N c)).cell 0
          have s1 := ((HJ3.out.b1.set 0 (.slice A N c)).set 1 (.int .i64 (k : Nat))).cell 1
          have s2 := (((HJ3.out.b1.set 0 (.slice A N c)).set 1 (.int .i64 (k : Nat))).set 2 (.int .i64 e1)).cell 2
          refine bodyPost_ret (v := .tuple #[.agg #[.slice A N c, .int .i64 (k : Nat), .int .i64 e1], .slice none 0 0]) (by simp [results, Try.results82, go_sem, s0, s1, s2]) rfl ?_
          rw [HQ2.out]
          refine ⟨none, 0, rfl, World.ownsRow_nil _ _ _ _, ?_⟩
          exact (((HJ3.out.bel.setCell (p := ⟨w.heap.size + 1, 0, none⟩) (by simp) (.slice A N c)).setCell (p := ⟨w.heap.size + 1, 1, none⟩) (by simp) (.int .i64 (k : Nat))).setCell (p := ⟨w.heap.size + 1, 2, none⟩) (by simp) (.int .i64 e1))
end Go.Proofs.Ytkfmebdpfjjkjaa
