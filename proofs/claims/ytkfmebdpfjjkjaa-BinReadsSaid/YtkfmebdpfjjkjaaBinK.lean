/- Layer 21 (bin): Ints of a reader. -/
import Derived.Test.YtkfmebdpfjjkjaaBinJ
namespace Go.Proofs.Ytkfmebdpfjjkjaa
open Go.RowKit
set_option linter.unusedVariables false
set_option linter.unusedSimpArgs false

theorem rL_err {b : List Int} {k : Nat} {e most : Int} (h : (rL b k e most).1.2 ≠ 0) : (rL b k e most).1.1 = k ∧ (rL b k e most).2 = [] := by
  unfold rL at h ⊢
  split at h
  · rename_i h1; rw [if_pos h1]; exact ⟨rfl, rfl⟩
  · rename_i h1; exact absurd h h1
theorem rL_e {b : List Int} {k : Nat} {e most : Int} (h : e ≠ 0) : rL b k e most = ((k, e), []) := by
  unfold rL
  rw [rN_e h]
  show (if e ≠ 0 then ((k, e), []) else ((k, e), [])) = _
  split <;> rfl
/-- how long a slice is -/
def slN : Value → Nat
  | .slice _ n _ => n
  | _ => 0
theorem ownI_keep {w w' : World} {B B' : Nat} {v : Value} {l : List Int} (h : w.ownsRow B 3 1 v l.length (litI l)) (hB : B' ≤ B) (hk : ∀ j, B ≤ j → j < w.heap.size → w'.heap[j]? = w.heap[j]?) : w'.ownsRow B' 3 1 v l.length (litI l) := by
  refine ⟨h.1, ?_⟩
  rcases h.2 with h0 | ⟨g, cap, cur, h1, hbg, hh, hr⟩
  · exact .inl h0
  · refine .inr ⟨g, cap, cur, h1, Nat.le_trans hB hbg, (hk g hbg ?_).trans hh, hr⟩
    rcases Nat.lt_or_ge g w.heap.size with h | h
    · exact h
    · rw [Array.getElem?_eq_none h] at hh; cases hh
theorem rdL_end {b : List Int} {s : Nat × Int} {L : List Int} {j : Nat} (h : j = 0 ∨ s.2 ≠ 0) : rdL b j s L = (s, L) := by
  cases j with
  | zero => rfl
  | succ j =>
    have : s.2 ≠ 0 := by rcases h with h | h
                         · omega
                         · exact h
    simp only [rdL]
    rw [if_pos this]
theorem rdL_step {b : List Int} {k : Nat} {L : List Int} {j : Nat} : rdL b (j + 1) (k, 0) L = rdL b j (rU b k 0).1 (L ++ [unfoldI (rU b k 0).2]) := by
  simp only [rdL]
  rw [if_neg (by simp)]
set_option maxRecDepth 100000 in
set_option maxHeartbeats 8000000 in
theorem cl_Ints {X0 : World} {B g k pa pb : Nat} {b : List Int} (most : Int) (hm : I64 most) (h : RdAt X0 B g b k 0) (ha : Box X0 pa #[.pointer (some ⟨g, 0, none⟩)] 53) (hb : Box X0 pb #[.int .i64 most] 3) (hag : pa ≠ g) (hbg : pb ≠ g) :
    Calls Try.prog 140 #[.pointer (some ⟨pa, 0, none⟩), .pointer (some ⟨pb, 0, none⟩)] X0 (PartR_ints g B b (fun v w' k2 e2 => e2 = (rL b k 0 most).1.2 ∧ (e2 = 0 → k2 = (rL b k 0 most).1.1 ∧ w'.ownsRow X0.heap.size 3 1 v (rL b k 0 most).2.length (litI (rL b k 0 most).2))) X0) := by
  have KN := Lib.hid (rd_N most hm h)
  have KI := Lib.hid (fun W k1 (h1 : RdAt W B g b k1 0) => rd_I h1)
  obtain ⟨hgl, hBg, hk, hbl, hby⟩ := h.lt
  have HUB := Lib.hid (fun k1 => rU_bd hby k1 0)
  have HUK : Hid (∀ k1, ((rU b k1 0).1.2 = 0 → k1 < (rU b k1 0).1.1) ∧ ((rU b k1 0).1.2 ≠ 0 → (rU b k1 0).1.1 = k1)) := fun k1 => ⟨fun h => (rU_ok hby h).1, fun h => (rU_err h).1⟩
  have hn0 : ((rN b k 0 most).2 : Int) ≤ 9223372036854775807 := by
    by_cases c1 : (rN b k 0 most).1.2 = 0
    · have := (rN_bd c1).1
      have := hm.2
      omega
    · rw [(rN_err c1).2]; omega
  have HFIN : Hid (∀ (A : Option Addr) (c : Nat) (L : List Int) (W : World) (s : Nat × Int), rdL b (rN b k 0 most).2 (rN b k 0 most).1 [] = (s, L) → W.ownsRow X0.heap.size 3 1 (.slice A L.length c) L.length (litI L) → RdAt W B g b s.1 s.2 → Wr g X0 W → PartR_ints g B b (fun v w' k2 e2 => e2 = (rL b k 0 most).1.2 ∧ (e2 = 0 → k2 = (rL b k 0 most).1.1 ∧ w'.ownsRow X0.heap.size 3 1 v (rL b k 0 most).2.length (litI (rL b k 0 most).2))) X0 (.returned (.slice A L.length c)) W) := by
    intro A c L W s h1 h2 h3 h4
    refine ⟨A, L.length, c, s.1, s.2, rfl, h3, h4, ?_⟩
    have hrl : rL b k 0 most = if s.2 ≠ 0 then ((k, s.2), []) else (s, L) := by
      unfold rL
      rw [h1]
    rw [hrl]
    by_cases c1 : s.2 ≠ 0
    · rw [if_pos c1]; exact ⟨rfl, fun h => absurd h c1⟩
    · rw [if_neg c1]; exact ⟨rfl, fun _ => ⟨rfl, h2⟩⟩
  have HA := Lib.hid ha
  have HB := Lib.hid hb
  have a0 := (ha.cell 0).trans rfl
  have b0 := (hb.cell 0).trans rfl
  generalize PartR_ints g B b (fun v w' k2 e2 => e2 = (rL b k 0 most).1.2 ∧ (e2 = 0 → k2 = (rL b k 0 most).1.1 ∧ w'.ownsRow X0.heap.size 3 1 v (rL b k 0 most).2.length (litI (rL b k 0 most).2))) X0 = R at *
  clear h ha hb
  generalize (rN b k 0 most).1 = s0 at *
  generalize (rN b k 0 most).2 = n at *
  go_enter Try.func140, Try.ntmps140
  go_wp2_with fail
  refine (KN.out).mono ?_
  rintro e w1 ⟨rfl, g1, g2⟩
  have HR1 := Lib.hid g1
  have HW1 := Lib.hid g2
  clear g1 g2 a0 b0 KN
  go_wp2
  go_loopw [3] (fun v wr => ∃ (L : List Int) (A : Option Addr) (c k1 : Nat) (e1 : Int), v = .slice A L.length c ∧ L.length ≤ n ∧ L.length ≤ k1 + 1 ∧ (e1 = 0 → L.length ≤ k1) ∧ Hid (wr.ownsRow X0.heap.size 3 1 (.slice A L.length c) L.length (litI L)) ∧ Hid (RdAt wr B g b k1 e1) ∧ Hid (rdL b n s0 [] = rdL b (n - L.length) (k1, e1) L) ∧ Hid (Wr g X0 wr)) (fun v _ => n - slN v)
  case atStart => exact ⟨[], none, 0, s0.1, s0.2, rfl, Nat.zero_le _, Nat.zero_le _, fun _ => Nat.zero_le _, World.ownsRow_nil _ _ _ _, HR1, rfl, HW1⟩
  case round =>
    obtain ⟨L, A, c, k1, e1, rfl, hLn, hLk, hLe, HO, HR, HE, HW⟩ := hrel
    have a1 := ((HW.out.box HA.out hag).cell 0).trans rfl
    obtain ⟨A0, cc, c0, c1, c2, -, -⟩ := HR.out.cells
    by_cases hgo : L.length < n ∧ e1 = 0
    · obtain ⟨hlt, he⟩ := hgo
      subst he
      have hlg : (L.length : Int) < (n : Int) := by omega
      have hl1 := hLe rfl
      have hkb := HR.out.lt.2.2.1
      have KQ := Lib.hid (KI.out wr k1 HR.out)
      have HE2 : Hid (rdL b n s0 [] = rdL b (n - (L ++ [unfoldI (rU b k1 0).2]).length) (rU b k1 0).1 (L ++ [unfoldI (rU b k1 0).2])) := by
        show _ = _
        rw [HE.out, List.length_append, List.length_singleton, show n - L.length = n - (L.length + 1) + 1 from by omega, rdL_step]
      obtain ⟨hu1, hu2⟩ := HUK.out k1
      generalize (rU b k1 0).1 = s1 at *
      generalize unfoldI (rU b k1 0).2 = d at *
      have hln : L.length + 1 ≤ 1000000000 := by omega
      have hsz := HW.out.size
      clear HE
      generalize hN : L.length = N at *
      have HN := Lib.hid hN
      clear hN
      go_wp2_with fail
      refine (KQ.out).mono ?_
      rintro e w2 ⟨rfl, g1, g2⟩
      have HO2 : Hid (w2.ownsRow X0.heap.size 3 1 (.slice A N c) L.length (litI L)) := by
        have h1 := HO.out
        rw [← HN.out] at h1
        have h2 := ownI_keep h1 (Nat.le_refl _) (fun j hj1 hj2 => g2.block j hj2 (by omega))
        rw [HN.out] at h2 ⊢
        exact h2
      have HR2 := Lib.hid g1
      have HW2 := Lib.hid (HW.out.trans g2)
      have hs2 := g2.size
      clear g1 g2
      go_wp2_with (at_builtin; refine app_int (B := X0.heap.size) rfl (.tmp 19) (.tmp 22) rfl _ L d rfl HO2.out rfl (by omega) (by rw [HN.out]; exact hln) ?_; intro v3 w3 g1 g2 _; have HO3 := Lib.hid g1; have HB3 := Lib.hid g2; clear g1 g2)
      obtain ⟨A3, c3, e3, -, -, -⟩ := lies_ownI HO3.out
      have HO4 : Hid (w3.ownsRow X0.heap.size 3 1 (.slice A3 (L ++ [d]).length c3) (L ++ [d]).length (litI (L ++ [d]))) := by
        have := HO3.out
        rw [e3] at this
        exact this
      have hl3 : (L ++ [d]).length = N + 1 := by rw [List.length_append, HN.out]; rfl
      exact ⟨⟨L ++ [d], A3, c3, s1.1, s1.2, e3, by omega, (by by_cases hz : s1.2 = 0; (have := hu1 hz; omega); (have := hu2 hz; omega)), (fun hz => by have := hu1 hz; omega), HO4, HR2.out.low HB3.out hgl, HE2, HW2.out.low2 HB3.out⟩, by rw [e3]; simp only [slN]; omega⟩
    · have hend : n - L.length = 0 ∨ e1 ≠ 0 := by
        rcases Nat.lt_or_ge L.length n with h1 | h1
        · exact .inr fun h2 => hgo ⟨h1, h2⟩
        · exact .inl (by omega)
      have HQ : Hid (R (.returned (.slice A L.length c)) wr) := HFIN.out A c L wr (k1, e1) (by rw [HE.out, rdL_end (s := (k1, e1)) hend]) HO.out HR.out HW.out
      clear HFIN HE hend
      by_cases hlt : L.length < n
      · have hlg : (L.length : Int) < (n : Int) := by omega
        have he : e1 ≠ 0 := fun h2 => hgo ⟨hlt, h2⟩
        have heb : (e1 == 0) = false := by simpa using he
        clear hgo he hLe
        generalize L.length = N at *
        go_wp2
        first | exact HQ.out | (go_ret; exact HQ.out)
      · have hlg : ¬ (L.length : Int) < (n : Int) := by omega
        clear hgo hLe
        generalize L.length = N at *
        go_wp2
        first | exact HQ.out | (go_ret; exact HQ.out)
set_option maxRecDepth 100000 in
set_option maxHeartbeats 4000000 in
theorem rd_Ints {w : World} {B g k : Nat} {b : List Int} {e0 : Int} (most : Int) (hm : I64 most) (h : RdAt w B g b k e0) :
    Calls Try.prog 74 #[.pointer (some ⟨g, 0, none⟩), .int .i64 most] w fun e w' => ∃ A c, e = .returned (.slice A (rL b k e0 most).2.length c) ∧ w'.ownsRow w.heap.size 3 1 (.slice A (rL b k e0 most).2.length c) (rL b k e0 most).2.length (litI (rL b k e0 most).2) ∧ RdAt w' B g b (rL b k e0 most).1.1 (rL b k e0 most).1.2 ∧ Wr g w w' := by
  have hmf : ∀ (fn : Fn) (first cap : Array Value) (w : World), (Instr.makeFunc fn first cap).run Try.prog w = .ok (.func fn first cap) w := fun _ _ _ _ => rfl
  have HX := Lib.hid (((Kpc.start w).alloc #[.pointer (some ⟨g, 0, none⟩)] 53).alloc #[.int .i64 most] 3)
  rw [alloc_size'] at HX
  obtain ⟨hg, hBg, hk, hbl, hby⟩ := h.lt
  have hX := h.below HX.out.2.1
  have x0 := (HX.out.tail.head.cell 0).trans rfl
  have hs2 : ((w.alloc (.cells #[.pointer (some ⟨g, 0, none⟩)] 53)).alloc (.cells #[.int .i64 most] 3)).heap.size = w.heap.size + 2 := by rw [alloc_size', alloc_size']
  have KR : Hid (Calls Try.prog 139 #[.pointer (some ⟨g, 0, none⟩), .func (.func 140) #[] #[.pointer (some ⟨w.heap.size, 0, none⟩), .pointer (some ⟨w.heap.size + 1, 0, none⟩)]] ((w.alloc (.cells #[.pointer (some ⟨g, 0, none⟩)] 53)).alloc (.cells #[.int .i64 most] 3)) fun e w' => ∃ A c, e = .returned (.slice A (rL b k e0 most).2.length c) ∧ w'.ownsRow w.heap.size 3 1 (.slice A (rL b k e0 most).2.length c) (rL b k e0 most).2.length (litI (rL b k e0 most).2) ∧ RdAt w' B g b (rL b k e0 most).1.1 (rL b k e0 most).1.2 ∧ Wr g w w') := by
    by_cases he : e0 = 0
    · subst he
      refine (read_ok_ints w.heap.size (w.heap.size + 1) (fun v w' k2 e2 => e2 = (rL b k 0 most).1.2 ∧ (e2 = 0 → k2 = (rL b k 0 most).1.1 ∧ w'.ownsRow (w.heap.size + 5) 3 1 v (rL b k 0 most).2.length (litI (rL b k 0 most).2))) hX fun X hX1 hb1 hs => ?_).mono fun e w' hg => ?_
      · have := cl_Ints most hm hX1 (HX.out.tail.head.below hb1 HX.out.tail.head.lt) (HX.out.head.below hb1 HX.out.head.lt) (by omega) (by omega)
        rw [hs, hs2] at this
        exact this
      obtain ⟨A, m, c, k2, e2, X1, ⟨g1, g2⟩, g3, gs, gj, g4, g5⟩ := hg
      by_cases h0 : e2 = 0
      · obtain ⟨rfl, g6⟩ := g4 h0
        obtain ⟨g7, g8⟩ := g2 h0
        obtain ⟨A', c', e', -⟩ := lies_ownI g8
        rw [e'] at g8 ⊢
        rw [← g1, ← g7, h0]
        refine ⟨A', c', rfl, ownI_keep g8 (by omega) (fun j hj1 hj2 => ?_), g6, (Wr.of g HX.out.2.1).trans g3⟩
        exact gj j (by omega) (by omega)
      · obtain ⟨rfl, g6⟩ := g5 h0
        obtain ⟨g7, g8⟩ := rL_err (b := b) (k := k) (e := 0) (most := most) (by rw [← g1]; exact h0)
        rw [g8, g7, ← g1]
        exact ⟨none, 0, rfl, World.ownsRow_nil _ _ _ _, g6, (Wr.of g HX.out.2.1).trans g3⟩
    · rw [rL_e he]
      exact (read_no_ints hX he _).mono fun e w' hg => ⟨none, 0, hg.1, World.ownsRow_nil _ _ _ _, hg.2.1, (Wr.of g HX.out.2.1).trans hg.2.2⟩
  clear h hX hs2
  generalize (rL b k e0 most).2 = y at *
  generalize (rL b k e0 most).1.1 = k9 at *
  generalize (rL b k e0 most).1.2 = e9 at *
  generalize hyl : y.length = yn at *
  have HYL := Lib.hid hyl
  clear hyl
  go_enter Try.func74, Try.ntmps74
  go_wp2_with fail
  refine (KR.out).mono ?_
  rintro e w1 ⟨A, c, rfl, g0, g1, g2⟩
  have H0 := Lib.hid g0
  have H1 := Lib.hid g1
  have H2 := Lib.hid g2
  clear g0 g1 g2
  go_wp2
  go_ret
  exact ⟨A, c, rfl, H0.out, H1.out, H2.out⟩
end Go.Proofs.Ytkfmebdpfjjkjaa
