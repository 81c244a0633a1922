import Derived.Test.YteenemdiokajbaaPatU
import Derived.Test.YteenemdiokajbaaPatT

/-! Layer 12's reference: Length, Above, Trail. -/
namespace Go.Proofs.Yteenemdiokajbaa
open Go.RowKit
set_option linter.unusedVariables false
set_option linter.unusedSimpArgs false

set_option maxRecDepth 100000 in
set_option maxHeartbeats 4000000 in
theorem ref_Len12 (N : List TN) (dim : Int) (A A2 : Option Addr) (x : List Int) (c c2 B : Nat) (w : World) (hl : N.length ≤ 100000) (hA : LiesT w B A N) (hx : Lies w B A2 x) (hB : B ≤ w.heap.size) :
    Calls Try.prog 72 #[.agg #[.int .i64 dim, .slice A N.length c], .slice A2 x.length c2] w fun e w' => e = .returned (.tuple #[.int .i64 (lenT N dim x).1, .int .i64 (lenT N dim x).2]) ∧ Below w.heap.size w w' := by
  have HX := Lib.hid ((Kpc.start w).alloc #[.int .i64 dim, .slice A N.length c] 24)
  obtain ⟨y0, y1⟩ := box_cut HX.out.head
  have KL : Hid (∀ W (h : Below w.heap.size w W), Calls Try.prog 84 #[.agg #[.int .i64 dim, .slice A N.length c], .slice A2 x.length c2] W fun e w' => e = .returned (.tuple #[.int .i64 (leafT N dim x).1, .int .i64 (leafT N dim x).2.1, .int .i64 (leafT N dim x).2.2]) ∧ Below W.heap.size W w') := fun W h => ref_Leaf N dim A A2 x c c2 B W hl (hA.below (h.mono hB)) (hx.below (h.mono hB)) (Nat.le_trans hB h.size)
  have HA := Lib.hid (fun W (h : Below w.heap.size w W) => hA.below (h.mono hB))
  by_cases h1 : isT N dim = true ∧ isV x dim = true
  · obtain ⟨h1, h2⟩ := h1
    have hlen := isT_len h1
    obtain ⟨_, _, _, d0, s0, _⟩ := isT_iff.1 h1
    have hlt := dnT_lt h2 N.length 0 _ _ s0
    have hle := dnT_le N x N.length 0
    have hv : leafT N dim x = (((dnT N x N.length 0).1 : Int), ((dnT N x N.length 0).2 : Int), 0) := by unfold leafT; rw [if_pos h1, if_pos h2]
    unfold lenT
    rw [hv] at KL ⊢
    rw [if_pos rfl]
    simp only [Int.toNat_natCast] at KL ⊢
    generalize dnT N x N.length 0 = Z at *
    obtain ⟨z1, z2⟩ := Z
    simp only at *
    have KP := Lib.hid (fun W => ref5_norm (N.getD z1 tn0).sz W)
    have hnb := norm_bd (N.getD z1 tn0).sz
    unfold lenP
    have hz : (z1 : Int) < (N.length : Int) := by omega
    have hz2 : (z2 : Int) ≤ 127 := by omega
    clear hv h1 h2 hA hx s0 hle
    generalize normN (heldN (N.getD z1 tn0).sz) = v at *
    obtain ⟨hnb1, hnb2⟩ := hnb
    generalize hM : N.length = M at *
    have HM := Lib.hid hM
    clear hM
    generalize x.length = LX at *
    go_enter Try.func72, Try.ntmps72
    go_wp2_with fail
    refine (KL.out _ HX.out.2.1).mono ?_
    rintro e w1 ⟨rfl, b1⟩
    have J := Lib.hid (HX.out.below b1)
    clear b1 y0 y1
    obtain ⟨y0, y1⟩ := box_cut J.out.head
    obtain ⟨ad, rfl, _, ⟨c0, c1, c2', c3, c4⟩, _⟩ := (HA.out _ J.out.2.1).at (k := z1) (by have := HM.out; omega)
    generalize N.getD z1 tn0 = nd at *
    obtain ⟨na, nc, nco, nlv, nlf, nrt, nsz⟩ := nd
    simp only at *
    go_wp2_with fail
    refine (KP.out _).mono ?_
    rintro e w2 ⟨rfl, m2, rfl⟩
    go_wp2
    go_ret2
    exact ⟨by simp, below_drewN2 J.out.2.1 _⟩
  · have hv : ∃ r, ¬ r = (0 : Int) ∧ leafT N dim x = (0, 0, r) := by
      unfold leafT
      by_cases h2 : isT N dim = true
      · rw [if_pos h2, if_neg (fun h3 => h1 ⟨h2, h3⟩)]; exact ⟨80, by decide, rfl⟩
      · rw [if_neg h2]; exact ⟨100, by decide, rfl⟩
    obtain ⟨r, hr, hv⟩ := hv
    unfold lenT
    rw [hv] at KL ⊢
    rw [if_neg hr]
    simp only at KL ⊢
    have hr2 : (r == 0) = false := by simpa using hr
    clear hv h1 hA hx HA
    generalize N.length = M at *
    generalize x.length = LX at *
    go_enter Try.func72, Try.ntmps72
    go_wp2_with fail
    refine (KL.out _ HX.out.2.1).mono ?_
    rintro e w1 ⟨rfl, b1⟩
    have J := Lib.hid (HX.out.below b1)
    go_wp2
    go_ret2
    exact ⟨by simp, J.out.2.1⟩
set_option maxRecDepth 100000 in
set_option maxHeartbeats 8000000 in
theorem ref_above (N : List TN) (dim : Int) (A A2 : Option Addr) (x : List Int) (c c2 B : Nat) (w : World) (h1 : isT N dim = true) (h2 : isV x dim = true) (hA : LiesT w B A N) (hx : Lies w B A2 x) (hB : B ≤ w.heap.size) :
    Calls Try.prog 18 #[.agg #[.int .i64 dim, .slice A N.length c], .slice A2 x.length c2] w (GivesI (wayT N x N.length 0) w) := by
  have hlen := isT_len h1
  obtain ⟨WT, hZ⟩ : ∃ WT, WT = wayT N x N.length 0 := ⟨_, rfl⟩
  rw [← hZ]
  have HZ := Lib.hid hZ
  obtain ⟨_, _, _, d0, s0, _⟩ := isT_iff.1 h1
  have hd0 := s0.deep
  have HS0 := Lib.hid s0
  have HGO : Hid (∀ i e d, Sub N dim i e d → ¬ (N.getD i tn0).lf = 0 → ∃ t e' d' : Nat, toT (N.getD i tn0) x = (t : Int) ∧ Sub N dim t e' d' ∧ d' < d ∧ t < N.length ∧ lefC (N.getD i tn0).co (N.getD i tn0).lv x = 0) := fun i e d h hlf => h.go x h2 hlf
  have HX := Lib.hid ((Kpc.start w).alloc #[.int .i64 dim, .slice A N.length c] 24)
  have HO2 := Lib.hid (ownI_one _ 0 HX.out.2.1.size)
  rw [alloc_size'] at HO2
  have J1 := Lib.hid (HX.out.alloc #[.int .i64 0] 3)
  obtain ⟨ad, e0, hab, -, -⟩ := hA.at (k := 0) (by omega)
  subst e0
  have HC : Hid (∀ W (h : Below w.heap.size w W) k (hk : k < N.length), W.cell? (ad.add (k * 5)) = some (.slice (N.getD k tn0).a (N.getD k tn0).co.length (N.getD k tn0).c) ∧ W.cell? ⟨(ad.add (k * 5)).block, (ad.add (k * 5)).off + 1, none⟩ = some (.int .i64 (N.getD k tn0).lv) ∧ W.cell? ⟨(ad.add (k * 5)).block, (ad.add (k * 5)).off + 2, none⟩ = some (.int .i64 (N.getD k tn0).lf) ∧ W.cell? ⟨(ad.add (k * 5)).block, (ad.add (k * 5)).off + 3, none⟩ = some (.int .i64 (N.getD k tn0).rt)) := fun W h k hk => by
    obtain ⟨ad', e, _, ⟨hc0, hc1, hc2, hc3, _⟩, _⟩ := (hA.below (h.mono hB)).at hk
    cases e; exact ⟨hc0, hc1, hc2, hc3⟩
  have KL : Hid (∀ k (hk : k < N.length) W (h : Below w.heap.size w W), Calls Try.prog 47 #[.agg #[.slice (N.getD k tn0).a (N.getD k tn0).co.length (N.getD k tn0).c, .int .i64 (N.getD k tn0).lv], .slice A2 x.length c2] W fun e w' => e = .returned (.tuple #[.bool (lefB (N.getD k tn0).co (N.getD k tn0).lv x), .int .i64 (lefC (N.getD k tn0).co (N.getD k tn0).lv x)]) ∧ Below W.heap.size W w') := fun k hk W h =>
    ref_Left9 (N.getD k tn0).a A2 (N.getD k tn0).co x (N.getD k tn0).c c2 B (N.getD k tn0).lv W ((hA.2 _ (mem_tn hk)).below (h.mono hB)) (hx.below (h.mono hB)) (Nat.le_trans hB h.size)
  clear hZ s0 h1 h2 hA hx
  generalize hM : N.length = M at *
  clear hM
  generalize x.length = LX at *
  go_enter Try.func18, Try.ntmps18
  go_wp2
  go_loopw [5, 6] (fun v iv wr => ∃ (i f e d : Nat) (q : List Int), i < M ∧ d < f ∧ q.length + 1 + d ≤ M ∧ iv = .int .i64 i ∧ Hid (Sub N dim i e d) ∧ Hid (WT = q ++ wayT N x f i) ∧ Hid (wr.ownsRow w.heap.size 3 1 v (q ++ [(i : Int)]).length (litI (q ++ [(i : Int)]))) ∧ Hid (Kpc w.heap.size w [(w.heap.size, #[.int .i64 dim, .slice (some ad) M c], 24)] wr)) (fun v _ _ => M - slLen v)
  case atStart =>
    exact ⟨0, M, M, d0, [], by omega, by omega, by simp; omega, rfl, HS0.out, HZ.out, HO2.out, J1.out.tail⟩
  case round =>
    obtain ⟨i, f, e, d, q, hi, hd, hq, rfl, HS, HQ, HO, HK⟩ := hrel
    obtain ⟨y0, y1⟩ := box_cut HK.out.head
    obtain ⟨c0, c1, c2', c3⟩ := HC.out _ HK.out.2.1 i hi
    have hiM : (i : Int) < (M : Int) := by omega
    by_cases hlf : (N.getD i tn0).lf = 0
    · have HW : Hid (WT = q ++ [(i : Int)]) := by
        show _ = _
        rw [HQ.out, wayT_leaf hlf]
      rw [hlf] at c2'
      obtain ⟨A', c', rfl, g1, g2, g3⟩ := lies_ownI HO.out
      clear hlf
      generalize N.getD i tn0 = n at *
      go_wp2
      go_ret
      rw [HW.out]
      exact ⟨A', c', by simp, g1, g2, g3, HK.out.2.1⟩
    · obtain ⟨t, e', d', hT, hS', hd', ht, hE⟩ := HGO.out i e d HS.out hlf
      have hpos := HS.out.pos hlf
      obtain ⟨f, rfl⟩ : ∃ g, f = g + 1 := ⟨f - 1, by omega⟩
      have HQ2 : Hid (WT = (q ++ [(i : Int)]) ++ wayT N x f t) := by
        show _ = _
        rw [HQ.out, wayT_step hlf, hT, Int.toNat_natCast]
        simp
      have HS2 := Lib.hid hS'
      have hSL := Lib.hid (own_slLen HO.out)
      have K := Lib.hid (fun W h => KL.out i hi W h)
      rw [hE] at K
      unfold toT at hT
      have hll : (q ++ [(i : Int)]).length + 1 ≤ 1000000000 := by simp; omega
      have hq2 : (q ++ [(i : Int)]).length = q.length + 1 := by simp
      clear hS' hE HQ HS
      generalize N.getD i tn0 = n at *
      obtain ⟨na, nc, nco, nlv, nlf, nrt, nsz⟩ := n
      simp only at *
      by_cases hb : lefB nco nlv x = true
      · rw [if_pos hb] at hT
        rw [hb] at K
        subst hT
        clear hb
        go_wp2_with fail
        refine (K.out _ HK.out.2.1).mono ?_
        rintro r w3 ⟨rfl, b3⟩
        have J3 := Lib.hid (HK.out.below b3)
        have HO3 := Lib.hid (ownI_below HO.out b3)
        have c2'' : w3.cell? ⟨(ad.add (i * 5)).block, (ad.add (i * 5)).off + 2, none⟩ = some (.int .i64 (t : Int)) := (b3.cell (by have := HK.out.2.2; exact Nat.lt_of_lt_of_le (show (ad.add (i * 5)).block < B from by rw [add_block]; exact hab) (Nat.le_trans hB this))).trans c2'
        clear b3 y0 y1 c0 c1 c2' c3
        obtain ⟨y0, y1⟩ := box_cut J3.out.head
        have hsz := J3.out.2.2
        go_wp2_with (at_builtin; refine app_int rfl (.tmp 41) (.tmp 43) rfl _ (q ++ [(i : Int)]) (t : Int) rfl HO3.out rfl hsz hll ?_; intro v' w4 hown4 hb4 hk4)
        refine ⟨⟨t, f, e', d', q ++ [(i : Int)], ht, by omega, by omega, rfl, HS2.out, HQ2.out, hown4, ⟨fun x hx => ?_, J3.out.2.1.trans hb4, Nat.le_trans hsz hb4.size⟩⟩, by rw [own_slLen hown4, hSL.out]; simp; omega⟩
        simp at hx
        subst hx
        exact hk4 _ _ _ (show ¬ 24 = 3 by decide) J3.out.head
      · have hb' : lefB nco nlv x = false := by simpa using hb
        rw [if_neg hb] at hT
        rw [hb'] at K
        subst hT
        clear hb hb'
        go_wp2_with fail
        refine (K.out _ HK.out.2.1).mono ?_
        rintro r w3 ⟨rfl, b3⟩
        have J3 := Lib.hid (HK.out.below b3)
        have HO3 := Lib.hid (ownI_below HO.out b3)
        have c3'' : w3.cell? ⟨(ad.add (i * 5)).block, (ad.add (i * 5)).off + 3, none⟩ = some (.int .i64 (t : Int)) := (b3.cell (by have := HK.out.2.2; exact Nat.lt_of_lt_of_le (show (ad.add (i * 5)).block < B from by rw [add_block]; exact hab) (Nat.le_trans hB this))).trans c3
        clear b3 y0 y1 c0 c1 c2' c3
        obtain ⟨y0, y1⟩ := box_cut J3.out.head
        have hsz := J3.out.2.2
        go_wp2_with (at_builtin; refine app_int rfl (.tmp 41) (.tmp 43) rfl _ (q ++ [(i : Int)]) (t : Int) rfl HO3.out rfl hsz hll ?_; intro v' w4 hown4 hb4 hk4)
        refine ⟨⟨t, f, e', d', q ++ [(i : Int)], ht, by omega, by omega, rfl, HS2.out, HQ2.out, hown4, ⟨fun x hx => ?_, J3.out.2.1.trans hb4, Nat.le_trans hsz hb4.size⟩⟩, by rw [own_slLen hown4, hSL.out]; simp; omega⟩
        simp at hx
        subst hx
        exact hk4 _ _ _ (show ¬ 24 = 3 by decide) J3.out.head
end Go.Proofs.Yteenemdiokajbaa
