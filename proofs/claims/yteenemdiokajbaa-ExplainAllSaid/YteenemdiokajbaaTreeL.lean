import Derived.Test.YteenemdiokajbaaTreeK

/-! Layer 10: tree.Leaf. -/
namespace Go.Proofs.Yteenemdiokajbaa
open Go.RowKit
set_option linter.unusedVariables false
set_option linter.unusedSimpArgs false

/-- the answer of Leaf: the leaf, its depth, the error -/
def leafT (N : List TN) (dim : Int) (x : List Int) : Int × Int × Int :=
  if isT N dim = true then (if isV x dim = true then (((dnT N x N.length 0).1 : Int), ((dnT N x N.length 0).2 : Int), 0) else (0, 0, 80)) else (0, 0, 100)
set_option maxRecDepth 100000 in
set_option maxHeartbeats 8000000 in
theorem tree_Leaf (N : List TN) (dim : Int) (A A2 : Option Addr) (x : List Int) (c c2 B : Nat) (w : World) (hl : N.length ≤ 100000) (ho : okT N) (hA : LiesT w B A N) (hx : Lies w B A2 x) (hxl : (x.length : Int) ≤ 9223372036854775807) (hxc : x.length ≤ c2) (hB : B ≤ w.heap.size) :
    Calls Try.prog 73 #[.agg #[.int .i64 dim, .slice A N.length c], .slice A2 x.length c2] w fun e w' => e = .returned (.tuple #[.int .i64 (leafT N dim x).1, .int .i64 (leafT N dim x).2.1, .int .i64 (leafT N dim x).2.2]) ∧ Below w.heap.size w w' := by
  have HX := Lib.hid ((Kpc.start w).alloc #[.int .i64 dim, .slice A N.length c] 24)
  obtain ⟨y0, y1⟩ := box_cut HX.out.head
  have KT : Hid (∀ W (h : Below w.heap.size w W), Calls Try.prog 66 #[.agg #[.int .i64 dim, .slice A N.length c]] W fun e w' => e = .returned (.bool (isT N dim)) ∧ Below W.heap.size W w') := fun W h => tree_isT N dim A c B W hl ho (hA.below (h.mono hB)) (Nat.le_trans hB h.size)
  have KV : Hid (∀ W (h : Below w.heap.size w W), Calls Try.prog 67 #[.slice A2 x.length c2, .int .i64 dim] W fun e w' => e = .returned (.bool (isV x dim)) ∧ Below W.heap.size W w') := fun W h => (vec_is A2 x c2 B dim W (hx.below (h.mono hB)) hxl hxc).mono fun e w' h => ⟨h.1, qdb h.2⟩
  by_cases h1 : isT N dim = true
  · by_cases h2 : isV x dim = true
    · have hlen := isT_len h1
      obtain ⟨Z, hZ⟩ : ∃ Z, Z = dnT N x N.length 0 := ⟨_, rfl⟩
      have hv : leafT N dim x = ((Z.1 : Int), (Z.2 : Int), 0) := by unfold leafT; rw [if_pos h1, if_pos h2, ← hZ]
      rw [hv]
      simp only
      have HZ := Lib.hid hZ
      obtain ⟨_, _, _, d0, s0, _⟩ := isT_iff.1 h1
      have hd0 := s0.deep
      have HS0 := Lib.hid s0
      have HGO : Hid (∀ i e d, Sub N dim i e d → ¬ (N.getD i tn0).lf = 0 → ∃ t e' d' : Nat, toT (N.getD i tn0) x = (t : Int) ∧ Sub N dim t e' d' ∧ d' < d ∧ t < N.length ∧ lefC (N.getD i tn0).co (N.getD i tn0).lv x = 0) := fun i e d h hlf => h.go x h2 hlf
      rw [h1] at KT
      rw [h2] at KV
      obtain ⟨ad, e0, hab, -, -⟩ := hA.at (k := 0) (by omega)
      subst e0
      have HC : Hid (∀ W (h : Below w.heap.size w W) k (hk : k < N.length), W.cell? (ad.add (k * 5)) = some (.slice (N.getD k tn0).a (N.getD k tn0).co.length (N.getD k tn0).c) ∧ W.cell? ⟨(ad.add (k * 5)).block, (ad.add (k * 5)).off + 1, none⟩ = some (.int .i64 (N.getD k tn0).lv) ∧ W.cell? ⟨(ad.add (k * 5)).block, (ad.add (k * 5)).off + 2, none⟩ = some (.int .i64 (N.getD k tn0).lf) ∧ W.cell? ⟨(ad.add (k * 5)).block, (ad.add (k * 5)).off + 3, none⟩ = some (.int .i64 (N.getD k tn0).rt) ∧ W.cell? ⟨(ad.add (k * 5)).block, (ad.add (k * 5)).off + 4, none⟩ = some (.int .i64 (N.getD k tn0).sz)) := fun W h k hk => by
        obtain ⟨ad', e, _, hc, _⟩ := (hA.below (h.mono hB)).at hk
        cases e; exact hc
      have KL : Hid (∀ k (hk : k < N.length) W (h : Below w.heap.size w W), Calls Try.prog 68 #[.agg #[.slice (N.getD k tn0).a (N.getD k tn0).co.length (N.getD k tn0).c, .int .i64 (N.getD k tn0).lv], .slice A2 x.length c2] W fun e w' => e = .returned (.tuple #[.bool (lefB (N.getD k tn0).co (N.getD k tn0).lv x), .int .i64 (lefC (N.getD k tn0).co (N.getD k tn0).lv x)]) ∧ Below W.heap.size W w') := fun k hk W h =>
        cut_Left (N.getD k tn0).a A2 (N.getD k tn0).co x (N.getD k tn0).c c2 B (N.getD k tn0).lv W ((hA.2 _ (mem_tn hk)).below (h.mono hB)) (hx.below (h.mono hB)) (Nat.le_trans hB h.size) (by have := ho _ (mem_tn hk); omega) hxl (ho _ (mem_tn hk)).1 hxc
      clear hZ hv s0 h1 h2 hA ho hx
      generalize hM : N.length = M at *
      clear hM
      generalize x.length = LX at *
      go_enter Try.func73, Try.ntmps73
      go_wp2_with fail
      refine (KT.out _ HX.out.2.1).mono ?_
      rintro e w1 ⟨rfl, b1⟩
      have J := Lib.hid (HX.out.below b1)
      clear b1 y0 y1
      obtain ⟨y0, y1⟩ := box_cut J.out.head
      go_wp2_with fail
      refine (KV.out _ J.out.2.1).mono ?_
      rintro e w2 ⟨rfl, b2⟩
      have J2 := Lib.hid (J.out.below b2)
      clear b2 y0 y1 KT KV
      go_wp2
      go_loopw [7, 8] (fun av dv wr => ∃ (k s e d : Nat), k < M ∧ s ≤ M ∧ av = .int .i64 k ∧ dv = .int .i64 s ∧ Hid (Sub N dim k e d) ∧ Hid (s + d < M) ∧ Hid (Z = ((dnT N x (M - s) k).1, (dnT N x (M - s) k).2 + s)) ∧ Hid (Kpc w.heap.size w [(w.heap.size, #[.int .i64 dim, .slice (some ad) M c], 24)] wr)) (fun _ dv _ => M - (intOf dv).toNat)
      case atStart => exact ⟨0, 0, M, d0, hlen.1, by omega, rfl, rfl, HS0.out, (by show 0 + d0 < M; omega), HZ.out, J2.out⟩
      case round =>
        obtain ⟨k, s, e, d, hk, hs, rfl, rfl, HS, HD, HQ, J⟩ := hrel
        obtain ⟨y0, y1⟩ := box_cut J.out.head
        obtain ⟨c0, c1, c2', c3, c4⟩ := HC.out _ J.out.2.1 k hk
        have hkM : (k : Int) < (M : Int) := by omega
        by_cases hlf : (N.getD k tn0).lf = 0
        · have HR := Lib.hid (HQ.out.trans (by rw [dnT_leaf hlf]))
          rw [hlf] at c2'
          clear hlf
          generalize N.getD k tn0 = n at *
          go_wp2
          go_ret3
          rw [HR.out]
          exact ⟨by simp, J.out.2.1⟩
        · obtain ⟨t, e', d', hT, hS', hd', ht, hE⟩ := HGO.out k e d HS.out hlf
          have hD := HD.out
          have HST := Lib.hid (dnT_step (N := N) (x := x) (i := k) (f := M - s - 1) hlf)
          have HS2 := Lib.hid hS'
          rw [hT, Int.toNat_natCast] at HST
          have HQ2 : Hid (Z = ((dnT N x (M - (s + 1)) t).1, (dnT N x (M - (s + 1)) t).2 + (s + 1))) := by
            show _ = _
            rw [HQ.out, show M - s = M - s - 1 + 1 from by omega, HST.out, show M - (s + 1) = M - s - 1 from by omega]
            refine congrArg (Prod.mk _) ?_
            show _ + 1 + s = _
            omega
          have K := Lib.hid (fun W h => KL.out k hk W h)
          rw [hE] at K
          unfold toT at hT
          have hw1 := i64wT (i := s) (by omega)
          have hn0 : ((N.getD k tn0).lf != 0) = true := by simpa using hlf
          clear HST hS' hE HQ HS
          generalize N.getD k tn0 = n at *
          obtain ⟨na, nc, nco, nlv, nlf, nrt, nsz⟩ := n
          simp only at *
          by_cases hb : lefB nco nlv x = true
          · rw [if_pos hb] at hT
            rw [hb] at K
            subst hT
            clear hb
            go_wp2_with fail
            refine (K.out _ J.out.2.1).mono ?_
            rintro r w3 ⟨rfl, b3⟩
            have J3 := Lib.hid (J.out.below b3)
            have c2' : w3.cell? ⟨(ad.add (k * 5)).block, (ad.add (k * 5)).off + 2, none⟩ = some (.int .i64 (t : Int)) := (b3.cell (by have := J.out.2.2; exact Nat.lt_of_lt_of_le (show (ad.add (k * 5)).block < B from by rw [add_block]; exact hab) (Nat.le_trans hB this))).trans c2'
            clear b3 y0 y1 c0 c1 c3 c4
            obtain ⟨y0, y1⟩ := box_cut J3.out.head
            go_wp2
            exact ⟨⟨t, s + 1, e', d', ht, by omega, rfl, by go_num, HS2.out, (by show s + 1 + d' < M; omega), HQ2.out, J3.out⟩, by first | (simp [intOf]; done) | (simp [intOf]; omega)⟩
          · have hb' : lefB nco nlv x = false := by simpa using hb
            rw [if_neg hb] at hT
            rw [hb'] at K
            subst hT
            clear hb hb'
            go_wp2_with fail
            refine (K.out _ J.out.2.1).mono ?_
            rintro r w3 ⟨rfl, b3⟩
            have J3 := Lib.hid (J.out.below b3)
            have c3' : w3.cell? ⟨(ad.add (k * 5)).block, (ad.add (k * 5)).off + 3, none⟩ = some (.int .i64 (t : Int)) := (b3.cell (by have := J.out.2.2; exact Nat.lt_of_lt_of_le (show (ad.add (k * 5)).block < B from by rw [add_block]; exact hab) (Nat.le_trans hB this))).trans c3
            clear b3 y0 y1 c0 c1 c2' c3 c4
            obtain ⟨y0, y1⟩ := box_cut J3.out.head
            go_wp2
            exact ⟨⟨t, s + 1, e', d', ht, by omega, rfl, by go_num, HS2.out, (by show s + 1 + d' < M; omega), HQ2.out, J3.out⟩, by first | (simp [intOf]; done) | (simp [intOf]; omega)⟩
    · have hv : leafT N dim x = (0, 0, 80) := by unfold leafT; rw [if_pos h1, if_neg h2]
      rw [hv]
      rw [h1] at KT
      have hb : isV x dim = false := by simpa using h2
      rw [hb] at KV
      clear hA hx ho h1 h2 hb hv
      generalize N.length = M at *
      generalize x.length = LX at *
      go_enter Try.func73, Try.ntmps73
      go_wp2_with fail
      refine (KT.out _ HX.out.2.1).mono ?_
      rintro e w1 ⟨rfl, b1⟩
      have J := Lib.hid (HX.out.below b1)
      clear b1 y0 y1
      obtain ⟨y0, y1⟩ := box_cut J.out.head
      go_wp2_with fail
      refine (KV.out _ J.out.2.1).mono ?_
      rintro e w2 ⟨rfl, b2⟩
      have J2 := Lib.hid (J.out.below b2)
      clear b2 y0 y1
      go_wp2
      go_ret3
      exact ⟨rfl, J2.out.2.1⟩
  · have hv : leafT N dim x = (0, 0, 100) := by unfold leafT; rw [if_neg h1]
    have hb : isT N dim = false := by simpa using h1
    rw [hv]
    rw [hb] at KT
    clear hA hx ho h1 hb hv
    generalize N.length = M at *
    generalize x.length = LX at *
    go_enter Try.func73, Try.ntmps73
    go_wp2_with fail
    refine (KT.out _ HX.out.2.1).mono ?_
    rintro e w1 ⟨rfl, b1⟩
    have J := Lib.hid (HX.out.below b1)
    clear b1 y0 y1
    go_wp2
    go_ret3
    exact ⟨rfl, J.out.2.1⟩
end Go.Proofs.Yteenemdiokajbaa
