import Derived.Test.YteenemdiokajbaaTreeL
import Derived.Test.YteenemdiokajbaaTreeD

/-! Layer 10: the reference's Down and Leaf. -/
namespace Go.Proofs.Yteenemdiokajbaa
open Go.RowKit
set_option linter.unusedVariables false
set_option linter.unusedSimpArgs false

theorem dnT_le (N : List TN) (x : List Int) : ∀ f i, (dnT N x f i).2 ≤ f
  | 0, i => by simp [dnT]
  | f + 1, i => by
    by_cases h : (N.getD i tn0).lf = 0
    · rw [dnT_leaf h]; exact Nat.zero_le _
    · rw [dnT_step h]
      have := dnT_le N x f (toT (N.getD i tn0) x).toNat
      show _ + 1 ≤ f + 1
      omega
set_option maxRecDepth 100000 in
set_option maxHeartbeats 8000000 in
theorem ref_down (N : List TN) (dim : Int) (A A2 : Option Addr) (x : List Int) (c c2 B : Nat) (hl : N.length ≤ 100000) (h2 : isV x dim = true) : ∀ (f i e d : Nat), Sub N dim i e d → d < f → f ≤ 1000 → ∀ (w : World), LiesT w B A N → Lies w B A2 x → B ≤ w.heap.size →
    Calls Try.prog 89 #[.agg #[.int .i64 dim, .slice A N.length c], .int .i64 i, .slice A2 x.length c2] w fun r w' => r = .returned (.tuple #[.int .i64 (dnT N x f i).1, .int .i64 (dnT N x f i).2]) ∧ Below w.heap.size w w'
  | 0, i, e, d, hS, hd, hf, w, hA, hx, hB => absurd hd (by omega)
  | f + 1, i, e, d, hS, hd, hf, w, hA, hx, hB => by
    have hi : i < N.length := by have := hS.lt; omega
    have HX := Lib.hid ((Kpc.start w).alloc #[.int .i64 dim, .slice A N.length c] 24)
    obtain ⟨y0, y1⟩ := box_cut HX.out.head
    obtain ⟨ad, e0, hab, _, _⟩ := hA.at hi
    subst e0
    obtain ⟨_, e1, _, ⟨c0, c1, c2', c3, c4⟩, _⟩ := (hA.below (HX.out.2.1.mono hB)).at hi
    cases e1
    have hiM : (i : Int) < (N.length : Int) := by omega
    by_cases hlf : (N.getD i tn0).lf = 0
    · rw [dnT_leaf hlf]
      rw [hlf] at c2'
      clear hlf hA hx
      generalize N.getD i tn0 = n at *
      obtain ⟨na, nc, nco, nlv, nlf, nrt, nsz⟩ := n
      simp only at *
      generalize nco.length = L at *
      generalize N.length = M at *
      generalize x.length = LX at *
      have J := Lib.hid (HX.out.alloc #[.slice na L nc, .int .i64 nlv, .int .i64 0, .int .i64 nrt, .int .i64 nsz] 81)
      rw [alloc_size'] at J
      obtain ⟨z0, z1, z2, z3, z4⟩ := box5' J.out.head
      go_enter Try.func89, Try.ntmps89
      go_wp2
      go_ret2
      exact ⟨rfl, J.out.2.1⟩
    · obtain ⟨t, e', d', hT, hS', hd', ht, hE⟩ := hS.go x h2 hlf
      have KL : Hid (∀ W (h : Below w.heap.size w W), Calls Try.prog 47 #[.agg #[.slice (N.getD i tn0).a (N.getD i tn0).co.length (N.getD i tn0).c, .int .i64 (N.getD i tn0).lv], .slice A2 x.length c2] W fun e w' => e = .returned (.tuple #[.bool (lefB (N.getD i tn0).co (N.getD i tn0).lv x), .int .i64 (lefC (N.getD i tn0).co (N.getD i tn0).lv x)]) ∧ Below W.heap.size W w') := fun W h =>
        ref_Left9 (N.getD i tn0).a A2 (N.getD i tn0).co x (N.getD i tn0).c c2 B (N.getD i tn0).lv W ((hA.2 _ (mem_tn hi)).below (h.mono hB)) (hx.below (h.mono hB)) (Nat.le_trans hB h.size)
      have IH : Hid (∀ W (h : Below w.heap.size w W), Calls Try.prog 89 #[.agg #[.int .i64 dim, .slice (some ad) N.length c], .int .i64 t, .slice A2 x.length c2] W fun r w' => r = .returned (.tuple #[.int .i64 (dnT N x f t).1, .int .i64 (dnT N x f t).2]) ∧ Below W.heap.size W w') := fun W h =>
        ref_down N dim (some ad) A2 x c c2 B hl h2 f t e' d' hS' (by omega) (by omega) W (hA.below (h.mono hB)) (hx.below (h.mono hB)) (Nat.le_trans hB h.size)
      rw [dnT_step hlf, hT, Int.toNat_natCast]
      have hle := dnT_le N x f t
      generalize dnT N x f t = Z at *
      obtain ⟨z1, z2⟩ := Z
      simp only at *
      have hw1 := i64wT (i := z2) (by omega)
      rw [hE] at KL
      unfold toT at hT
      clear hA hx hS hS' hE h2
      generalize N.getD i tn0 = n at *
      obtain ⟨na, nc, nco, nlv, nlf, nrt, nsz⟩ := n
      simp only at *
      generalize nco.length = L at *
      generalize N.length = M at *
      generalize x.length = LX at *
      have hn0 : (nlf == 0) = false := by simpa using hlf
      by_cases hb : lefB nco nlv x = true
      · rw [if_pos hb] at hT
        rw [hb] at KL
        subst hT
        clear hb
        have HJ0 := Lib.hid (HX.out.alloc #[.slice na L nc, .int .i64 nlv, .int .i64 (t : Int), .int .i64 nrt, .int .i64 nsz] 81)
        rw [alloc_size'] at HJ0
        obtain ⟨m0, m1, m2, m3, m4⟩ := box5' HJ0.out.head
        go_enter Try.func89, Try.ntmps89
        go_wp2_with fail
        refine (KL.out _ HJ0.out.2.1).mono ?_
        rintro r w3 ⟨rfl, b3⟩
        have J := Lib.hid (HJ0.out.below b3)
        clear b3 y0 y1 c0 c1 c2' c3 c4 m0 m1 m2 m3 m4
        obtain ⟨m0, m1, m2, m3, m4⟩ := box5' J.out.head
        obtain ⟨y0, y1⟩ := box_cut J.out.tail.head
        go_wp2_with fail
        refine (IH.out _ J.out.2.1).mono ?_
        rintro r w4 ⟨rfl, b4⟩
        have J2 := Lib.hid (J.out.below b4)
        clear b4
        go_wp2
        go_ret2
        exact ⟨rfl, J2.out.2.1⟩
      · have hb' : lefB nco nlv x = false := by simpa using hb
        rw [if_neg hb] at hT
        rw [hb'] at KL
        subst hT
        clear hb hb'
        have HJ0 := Lib.hid (HX.out.alloc #[.slice na L nc, .int .i64 nlv, .int .i64 nlf, .int .i64 (t : Int), .int .i64 nsz] 81)
        rw [alloc_size'] at HJ0
        obtain ⟨m0, m1, m2, m3, m4⟩ := box5' HJ0.out.head
        go_enter Try.func89, Try.ntmps89
        go_wp2_with fail
        refine (KL.out _ HJ0.out.2.1).mono ?_
        rintro r w3 ⟨rfl, b3⟩
        have J := Lib.hid (HJ0.out.below b3)
        clear b3 y0 y1 c0 c1 c2' c3 c4 m0 m1 m2 m3 m4
        obtain ⟨m0, m1, m2, m3, m4⟩ := box5' J.out.head
        obtain ⟨y0, y1⟩ := box_cut J.out.tail.head
        go_wp2_with fail
        refine (IH.out _ J.out.2.1).mono ?_
        rintro r w4 ⟨rfl, b4⟩
        have J2 := Lib.hid (J.out.below b4)
        clear b4
        go_wp2
        go_ret2
        exact ⟨rfl, J2.out.2.1⟩
set_option maxRecDepth 100000 in
set_option maxHeartbeats 8000000 in
theorem ref_Leaf (N : List TN) (dim : Int) (A A2 : Option Addr) (x : List Int) (c c2 B : Nat) (w : World) (hl : N.length ≤ 100000) (hA : LiesT w B A N) (hx : Lies w B A2 x) (hB : B ≤ w.heap.size) :
    Calls Try.prog 84 #[.agg #[.int .i64 dim, .slice A N.length c], .slice A2 x.length c2] w fun e w' => e = .returned (.tuple #[.int .i64 (leafT N dim x).1, .int .i64 (leafT N dim x).2.1, .int .i64 (leafT N dim x).2.2]) ∧ Below w.heap.size w w' := by
  have HX := Lib.hid ((Kpc.start w).alloc #[.int .i64 dim, .slice A N.length c] 24)
  obtain ⟨y0, y1⟩ := box_cut HX.out.head
  have KT : Hid (∀ W (h : Below w.heap.size w W), Calls Try.prog 16 #[.agg #[.int .i64 dim, .slice A N.length c]] W fun e w' => e = .returned (.bool (isT N dim)) ∧ Below W.heap.size W w') := fun W h => ref_isT N dim A c B W hl (hA.below (h.mono hB)) (Nat.le_trans hB h.size)
  have KV : Hid (∀ W (h : Below w.heap.size w W), Calls Try.prog 17 #[.slice A2 x.length c2, .int .i64 dim] W fun e w' => e = .returned (.bool (isV x dim)) ∧ Below W.heap.size W w') := fun W h => (ref_is A2 x c2 B dim W (hx.below (h.mono hB))).mono fun e w' h => ⟨h.1, by rw [← h.2]; exact Below.refl _ _⟩
  by_cases h1 : isT N dim = true
  · by_cases h2 : isV x dim = true
    · have hlen := isT_len h1
      have hv : leafT N dim x = (((dnT N x N.length 0).1 : Int), ((dnT N x N.length 0).2 : Int), 0) := by unfold leafT; rw [if_pos h1, if_pos h2]
      rw [hv]
      simp only
      obtain ⟨_, _, _, d0, s0, _⟩ := isT_iff.1 h1
      have hd0 := s0.deep
      have KD : Hid (∀ W (h : Below w.heap.size w W), Calls Try.prog 89 #[.agg #[.int .i64 dim, .slice A N.length c], .int .i64 0, .slice A2 x.length c2] W fun r w' => r = .returned (.tuple #[.int .i64 (dnT N x N.length 0).1, .int .i64 (dnT N x N.length 0).2]) ∧ Below W.heap.size W w') := fun W h =>
        ref_down N dim A A2 x c c2 B hl h2 N.length 0 N.length d0 s0 (by omega) (by omega) W (hA.below (h.mono hB)) (hx.below (h.mono hB)) (Nat.le_trans hB h.size)
      rw [h1] at KT
      rw [h2] at KV
      generalize dnT N x N.length 0 = Z at *
      obtain ⟨z1, z2⟩ := Z
      simp only at *
      clear hv s0 h1 h2 hA hx
      generalize N.length = M at *
      generalize x.length = LX at *
      go_enter Try.func84, Try.ntmps84
      go_wp2_with fail
      refine (KT.out _ HX.out.2.1).mono ?_
      rintro e w1 ⟨rfl, b1⟩
      have J := Lib.hid (HX.out.below b1)
      clear b1 y0 y1
      obtain ⟨y0, y1⟩ := box_cut J.out.head
      go_wp2_with fail
      refine (KV.out _ J.out.2.1).mono ?_
      rintro e w2 ⟨rfl, b2⟩
      have J2 := Lib.hid (J.out.below b2)
      clear b2 y0 y1 KT KV
      obtain ⟨y0, y1⟩ := box_cut J2.out.head
      go_wp2_with fail
      refine (KD.out _ J2.out.2.1).mono ?_
      rintro e w3 ⟨rfl, b3⟩
      have J3 := Lib.hid (J2.out.below b3)
      clear b3 y0 y1 KD
      go_wp2
      go_ret3
      exact ⟨rfl, J3.out.2.1⟩
    · have hv : leafT N dim x = (0, 0, 80) := by unfold leafT; rw [if_pos h1, if_neg h2]
      rw [hv]
      rw [h1] at KT
      have hb : isV x dim = false := by simpa using h2
      rw [hb] at KV
      clear hA hx h1 h2 hb hv
      generalize N.length = M at *
      generalize x.length = LX at *
      go_enter Try.func84, Try.ntmps84
      go_wp2_with fail
      refine (KT.out _ HX.out.2.1).mono ?_
      rintro e w1 ⟨rfl, b1⟩
      have J := Lib.hid (HX.out.below b1)
      clear b1 y0 y1
      obtain ⟨y0, y1⟩ := box_cut J.out.head
      go_wp2_with fail
      refine (KV.out _ J.out.2.1).mono ?_
      rintro e w2 ⟨rfl, b2⟩
      have J2 := Lib.hid (J.out.below b2)
      clear b2 y0 y1
      go_wp2
      go_ret3
      exact ⟨rfl, J2.out.2.1⟩
  · have hv : leafT N dim x = (0, 0, 100) := by unfold leafT; rw [if_neg h1]
    have hb : isT N dim = false := by simpa using h1
    rw [hv]
    rw [hb] at KT
    clear hA hx h1 hb hv
    generalize N.length = M at *
    generalize x.length = LX at *
    go_enter Try.func84, Try.ntmps84
    go_wp2_with fail
    refine (KT.out _ HX.out.2.1).mono ?_
    rintro e w1 ⟨rfl, b1⟩
    have J := Lib.hid (HX.out.below b1)
    clear b1 y0 y1
    go_wp2
    go_ret3
    exact ⟨rfl, J.out.2.1⟩
end Go.Proofs.Yteenemdiokajbaa
