/- Statement BagDoes: whatever the input is, the Go function returns true and each argument reads as it did. No condition. -/
import Derived.Test.YtaeodkpkgbjaeaaRows
import Derived.Test.YtaeodkpkgbjaeaaBgK
import Derived.Test.YtaeodkpkgbjaeaaBgE
import Derived.Test.YtaeodkpkgbjaeaaScoV
import Derived.Test.YtaeodkpkgbjaeaaScoZ
import Derived.Test.YtaeodkpkgbjaeaaVecT
import Derived.Test.YtaeodkpkgbjaeaaBase
import Derived.ProofKit
import Derived.OpenShut
import Derived.IntWalk
namespace Go.Proofs.Ytaeodkpkgbjaeaa.bagDoes
open Go.ChangeShapes Go.WideShapes Go.ChangeAt Go.RowKit
set_option linter.unusedVariables false

theorem own : ownKnob Try.prog.godebug = none := by kernel_rfl
theorem laid : laidOutB Try.prog = true := by kernel_rfl

set_option maxRecDepth 100000 in
set_option maxHeartbeats 8000000 in
theorem walk (A : Option Addr) (l : List OQ) (ca : Nat) {w : World} (hA : LiesQ w w.heap.size A l) (hI : ∀ x ∈ l, I64 x.1 ∧ I64 x.2.1 ∧ I64 x.2.2) (hlm : l.length ≤ 9223372036854775807) (hca : l.length ≤ ca) (hz : A = none → ca = 0) (op oq : Int) (hop : I64 op) (hoq : I64 oq) (m : Int) (hm : I64 m) (_ : World) :
    Calls Try.prog 3 #[.slice A l.length ca, .agg #[.int .i64 op, .int .i64 oq], .int .i64 m] w fun e w' => e = .returned (.bool true) ∧ Below w.heap.size w w' := by
  have J0 := Lib.hid ((Keeps.start w).alloc #[.int .i64 op, .int .i64 oq] 24)
  by_cases h1 : 200 < l.length
  · have h1' : (200 : Int) < (l.length : Int) := by omega
    clear hA hI
    generalize l.length = N at *
    go_enter Try.func3, Try.ntmps3
    go_wp2_with fail
    refine (bag_new _).mono ?_
    rintro e w1 ⟨g, O, rfl, hB, hb, hlo⟩
    have J1 := Lib.hid (J0.out.below (by simp only [alloc_size']; simpa using hb))
    clear hB hb hlo
    go_wp2_with fail
    refine (lives18 _).mono ?_
    rintro e wl ⟨rfl, bl⟩
    have J3 := Lib.hid (J1.out.below bl)
    clear bl
    go_wp2
    go_ret
    exact ⟨rfl, J3.out.2.1⟩
  · have h1' : ¬ (200 : Int) < (l.length : Int) := by omega
    have HA := Lib.hid hA
    have HI := Lib.hid hI
    obtain ⟨N, hN⟩ : ∃ N, l.length = N := ⟨_, rfl⟩
    rw [hN] at h1' hca ⊢
    have HN := Lib.hid hN
    have hN100 : N ≤ 200 := by omega
    clear hA hI hN h1 hlm
    go_enter Try.func3, Try.ntmps3
    go_wp2_with fail
    refine (bag_new _).mono ?_
    rintro e w1 ⟨g, O, rfl, hB, hb, hlo⟩
    have H0 : Hid (LvR w g [(w.heap.size, #[.int .i64 op, .int .i64 oq])] [] none 0 [] w1) := by
      have J2 := J0.out.below hb
      refine LvR.start ⟨O, hB, fun x hx => ?_, fun x hx => ?_, J2.2.1⟩
      · rw [List.mem_singleton] at hx
        subst hx
        refine ⟨fun hx => ?_, J2.head⟩
        have := hlo _ hx; rw [alloc_size'] at this; exact absurd this (by show ¬ w.heap.size + 1 ≤ w.heap.size; omega)
      · have := hlo x hx; rw [alloc_size'] at this; omega
    clear hB hb hlo J0
    go_wp2
    go_loopw [8, 9, 10] (fun av bv iv wr => ∃ (i n cb : Nat) (B : Option Addr) (L : List PQ), iv = .int .i64 i ∧ av = .slice B n cb ∧ bv = .bool true ∧ i ≤ N ∧ Hid (L.length = n) ∧ Hid (LvR w g [(w.heap.size, #[.int .i64 op, .int .i64 oq])] L B cb L wr)) (fun _ _ iv _ => N - (intOf iv).toNat)
    case atStart => exact ⟨0, 0, 0, none, [], rfl, rfl, rfl, Nat.zero_le _, rfl, H0⟩
    case round =>
      obtain ⟨i, n, cb, B, L, rfl, rfl, rfl, hi, HLN, HLV⟩ := hrel
      by_cases hlt : i < N
      · have hli : i < l.length := by rw [HN.out]; exact hlt
        obtain ⟨ad, rfl, hadb, c0, c1, c2⟩ := (HA.out.below HLV.out.lvs.up.2.2).at hli
        obtain ⟨_, I0, I1⟩ := HI.out _ (getD_memQ hli)
        have hii : (i : Int) < (N : Int) := by omega
        clear hadb
        generalize (l.getD i oq0).1 = k at *
        generalize (l.getD i oq0).2.1 = p at *
        generalize (l.getD i oq0).2.2 = q at *
        have K := Lib.hid (law_do w g [(w.heap.size, #[.int .i64 op, .int .i64 oq])] L B cb k p q I0 I1 wr HLV.out)
        rw [HLN.out] at K
        generalize stL k L (p, q) = L2 at K
        obtain ⟨n2, hn2⟩ : ∃ n2, L2.length = n2 := ⟨_, rfl⟩
        rw [hn2] at K
        have HN2 := Lib.hid hn2
        clear I0 I1 hn2
        go_wp2_with fail
        refine K.out.mono ?_
        rintro e w2 ⟨B2, cb2, rfl, h2⟩
        have H2 := Lib.hid h2
        clear h2 K
        have K4 := Lib.hid (lvx_len w g _ L2 _ H2.out.lvs)
        rw [HN2.out] at K4
        go_wp2_with fail
        refine K4.out.mono ?_
        rintro e w4 ⟨rfl, rfl⟩
        go_wp2
        exact ⟨⟨i + 1, n2, cb2, B2, L2, by go_num, rfl, rfl, by omega, HN2, H2⟩, by simp only [intOf]; omega⟩
      · obtain rfl : i = N := by omega
        clear H0 HA HI
        have K1 := Lib.hid (lvr_all w g _ L L B cb _ HLV.out)
        rw [HLN.out] at K1
        go_wp2_with fail
        refine K1.out.mono ?_
        rintro e w3 ⟨X, cx, rfl, hX, hL⟩
        have H3 := Lib.hid hL
        have hn4 : n ≤ 4096 := by have := hL.ups.2; have := HLN.out; omega
        have KS := Lib.hid (ref13_same X B L L n n cx cb _ _ w3 HLN.out HLN.out hX hL.list.1 (by omega) (by omega))
        rw [show decide (L = L) = true from decide_eq_true rfl] at KS
        clear hX hL K1
        go_wp2_with fail
        refine KS.out.mono ?_
        rintro e w4 ⟨rfl, nq, rfl⟩
        have H4 := Lib.hid (H3.out.below (below_drewN (Below.refl _ _) nq))
        clear H3 KS
        generalize w3.drewN nq = w4 at *
        obtain ⟨s0, s1⟩ := H4.out.lvs.cells
        have K5 := Lib.hid (lvx_rank w g _ L op oq hop hoq w4 H4.out.lvs)
        have K6 : Hid (∀ W, LvR w g [(w.heap.size, #[.int .i64 op, .int .i64 oq])] L B cb L W → Calls Try.prog 23 #[.slice B n cb, .agg #[.int .i64 op, .int .i64 oq]] W fun e w' => e = .returned (.tuple #[.int .i64 (rkL L (op, oq) : Nat), .int .i64 (rkS L (op, oq) : Nat), .int .i64 (rkE (op, oq))]) ∧ Below W.heap.size W w') := fun W h => by
          have := ref_Rank18 B L cb op oq W h.list.1 h.ups.1.ok (by have := h.ups.2; omega) h.list.2.1
          rwa [HLN.out] at this
        generalize rkL L (op, oq) = n1 at K5 K6
        generalize rkS L (op, oq) = n2 at K5 K6
        generalize rkE (op, oq) = x3 at K5 K6
        go_wp2_with fail
        refine K5.out.mono ?_
        rintro e w5 ⟨rfl, -, b5⟩
        have H5 := Lib.hid (H4.out.below b5.out)
        clear s0 s1 b5 H4 K5
        obtain ⟨s0, s1⟩ := H5.out.lvs.cells
        go_wp2_with fail
        refine (K6.out _ H5.out).mono ?_
        rintro e w6 ⟨rfl, b6⟩
        have H6 := Lib.hid (H5.out.below b6)
        clear s0 s1 b6 H5 K6
        by_cases hin : 1 ≤ m ∧ m ≤ (n : Int)
        · obtain ⟨k, hk⟩ : ∃ k : Nat, m = (k : Int) + 1 := ⟨(m - 1).toNat, by omega⟩
          have hkn : k < n := by omega
          have hkL : k < L.length := by rw [HLN.out]; exact hkn
          have K7 := Lib.hid (lvx_kth w g _ L k m (L.getD k pq0).1 (L.getD k pq0).2 hk hkL rfl w6 H6.out.lvs)
          have b1 : ¬ m < 1 := by omega
          have b2 : ¬ (n : Int) < m := by omega
          have hw1 : IntKind.i64.wrap (m - 1) = (k : Int) := by rw [IntKind.wrap_i64]; omega
          have hkI : (k : Int) < (n : Int) := by omega
          clear hk hin
          have HC : Hid (∀ W, LvR w g [(w.heap.size, #[.int .i64 op, .int .i64 oq])] L B cb L W → ∃ ad : Addr, B = some ad ∧ ad.block < W.heap.size ∧ W.cell? (ad.add (k * 2)) = some (.int .i64 (L.getD k pq0).1) ∧ W.cell? ⟨(ad.add (k * 2)).block, (ad.add (k * 2)).off + 1, none⟩ = some (.int .i64 (L.getD k pq0).2)) := fun W h => h.list.1.at hkL
          clear hkL
          generalize (L.getD k pq0).1 = p at *
          generalize (L.getD k pq0).2 = q at *
          go_wp2_with fail
          refine K7.out.mono ?_
          rintro e w7 ⟨rfl, -, b7⟩
          have H7 := Lib.hid (H6.out.below b7.out)
          clear b7 H6 K7
          obtain ⟨ad, rfl, -, -⟩ := HC.out _ H7.out
          have HBX := Lib.hid (Box.new w7 #[.int .i64 0, .int .i64 0] 24)
          obtain ⟨s0, s1, f0, f1⟩ := HBX.out.two
          have HB8 := Lib.hid (Box.new w7 #[.int .i64 p, .int .i64 q] 24)
          have H8 := Lib.hid (H7.out.below ((Below.refl _ _).alloc (Nat.le_refl _) (.cells #[.int .i64 p, .int .i64 q] 24)))
          go_upto_region 20 with fail
          clear s0 s1 f0 f1 HBX H7
          generalize w7.alloc (.cells #[.int .i64 p, .int .i64 q] 24) = W8 at HB8 H8 ⊢
          generalize w7.heap.size = g7 at HB8 ⊢
          have HS : Hid (∀ W, Below W8.heap.size W8 W → ((W.cell? ⟨g7, 0, none⟩ = some (.int .i64 p) ∧ W.cell? ⟨g7, 1, none⟩ = some (.int .i64 q)) ∧ (W.cell? (ad.add (k * 2)) = some (.int .i64 p) ∧ W.cell? ⟨(ad.add (k * 2)).block, (ad.add (k * 2)).off + 1, none⟩ = some (.int .i64 q))) ∧ Below w.heap.size w W) := fun W hb => by
            have hbx := HB8.out.below hb HB8.out.lt
            have hL := H8.out.below hb
            obtain ⟨ad', e, _, c0, c1⟩ := HC.out _ hL
            cases e
            exact ⟨⟨⟨(hbx.cell 0).trans rfl, (hbx.cell 1).trans rfl⟩, c0, c1⟩, hL.lvs.up.2.2⟩
          have KL : Hid (∀ W, Below W8.heap.size W8 W → Calls Try.prog 17 #[] W fun e w' => e = .returned (.bool true) ∧ ((w'.cell? ⟨g7, 0, none⟩ = some (.int .i64 p) ∧ w'.cell? ⟨g7, 1, none⟩ = some (.int .i64 q)) ∧ (w'.cell? (ad.add (k * 2)) = some (.int .i64 p) ∧ w'.cell? ⟨(ad.add (k * 2)).block, (ad.add (k * 2)).off + 1, none⟩ = some (.int .i64 q))) ∧ Hid (Below w.heap.size w w')) := fun W hW => by
            refine (lives18 W).mono ?_
            rintro e w' ⟨rfl, hb⟩
            have h := HS.out _ (hW.trans (hb.mono hW.size))
            exact ⟨rfl, h.1, h.2⟩
          obtain ⟨⟨⟨s0, s1⟩, c0, c1⟩, -⟩ := HS.out _ (Below.refl _ _)
          go_region_held3 (fun W => (W.cell? ⟨g7, 0, none⟩ = some (.int .i64 p) ∧ W.cell? ⟨g7, 1, none⟩ = some (.int .i64 q)) ∧ (W.cell? (ad.add (k * 2)) = some (.int .i64 p) ∧ W.cell? ⟨(ad.add (k * 2)).block, (ad.add (k * 2)).off + 1, none⟩ = some (.int .i64 q))) (go_keep)
            (first | (go_at_call 17; refine Calls.mono (KL.out _ ?_) ?_; (first | exact Below.refl _ _ | exact (Below.refl _ _).drew | exact below_drewN (Below.refl _ _) _); rintro e w5 ⟨rfl, ⟨⟨s0, s1⟩, c0, c1⟩, HB5⟩))
          go_wp2
          go_ret
          exact ⟨rfl, HB5.out⟩
        · have K7 := Lib.hid (lvr_kth_no w g _ L L B cb m (by rw [HLN.out]; omega) w6 H6.out)
          go_wp2_with fail
          refine K7.out.mono ?_
          rintro e w7 ⟨rfl, b7⟩
          have H7 := Lib.hid (H6.out.below b7)
          clear b7 H6 K7
          have HBX := Lib.hid (Box.new w7 #[.int .i64 0, .int .i64 0] 24)
          obtain ⟨s0, s1, f0, f1⟩ := HBX.out.two
          have H8 := Lib.hid (H7.out.below ((Below.refl _ _).alloc (Nat.le_refl _) (.cells #[.int .i64 0, .int .i64 0] 24)))
          have key : m < 1 ∨ (¬ m < 1 ∧ (n : Int) < m) := by omega
          rcases key with b1 | ⟨b1, b2⟩
          all_goals
            go_wp2_with fail
            refine (lives18 _).mono ?_
            rintro e wl ⟨rfl, bl⟩
            have HBL := Lib.hid (H8.out.lvs.up.2.2.trans (bl.mono H8.out.lvs.up.2.2.size))
            clear bl
            go_wp2
            go_ret
            exact ⟨rfl, HBL.out⟩

set_option maxRecDepth 100000 in
theorem lifted (os : Os) (started : os.Started) (H : Type) (enc : TypeId × Value → H) :
    ReturnsInHanded {} Try.checked os 3 .any (Rows.bagDoesSpec.pre6 enc Try.prog Try.f3 Rows.bagDoesRow.domain false) (Rows.bagDoesSpec.post enc Try.prog Try.f3 false true false false) := by
  refine returnsInHanded_of_change (C := Try.checked) own started (by kernel_rfl) Try.func3
    (ChangeSpec.witness6 (enc := enc) (C := Try.checked) false ⟨#[], #[.slice none 0 0, .agg #[.int .i64 0, .int .i64 0], .int .i64 0], []⟩ 8 (by kernel_rfl) (by kernel_rfl) (by kernel_rfl) (by kernel_rfl)) ?_
  intro W base args ds gs before hval0 hW hcnd _
  have hval : ∀ (j : Nat) t v, Try.f3.params[j]? = some t → args[j]? = some v → Value.okWide Try.prog W .any base t v := hval0
  have hW' := hW
  obtain ⟨p, q, hA0, hV, rfl, hfz, hnd⟩ := hW
  obtain ⟨rfl, rfl⟩ := trodVars_none hV
  have hA : DataW.TrodAll enc Try.prog W 0 (fun _ => true) true Try.f3.params.toList args.toList ds p := hA0
  rw [Try.params3] at hA hval
  obtain ⟨v0, vs0, d0, ds0, p0, q0, hargs, rfl, rfl, h0, r0⟩ := trodAll_cons hA
  obtain ⟨v1, vs1, d1, ds1, p1, q1, rfl, rfl, rfl, h1, r1⟩ := trodAll_cons r0
  obtain ⟨v2, vs2, d2, ds2, p2, q2, rfl, rfl, rfl, h2, r2⟩ := trodAll_cons r1
  obtain ⟨rfl, rfl, rfl⟩ := trodAll_nil r2
  obtain rfl : args = #[v0, v1, v2] := by cases args; simp_all
  obtain ⟨A0, l0, c0, rfl, L0, I0, M0, N0, Z0⟩ := open_ops18 Try.underlying22 Try.underlying32 (by kernel_rfl) rfl (by kernel_rfl) (Prod.ext Try.underlying3 Try.underlying24) rfl (by kernel_rfl) (Prod.ext Try.underlying3 Try.underlying3) (hval 0 22 v0 rfl rfl) h0
  obtain ⟨a1, b1, rfl, w1, z1⟩ := open_two Try.underlying24 Try.underlying3 Try.underlying3 (by kernel_rfl) (by kernel_rfl) (hval 1 24 v1 rfl rfl) h1
  obtain ⟨a2, rfl, _, _, w2⟩ := open_int Try.underlying3 (hval 2 3 v2 rfl rfl) h2
  refine (walk A0 l0 c0 L0 I0 M0 N0 Z0 a1 b1 (i64_of_wf w1) (i64_of_wf z1) a2 (i64_of_wf w2) W).mono fun e W' ⟨he, hg⟩ => ?_
  subst he
  exact ⟨_, rfl, law_post laid (by rw [Try.params3]; exact (by decide +kernel)) rfl (by kernel_rfl) Try.underlying4 rfl hW' hg⟩

theorem over : Rows.bagDoesRow.holds Try.pinned (OpenSpec.ofChange Rows.bagDoesSpec) :=
  OpenClaim.holds_of_wide 3 Try.f3 rfl rfl rfl rfl rfl rfl rfl ⟨rfl, rfl, rfl, rfl, rfl⟩ rfl rfl rfl rfl rfl (by kernel_rfl) Try.func3 (by kernel_rfl)
    (of_decide_eq_true (by kernel_rfl)) (by unfold Func.isWrapper; first | (rw [if_pos (by decide +kernel)]; kernel_rfl) | (rw [if_neg (by decide +kernel)]; exact ⟨rfl, rfl⟩))
    (fun os started H enc _ => lifted os started H enc)
theorem proved : Rows.BagDoesSaid := over
end Go.Proofs.Ytaeodkpkgbjaeaa.bagDoes
