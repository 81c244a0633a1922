/- Statement BagRanks: whatever the input is, the Go function returns true and each argument reads as it did. No condition. -/
import Derived.Test.YtaeodkpkgbjaeaaRows
import Derived.Test.YtaeodkpkgbjaeaaBbI
import Derived.Test.YtaeodkpkgbjaeaaScoZ
import Derived.Test.YtaeodkpkgbjaeaaVecT
import Derived.Test.YtaeodkpkgbjaeaaBase
import Derived.ProofKit
import Derived.OpenShut
import Derived.IntWalk
namespace Go.Proofs.Ytaeodkpkgbjaeaa.bagRanks
open Go.ChangeShapes Go.WideShapes Go.ChangeAt Go.RowKit
set_option linter.unusedVariables false

theorem own : ownKnob Try.prog.godebug = none := by kernel_rfl
theorem laid : laidOutB Try.prog = true := by kernel_rfl

theorem LvS.none {w0 W : World} {g : Nat} {bx : List (Nat × Array Value)} {l : List PQ} (h : LvS w0 g bx l W) : LvS w0 g [] l W := by
  obtain ⟨O, h1, h2, h4, h5⟩ := h
  exact ⟨O, h1, by simp, h4, h5⟩
set_option maxRecDepth 100000 in
set_option maxHeartbeats 8000000 in
theorem walk (A : Option Addr) (l : List PQ) (ca : Nat) {w : World} (hA : LiesS w w.heap.size A l) (hI : okS l) (hlm : l.length ≤ 9223372036854775807) (hca : l.length ≤ ca) (hz : A = none → ca = 0) (_ : World) :
    Calls Try.prog 5 #[.slice A l.length ca] w fun e w' => e = .returned (.bool true) ∧ Below w.heap.size w w' := by
  by_cases h1 : 100 < l.length
  · have h1' : (100 : Int) < (l.length : Int) := by omega
    clear hA hI
    generalize l.length = N at *
    go_enter Try.func5, Try.ntmps5
    go_wp2_with fail
    refine (bag_new w).mono ?_
    rintro e w1 ⟨g, O, rfl, hB, hb, hlo⟩
    have HB := Lib.hid hb
    clear hB hb hlo
    go_wp2_with fail
    refine (lives18 _).mono ?_
    rintro e wl ⟨rfl, bl⟩
    have HBL := Lib.hid (HB.out.trans (bl.mono HB.out.size))
    clear bl
    go_wp2
    go_ret
    exact ⟨rfl, HBL.out⟩
  · have h1' : ¬ (100 : Int) < (l.length : Int) := by omega
    have HA := Lib.hid hA
    have HI := Lib.hid hI
    have HL := Lib.hid (show l.length ≤ 100 by omega)
    obtain ⟨N, hN⟩ : ∃ N, l.length = N := ⟨_, rfl⟩
    rw [hN] at h1' hca ⊢
    have HN := Lib.hid hN
    have hN100 : N ≤ 100 := by omega
    clear hA hI hN h1 hlm
    go_enter Try.func5, Try.ntmps5
    go_wp2_with fail
    refine (bag_new w).mono ?_
    rintro e w1 ⟨g, O, rfl, hB, hb, hlo⟩
    have H0 : Hid (LvS w g [] [] w1) := ⟨O, hB, by simp, hlo, hb⟩
    clear hB hb hlo
    go_wp2
    go_loopw [4] (fun iv wr => ∃ i : Nat, iv = .int .i64 i ∧ i ≤ N ∧ Hid (LvS w g [] (adds l i) wr)) (fun iv _ => N - (intOf iv).toNat)
    case atStart => exact ⟨0, rfl, Nat.zero_le _, H0⟩
    case round =>
      obtain ⟨i, rfl, hi, HLV⟩ := hrel
      by_cases hlt : i < N
      · have hli : i < l.length := by rw [HN.out]; exact hlt
        obtain ⟨ad, rfl, hadb, c0, c1⟩ := (HA.out.below HLV.out.up.2.2).at hli
        obtain ⟨I0, I1⟩ := HI.out _ (getD_memS hli)
        have K := Lib.hid (lvx_add w g [] (adds l i) (l.getD i pq0).1 (l.getD i pq0).2 I0 I1 wr HLV.out)
        have HSU := Lib.hid (show adds l (i + 1) = addL (adds l i) ((l.getD i pq0).1, (l.getD i pq0).2) from adds_succ l i hli)
        have hii : (i : Int) < (N : Int) := by omega
        clear hadb I0 I1
        generalize (l.getD i pq0).1 = p at *
        generalize (l.getD i pq0).2 = q at *
        go_wp2_with fail
        refine K.out.mono ?_
        rintro e w2 ⟨rfl, H2⟩
        go_wp2
        exact ⟨⟨i + 1, by go_num, by omega, by show LvS _ _ _ _ _; rw [HSU.out]; exact H2.out⟩, by simp only [intOf]; omega⟩
      · obtain rfl : i = N := by omega
        have HM := Lib.hid (fun k (hk : k < l.length) (ho : okP (l.getD k pq0)) => adds_mem l (by have := HL.out; omega) i (by rw [HN.out]; exact Nat.le_refl _) k (by have := HN.out; omega) ho)
        have HLEN := Lib.hid (adds_len l i (by rw [HN.out]; exact Nat.le_refl _))
        generalize adds l i = L at *
        clear H0
        go_wp2
        go_loopw [5, 6, 7, 8, 9, 10, 11, 12] (fun iv _ _ _ _ _ _ _ wr => ∃ k : Nat, iv = .int .i64 k ∧ k ≤ i ∧ Hid (LvS w g [] L wr)) (fun iv _ _ _ _ _ _ _ _ => i - (intOf iv).toNat)
        case atStart => exact ⟨0, rfl, Nat.zero_le _, HLV⟩
        case round =>
          obtain ⟨k, rfl, hk, HLV⟩ := hrel
          by_cases hlt : k < i
          · have hli : k < l.length := by rw [HN.out]; exact hlt
            obtain ⟨ad, rfl, hadb, c0, c1⟩ := (HA.out.below HLV.out.up.2.2).at hli
            have HCL : Hid (∀ W, Below w.heap.size w W → W.cell? (ad.add (k * 2)) = some (.int .i64 (l.getD k pq0).1) ∧ W.cell? ⟨(ad.add (k * 2)).block, (ad.add (k * 2)).off + 1, none⟩ = some (.int .i64 (l.getD k pq0).2)) := fun W hb => by
              obtain ⟨ad', eA, _, c0, c1⟩ := (HA.out.below hb).at hli
              cases eA
              exact ⟨c0, c1⟩
            obtain ⟨I0, I1⟩ := HI.out _ (getD_memS hli)
            have HMK := Lib.hid (fun (ho : okP ((l.getD k pq0).1, (l.getD k pq0).2)) => HM.out k hli ho)
            have HMK' : Hid (okP ((l.getD k pq0).1, (l.getD k pq0).2) → ((l.getD k pq0).1, (l.getD k pq0).2) ∈ L) := HMK.out
            have hii : (k : Int) < (i : Int) := by omega
            clear hadb HMK
            generalize (l.getD k pq0).1 = p at *
            generalize (l.getD k pq0).2 = q at *
            have K1 := Lib.hid (fun W => ref13_is p q W)
            by_cases hok : okP (p, q)
            · have hsc : scoB p q = true := decide_eq_true hok
              rw [hsc] at K1
              obtain ⟨hS1, hS2, hE1, hE2⟩ := HLV.out.up.1.places hok (HMK'.out hok)
              have hL4 := HLV.out.up.2.1
              have K2 := Lib.hid (fun W h => lvx_rank w g [] L p q I0 I1 W h)
              unfold rkL rkS rkE at K2
              rw [if_pos hok, if_pos hok, if_pos hok] at K2
              have K4 := Lib.hid (fun W h => lvx_len w g [] L W h)
              obtain ⟨n1, hn1⟩ : ∃ n1, n1 = lessN L (p, q) := ⟨_, rfl⟩
              obtain ⟨n2, hn2⟩ : ∃ n2, n2 = sameN L (p, q) := ⟨_, rfl⟩
              rw [← hn1, ← hn2] at K2 hE2 hS2
              rw [← hn2] at hS1
              rw [← hn1] at hE1
              obtain ⟨n12, h12⟩ : ∃ n12, n12 = n1 + n2 := ⟨_, rfl⟩
              obtain ⟨x1, hx1⟩ : ∃ x1 : Int, x1 = (n1 : Int) + 1 := ⟨_, rfl⟩
              obtain ⟨M, hM⟩ : ∃ M, M = L.length := ⟨_, rfl⟩
              have K5 := Lib.hid (fun bx W h => lvx_kth w g bx L n1 x1 p q hx1 (by omega) hE1 W h)
              have K6 := Lib.hid (fun bx W h => lvx_kth w g bx L (n12 - 1) (n12 : Int) p q (by omega) (by omega) (by rw [h12]; exact hE2) W h)
              rw [← hM] at K4
              have hw1 : IntKind.i64.wrap ((n1 : Int) + (n2 : Int)) = (n12 : Int) := by rw [IntKind.wrap_i64]; omega
              have hw2 : IntKind.i64.wrap ((n1 : Int) + 1) = x1 := by rw [IntKind.wrap_i64]; omega
              have b1 : ¬ (n2 : Int) < 1 := by omega
              have b2 : ¬ (n1 : Int) < 0 := by omega
              have b3 : ¬ (M : Int) < (n12 : Int) := by omega
              clear hE1 hE2 hn1 hn2 h12 hx1 hM hS1 hS2 hok hsc I0 I1 HM
              go_wp2_with fail
              refine (K1.out _).mono ?_
              rintro e w2 ⟨rfl, d2⟩
              have H2 := Lib.hid (HLV.out.below d2)
              clear d2 c0 c1
              obtain ⟨c0, c1⟩ := HCL.out _ H2.out.up.2.2
              go_wp2_with fail
              refine (K2.out _ H2.out).mono ?_
              rintro e w3 ⟨rfl, H3, -⟩
              clear c0 c1
              go_wp2_with fail
              refine (K4.out _ H3.out).mono ?_
              rintro e w4 ⟨rfl, rfl⟩
              go_wp2_with fail
              refine (K5.out _ _ H3.out).mono ?_
              rintro e w5 ⟨rfl, H5, -⟩
              have HBX := Lib.hid (Box.new w5 #[.int .i64 0, .int .i64 0] 24)
              obtain ⟨s0, s1, f0, f1⟩ := HBX.out.two
              have H6 := Lib.hid (H5.out.more #[.int .i64 p, .int .i64 q])
              go_wp2_with fail
              refine (K6.out _ _ H6.out).mono ?_
              rintro e w7 ⟨rfl, H7, -⟩
              clear s0 s1 f0 f1 HBX
              have HBX := Lib.hid (Box.new w7 #[.int .i64 0, .int .i64 0] 24)
              obtain ⟨s0, s1, f0, f1⟩ := HBX.out.two
              have H8 := Lib.hid (H7.out.more #[.int .i64 p, .int .i64 q])
              obtain ⟨c0, c1⟩ := HCL.out _ H8.out.up.2.2
              obtain ⟨y0, y1, _, _⟩ := (H8.out.box (gh := w5.heap.size) (cs := #[.int .i64 p, .int .i64 q]) (by simp)).two
              obtain ⟨z0, z1, _, _⟩ := (H8.out.box (gh := w7.heap.size) (cs := #[.int .i64 p, .int .i64 q]) (by simp)).two
              clear HBX
              go_upto_region 17 with fail
              clear s0 s1 f0 f1
              generalize w7.alloc (.cells #[.int .i64 p, .int .i64 q] 24) = W8 at *
              generalize w7.heap.size = g7 at *
              generalize w5.heap.size = g5 at *
              have H9 : Hid (∀ n, LvS w g [] L (W8.drewN n)) := fun n => LvS.none (H8.out.drewN n)
              go_quiet (fail)
              go_wp2
              exact ⟨⟨k + 1, by go_num, by omega, H9.out _⟩, by simp only [intOf]; omega⟩
            · have hsc : scoB p q = false := decide_eq_false hok
              rw [hsc] at K1
              go_wp2_with fail
              refine (K1.out _).mono ?_
              rintro e w2 ⟨rfl, d2⟩
              have H2 := Lib.hid (HLV.out.below d2)
              clear d2 c0 c1
              go_wp2
              exact ⟨⟨k + 1, by go_num, by omega, H2⟩, by simp only [intOf]; omega⟩
          · obtain rfl : k = i := by omega
            go_wp2_with fail
            refine (lives18 _).mono ?_
            rintro e wl ⟨rfl, bl⟩
            have HB := Lib.hid HLV.out.up.2.2
            have HBL := Lib.hid (HB.out.trans (bl.mono HB.out.size))
            clear bl
            go_wp2
            go_ret
            exact ⟨rfl, HBL.out⟩

set_option maxRecDepth 100000 in
theorem lifted (os : Os) (started : os.Started) (H : Type) (enc : TypeId × Value → H) :
    ReturnsInHanded {} Try.checked os 5 .any (Rows.bagRanksSpec.pre6 enc Try.prog Try.f5 Rows.bagRanksRow.domain false) (Rows.bagRanksSpec.post enc Try.prog Try.f5 false true false false) := by
  refine returnsInHanded_of_change (C := Try.checked) own started (by kernel_rfl) Try.func5
    (ChangeSpec.witness6 (enc := enc) (C := Try.checked) false ⟨#[], #[.slice none 0 0], []⟩ 8 (by kernel_rfl) (by kernel_rfl) (by kernel_rfl) (by kernel_rfl)) ?_
  intro W base args ds gs before hval0 hW hcnd _
  have hval : ∀ (j : Nat) t v, Try.f5.params[j]? = some t → args[j]? = some v → Value.okWide Try.prog W .any base t v := hval0
  have hW' := hW
  obtain ⟨p, q, hA0, hV, rfl, hfz, hnd⟩ := hW
  obtain ⟨rfl, rfl⟩ := trodVars_none hV
  have hA : DataW.TrodAll enc Try.prog W 0 (fun _ => true) true Try.f5.params.toList args.toList ds p := hA0
  rw [Try.params5] at hA hval
  obtain ⟨v0, vs0, d0, ds0, p0, q0, hargs, rfl, rfl, h0, r0⟩ := trodAll_cons hA
  obtain ⟨rfl, rfl, rfl⟩ := trodAll_nil r0
  obtain rfl : args = #[v0] := by cases args; simp_all
  obtain ⟨A0, l0, c0, rfl, L0, I0, M0, N0, Z0⟩ := open_scores Try.underlying28 Try.underlying24 (by kernel_rfl) rfl (by kernel_rfl) (Prod.ext Try.underlying3 Try.underlying3) (hval 0 28 v0 rfl rfl) h0
  refine (walk A0 l0 c0 L0 I0 M0 N0 Z0 W).mono fun e W' ⟨he, hg⟩ => ?_
  subst he
  exact ⟨_, rfl, law_post laid (by rw [Try.params5]; exact (by decide +kernel)) rfl (by kernel_rfl) Try.underlying4 rfl hW' hg⟩

theorem over : Rows.bagRanksRow.holds Try.pinned (OpenSpec.ofChange Rows.bagRanksSpec) :=
  OpenClaim.holds_of_wide 5 Try.f5 rfl rfl rfl rfl rfl rfl rfl ⟨rfl, rfl, rfl, rfl, rfl⟩ rfl rfl rfl rfl rfl (by kernel_rfl) Try.func5 (by kernel_rfl)
    (of_decide_eq_true (by kernel_rfl)) (by unfold Func.isWrapper; first | (rw [if_pos (by decide +kernel)]; kernel_rfl) | (rw [if_neg (by decide +kernel)]; exact ⟨rfl, rfl⟩))
    (fun os started H enc _ => lifted os started H enc)
theorem proved : Rows.BagRanksSaid := over
end Go.Proofs.Ytaeodkpkgbjaeaa.bagRanks
