/- Statement QuantLines: whatever the input is, the Go function returns true and each argument reads as it did. No condition. -/
import Derived.Test.YtaeodkpkgbjaeaaRows
import Derived.Test.YtaeodkpkgbjaeaaBbK
import Derived.Test.YtaeodkpkgbjaeaaBgE
import Derived.Test.YtaeodkpkgbjaeaaQuaE
import Derived.Test.YtaeodkpkgbjaeaaVecT
import Derived.Test.YtaeodkpkgbjaeaaBase
import Derived.ProofKit
import Derived.OpenShut
import Derived.IntWalk
namespace Go.Proofs.Ytaeodkpkgbjaeaa.quantLines
open Go.ChangeShapes Go.WideShapes Go.ChangeAt Go.RowKit
set_option linter.unusedVariables false

theorem own : ownKnob Try.prog.godebug = none := by kernel_rfl
theorem laid : laidOutB Try.prog = true := by kernel_rfl

theorem filter_all {l : List PQ} (h : allS l = true) : l.filter (fun x => decide (okP x)) = l :=
  List.filter_eq_self.2 fun x hx => decide_eq_true (all_okP h x hx)
theorem adds_all_len {l : List PQ} (h : allS l = true) (hl : l.length ≤ 4000) : IsSort l (adds l l.length) := by
  have h1 := adds_perm l hl l.length (Nat.le_refl _)
  rw [List.take_length, filter_all h] at h1
  exact ⟨h1, (adds_up l l.length (Nat.le_refl _)).up⟩
set_option maxRecDepth 100000 in
set_option maxHeartbeats 8000000 in
theorem walk (A : Option Addr) (l : List PQ) (ca : Nat) {w : World} (hA : LiesS w w.heap.size A l) (hI : okS l) (hlm : l.length ≤ 9223372036854775807) (hca : l.length ≤ ca) (hz : A = none → ca = 0) (p : Int) (hp : I64 p) (d : Int) (hd : I64 d) (_ : World) :
    Calls Try.prog 6 #[.slice A l.length ca, .int .i64 p, .int .i64 d] w fun e w' => e = .returned (.bool true) ∧ Below w.heap.size w w' := by
  by_cases h1 : 100 < l.length
  · have h1' : (100 : Int) < (l.length : Int) := by omega
    have HB := Lib.hid (Below.refl w.heap.size w)
    clear hA hI
    generalize l.length = N at *
    go_enter Try.func6, Try.ntmps6
    go_wp2_with fail
    refine (lives19 _).mono ?_
    rintro e wl ⟨rfl, bl⟩
    have HBL := Lib.hid (HB.out.trans (bl.mono HB.out.size))
    clear bl
    go_wp2
    go_ret
    exact ⟨rfl, HBL.out⟩
  · have h1' : ¬ (100 : Int) < (l.length : Int) := by omega
    have hs : allS l = true → IsSort l (adds l l.length) := fun h => adds_all_len h (by omega)
    have HA := Lib.hid hA
    have HI := Lib.hid hI
    have HL := Lib.hid (show l.length ≤ 100 by omega)
    have K1 := Lib.hid (fun W (h : Below w.heap.size w W) => qua_line A l (adds l l.length) ca p d W ((hA.below h).mono h.size) hI (by omega) hca hz hs)
    have K2 := Lib.hid (fun W (h : Below w.heap.size w W) => ref19_line A l (adds l l.length) ca p d W ((hA.below h).mono h.size) hI (by omega) hca hz hs)
    have K3 := Lib.hid (fun W (h : Below w.heap.size w W) => ref13_all A l ca W ((hA.below h).mono h.size) hI (by omega))
    have HADD := Lib.hid (fun i (hi : i < l.length) => adds_succ l i hi)
    have HLEN := Lib.hid (fun i (hi : i ≤ l.length) => adds_len l i hi)
    have HS := Lib.hid hs
    unfold lnV at K1 K2
    generalize hsp : (lnS l (adds l l.length) p d).1 = sp at *
    generalize hsq : (lnS l (adds l l.length) p d).2 = sq at *
    generalize hle : lnE l p d = le at *
    have HV := Lib.hid (show (lnS l (adds l l.length) p d).1 = sp ∧ (lnS l (adds l l.length) p d).2 = sq ∧ lnE l p d = le from ⟨hsp, hsq, hle⟩)
    obtain ⟨N, hN⟩ : ∃ N, l.length = N := ⟨_, rfl⟩
    clear hsp hsq hle hs
    have HN := Lib.hid hN
    have hN100 : N ≤ 100 := by omega
    rw [hN] at h1' hca K1 K2 K3 HV ⊢
    clear hA hI hN h1 hlm
    go_enter Try.func6, Try.ntmps6
    go_wp2_with fail
    refine (K1.out _ (Below.refl _ _)).mono ?_
    rintro e w1 ⟨rfl, b1⟩
    have HB1 := Lib.hid b1
    clear b1
    have HX1 := Lib.hid (Box.new w1 #[.int .i64 0, .int .i64 0] 24)
    obtain ⟨r0, r1, r2, r3⟩ := HX1.out.two
    have HY1 := Lib.hid (Box.new w1 #[.int .i64 sp, .int .i64 sq] 24)
    have HB2 : Hid (Below w.heap.size w (w1.alloc (.cells #[.int .i64 sp, .int .i64 sq] 24))) := HB1.out.trans (((Below.refl w1.heap.size w1).alloc (Nat.le_refl _) _).mono HB1.out.size)
    go_wp2_with fail
    refine (K2.out _ HB2.out).mono ?_
    rintro e w2 ⟨rfl, b2⟩
    have HY2 := Lib.hid (HY1.out.below b2 HY1.out.lt)
    have HB3 := Lib.hid (HB2.out.trans (b2.mono HB2.out.size))
    clear b2 r0 r1 r2 r3 HX1
    have HX2 := Lib.hid (Box.new w2 #[.int .i64 0, .int .i64 0] 24)
    obtain ⟨r0, r1, r2, r3⟩ := HX2.out.two
    have hal : Below w2.heap.size w2 (w2.alloc (.cells #[.int .i64 sp, .int .i64 sq] 24)) := (Below.refl w2.heap.size w2).alloc (Nat.le_refl _) _
    have HY3 := Lib.hid (HY2.out.below hal HY2.out.lt)
    have HZ3 := Lib.hid (Box.new w2 #[.int .i64 sp, .int .i64 sq] 24)
    have HB4 := Lib.hid (HB3.out.trans (hal.mono HB3.out.size))
    obtain ⟨y0, y1, _, _⟩ := HY3.out.two
    obtain ⟨z0, z1, _, _⟩ := HZ3.out.two
    clear hal
    cases ha : allS l with
    | false =>
      rw [ha] at K3
      go_wp2_with fail
      refine (K3.out _ HB4.out).mono ?_
      rintro e w3 ⟨rfl, b3⟩
      have HB5 := Lib.hid (HB4.out.trans (b3.mono HB4.out.size))
      clear b3
      go_wp2_with fail
      refine (lives19 _).mono ?_
      rintro e wl ⟨rfl, bl⟩
      have HBL := Lib.hid (HB5.out.trans (bl.mono HB5.out.size))
      clear bl
      go_wp2
      go_ret
      exact ⟨rfl, HBL.out⟩
    | true =>
      rw [ha] at K3
      go_wp2_with fail
      refine (K3.out _ HB4.out).mono ?_
      rintro e w3 ⟨rfl, b3⟩
      have HB5 := Lib.hid (HB4.out.trans (b3.mono HB4.out.size))
      have HZ4 := Lib.hid (HZ3.out.below b3 HZ3.out.lt)
      clear b3 y0 y1 z0 z1 r0 r1 r2 r3
      go_wp2_with fail
      refine (bag_new _).mono ?_
      rintro e w4 ⟨g, O, rfl, hB, hb, hlo⟩
      have H0 : Hid (LvS w g [(w2.heap.size, #[.int .i64 sp, .int .i64 sq])] [] w4) := by
        refine ⟨O, hB, fun x hx => ?_, fun x hx => ?_, HB5.out.trans (hb.mono HB5.out.size)⟩
        · rw [List.mem_singleton] at hx
          subst hx
          exact ⟨fun hx => by have := hlo _ hx; have h2 := HZ4.out.lt; exact absurd this (by show ¬ w3.heap.size ≤ w2.heap.size; omega), HZ4.out.below hb HZ4.out.lt⟩
        · have := hlo x hx; have := HB5.out.size; omega
      clear hB hb hlo
      generalize w2.heap.size = gz at *
      have HOK := Lib.hid (all_okP ha)
      go_wp2
      go_loopw [12] (fun iv wr => ∃ i : Nat, iv = .int .i64 i ∧ i ≤ N ∧ Hid (LvS w g [(gz, #[.int .i64 sp, .int .i64 sq])] (adds l i) wr)) (fun iv _ => N - (intOf iv).toNat)
      case atStart => exact ⟨0, rfl, Nat.zero_le _, H0⟩
      case round =>
        obtain ⟨i, rfl, hi, HLV⟩ := hrel
        by_cases hlt : i < N
        · have hli : i < l.length := by rw [HN.out]; exact hlt
          obtain ⟨ad, rfl, hadb, c0, c1⟩ := (HA.out.below HLV.out.up.2.2).at hli
          obtain ⟨I0, I1⟩ := HI.out _ (getD_memS hli)
          have hE : addE (adds l i) ((l.getD i pq0).1, (l.getD i pq0).2) = 0 := by
            have := HLEN.out i (by omega)
            unfold addE
            rw [if_pos (HOK.out _ (getD_memS hli)), if_neg (by omega)]
          have K := Lib.hid (lvx_add w g _ (adds l i) (l.getD i pq0).1 (l.getD i pq0).2 I0 I1 wr HLV.out)
          have HSU := Lib.hid (show adds l (i + 1) = addL (adds l i) ((l.getD i pq0).1, (l.getD i pq0).2) from HADD.out i hli)
          rw [hE] at K
          have hii : (i : Int) < (N : Int) := by omega
          clear hadb I0 I1 hE
          generalize (l.getD i pq0).1 = p1 at *
          generalize (l.getD i pq0).2 = q1 at *
          go_wp2_with fail
          refine K.out.mono ?_
          rintro e w5 ⟨rfl, H2⟩
          go_wp2
          exact ⟨⟨i + 1, by go_num, by omega, by show LvS _ _ _ _ _; rw [HSU.out]; exact H2.out⟩, by simp only [intOf]; omega⟩
        · obtain rfl : i = N := by omega
          have KO := Lib.hid (qua_of w g _ l (adds l i) p d wr HLV.out (by have := (HS.out ha).len; rwa [HN.out] at this ⊢) ha)
          unfold lnV at KO
          rw [HV.out.1, HV.out.2.1, HV.out.2.2] at KO
          go_wp2_with fail
          refine KO.out.mono ?_
          rintro e w5 ⟨rfl, H5⟩
          have HX5 := Lib.hid (Box.new w5 #[.int .i64 0, .int .i64 0] 24)
          obtain ⟨r0, r1, r2, r3⟩ := HX5.out.two
          have H6 := Lib.hid (H5.out.more #[.int .i64 sp, .int .i64 sq])
          obtain ⟨y0, y1⟩ := H6.out.cells
          obtain ⟨z0, z1, _, _⟩ := (H6.out.box (gh := w5.heap.size) (cs := #[.int .i64 sp, .int .i64 sq]) (by simp)).two
          go_wp2_with fail
          refine (lives19 _).mono ?_
          rintro e wl ⟨rfl, bl⟩
          have HBL := Lib.hid (H6.out.up.2.2.trans (bl.mono H6.out.up.2.2.size))
          clear bl
          go_wp2
          go_ret
          exact ⟨rfl, HBL.out⟩

set_option maxRecDepth 100000 in
theorem lifted (os : Os) (started : os.Started) (H : Type) (enc : TypeId × Value → H) :
    ReturnsInHanded {} Try.checked os 6 .any (Rows.quantLinesSpec.pre6 enc Try.prog Try.f6 Rows.quantLinesRow.domain false) (Rows.quantLinesSpec.post enc Try.prog Try.f6 false true false false) := by
  refine returnsInHanded_of_change (C := Try.checked) own started (by kernel_rfl) Try.func6
    (ChangeSpec.witness6 (enc := enc) (C := Try.checked) false ⟨#[], #[.slice none 0 0, .int .i64 0, .int .i64 0], []⟩ 8 (by kernel_rfl) (by kernel_rfl) (by kernel_rfl) (by kernel_rfl)) ?_
  intro W base args ds gs before hval0 hW hcnd _
  have hval : ∀ (j : Nat) t v, Try.f6.params[j]? = some t → args[j]? = some v → Value.okWide Try.prog W .any base t v := hval0
  have hW' := hW
  obtain ⟨p, q, hA0, hV, rfl, hfz, hnd⟩ := hW
  obtain ⟨rfl, rfl⟩ := trodVars_none hV
  have hA : DataW.TrodAll enc Try.prog W 0 (fun _ => true) true Try.f6.params.toList args.toList ds p := hA0
  rw [Try.params6] at hA hval
  obtain ⟨v0, vs0, d0, ds0, p0, q0, hargs, rfl, rfl, h0, r0⟩ := trodAll_cons hA
  obtain ⟨v1, vs1, d1, ds1, p1, q1, rfl, rfl, rfl, h1, r1⟩ := trodAll_cons r0
  obtain ⟨v2, vs2, d2, ds2, p2, q2, rfl, rfl, rfl, h2, r2⟩ := trodAll_cons r1
  obtain ⟨rfl, rfl, rfl⟩ := trodAll_nil r2
  obtain rfl : args = #[v0, v1, v2] := by cases args; simp_all
  obtain ⟨A0, l0, c0, rfl, L0, I0, M0, N0, Z0⟩ := open_scores Try.underlying28 Try.underlying24 (by kernel_rfl) rfl (by kernel_rfl) (Prod.ext Try.underlying3 Try.underlying3) (hval 0 28 v0 rfl rfl) h0
  obtain ⟨a1, rfl, _, _, w1⟩ := open_int Try.underlying3 (hval 1 3 v1 rfl rfl) h1
  obtain ⟨a2, rfl, _, _, w2⟩ := open_int Try.underlying3 (hval 2 3 v2 rfl rfl) h2
  refine (walk A0 l0 c0 L0 I0 M0 N0 Z0 a1 (i64_of_wf w1) a2 (i64_of_wf w2) W).mono fun e W' ⟨he, hg⟩ => ?_
  subst he
  exact ⟨_, rfl, law_post laid (by rw [Try.params6]; exact (by decide +kernel)) rfl (by kernel_rfl) Try.underlying4 rfl hW' hg⟩

theorem over : Rows.quantLinesRow.holds Try.pinned (OpenSpec.ofChange Rows.quantLinesSpec) :=
  OpenClaim.holds_of_wide 6 Try.f6 rfl rfl rfl rfl rfl rfl rfl ⟨rfl, rfl, rfl, rfl, rfl⟩ rfl rfl rfl rfl rfl (by kernel_rfl) Try.func6 (by kernel_rfl)
    (of_decide_eq_true (by kernel_rfl)) (by unfold Func.isWrapper; first | (rw [if_pos (by decide +kernel)]; kernel_rfl) | (rw [if_neg (by decide +kernel)]; exact ⟨rfl, rfl⟩))
    (fun os started H enc _ => lifted os started H enc)
theorem proved : Rows.QuantLinesSaid := over
end Go.Proofs.Ytaeodkpkgbjaeaa.quantLines
