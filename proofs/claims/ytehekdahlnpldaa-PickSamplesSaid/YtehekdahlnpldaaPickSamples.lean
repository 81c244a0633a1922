/- Statement PickSamples: whatever the input is, the Go function returns true and each argument reads as it did. No condition. -/
import Derived.Test.YtehekdahlnpldaaRows
import Derived.Test.YtehekdahlnpldaaPickR
import Derived.Test.YtehekdahlnpldaaVecQ
import Derived.Test.YtehekdahlnpldaaBase
import Derived.ProofKit
import Derived.OpenShut
namespace Go.Proofs.Ytehekdahlnpldaa.pickSamples
open Go.ChangeShapes Go.WideShapes Go.ChangeAt Go.RowKit
set_option linter.unusedVariables false

theorem own : ownKnob Try.prog.godebug = none := by kernel_rfl
theorem laid : laidOutB Try.prog = true := by kernel_rfl

theorem samp_facts {l : List Int} {a n k t : Int} (h : (sampV l a n k t).2.2 = 0) : (0 ≤ n ∧ n ≤ 256 ∧ 0 ≤ k ∧ k ≤ n ∧ 0 ≤ a ∧ 1 ≤ t ∧ t ≤ 64) ∧ diffV (sampV l a n k t).1 n ∧ ((sampV l a n k t).1.length : Int) = k ∧ a + k ≤ (sampV l a n k t).2.1 ∧ (sampV l a n k t).2.1 ≤ a + k * t ∧ (0 < k → (sampV l a n k t).2.1 ≤ l.length) := by
  by_cases g : 0 ≤ n ∧ n ≤ 256 ∧ 0 ≤ k ∧ k ≤ n ∧ 0 ≤ a ∧ 1 ≤ t ∧ t ≤ 64
  · have hV : sampV l a n k t = (if (smp l t n k.toNat 0 a []).2.2 = 0 then (plyV (smp l t n k.toNat 0 a []).1, (smp l t n k.toNat 0 a []).2.1, 0) else ([], 0, (smp l t n k.toNat 0 a []).2.2)) := by unfold sampV; rw [if_pos g]
    rw [hV] at h ⊢
    have hp := smp_pos l t n k.toNat 0 a []
    generalize smp l t n k.toNat 0 a [] = F at *
    obtain ⟨x, p, e⟩ := F
    simp only at h hp ⊢
    by_cases he : e = 0
    · rw [if_pos he]
      obtain ⟨p1, p2, p3, p4, p5⟩ := hp he rfl (by omega) (fun j hj => absurd hj (by simp))
      rw [show ((k.toNat : Nat) : Int) = k from by omega] at p1 p2
      refine ⟨g, bckOk_iff.1 (bck_of_ply p5).2, ?_, p1, p2, fun h0 => p3 (by omega)⟩
      simp only [plyV_len]
      omega
    · rw [if_neg he] at h; exact absurd h he
  · rw [samp_no g] at h; simp at h
theorem samp_le {l : List Int} {a n k t : Int} : (sampV l a n k t).1.length ≤ 256 := by
  by_cases h : (sampV l a n k t).2.2 = 0
  · have := samp_facts h; omega
  · have hx : (sampV l a n k t).1 = [] := by
      unfold sampV at h ⊢
      split
      · rename_i g
        rw [if_pos g] at h
        split
        · rename_i g2; rw [if_pos g2] at h; exact absurd rfl h
        · rfl
      · rfl
    rw [hx]; simp
/-- block g holds these truths at its head -/
def OwnB (w : World) (g : Nat) (l : List Bool) : Prop := w.heap[g]? = some (.cells (l.map Value.bool).toArray 4 (0, 0))
theorem OwnB.lt {w : World} {g : Nat} {l : List Bool} (h : OwnB w g l) : g < w.heap.size := Box.lt (cs := (l.map Value.bool).toArray) (t := 4) h
theorem OwnB.cell {w : World} {g : Nat} {l : List Bool} (h : OwnB w g l) {k : Nat} (hk : k < l.length) : w.cell? ⟨g, k, none⟩ = some (.bool (l.getD k false)) := by
  refine (cell_of_row w g k _ _ (0, 0) h).trans ?_
  simp [List.getD, hk]
theorem OwnB.free {w : World} {g : Nat} {l : List Bool} (h : OwnB w g l) (k : Nat) : w.frozen? ⟨g, k, none⟩ = false := Box.free (cs := (l.map Value.bool).toArray) (t := 4) h k
theorem OwnB.set {w : World} {g : Nat} {l : List Bool} (h : OwnB w g l) (k : Nat) (x : Bool) : OwnB (w.setCell ⟨g, k, none⟩ (.bool x)) g (l.set k x) := by
  have := Box.set (cs := (l.map Value.bool).toArray) (t := 4) h k (.bool x)
  unfold OwnB
  rw [List.map_set]
  simpa [Box] using this
theorem infoB7 : (Try.prog.info? 4).map (fun i => (i.zero, i.size, i.bytes)) = some (some (.bool false), 1, 1) := by kernel_rfl
theorem make_bools {wr : World} {ops : Array Oper} {rest : List Oper} {o : Oper} {a : Act} {Q : Exit → Act → World → Prop} (hgd : o.guard = none) (l c : Operand)
    (ho : o.op = Op.makeSlice 30 l c) (n : Nat) (hl : a.eval l = .int .i64 n) (hc : a.eval c = .int .i64 n) (hn : n ≤ 100000000)
    (h : ∀ w', OwnB w' wr.heap.size (List.replicate n false) → Below wr.heap.size wr w' → wpList Try.prog ops Q rest (a.put o.dst (.slice (some ⟨wr.heap.size, 0, none⟩) n n)) w') :
    wpList Try.prog ops Q (o :: rest) a wr := by
  obtain ⟨i0, hi, hz0, hz1, hz2⟩ := info_parts infoB7
  refine wpList_make_full wr hgd l c 30 ho wr.heap.size 4 i0 (.bool false) 1 Try.underlying30 hi hz0 hz1 .i64 .i64 n n n hl hc rfl rfl (by rw [hz2]; omega) (by unfold maxLen; omega) (Nat.le_refl _) ?_
  intro w' h1 h2
  refine h w' ?_ ((Below.refl _ _).grown h2 (Nat.le_refl _) (fun k hk => by cases hk))
  have he : (madeCells (Value.bool false).cells (n * 1)).toList = (List.replicate n false).map Value.bool := by
    rw [Nat.mul_one]
    refine (toList_madeCells_one _ n).trans ?_
    simp
  rcases h1.2 with ⟨e, _⟩ | ⟨g, cap, cur, e, hb, hh, hnc, hm, hsz, hx⟩
  · cases e
  · cases e
    rw [he] at hx
    have hcur : cur = ((List.replicate n false).map Value.bool).toArray := by
      apply Array.toList_inj.1
      rw [← hx]
      simp at hsz ⊢
      rw [List.take_of_length_le]
      simp
      omega
    unfold OwnB
    rw [← hcur]
    exact hh
/-- which numbers below n are in a list -/
def inB (z : List Int) (n : Nat) : List Bool := (List.range n).map (fun (j : Nat) => decide ((j : Int) ∈ z))
theorem inB_len (z : List Int) (n : Nat) : (inB z n).length = n := by simp [inB]
theorem inB_nil (n : Nat) : inB [] n = List.replicate n false := by
  unfold inB
  apply List.ext_getElem (by simp)
  intro j h1 h2; simp
theorem inB_get (z : List Int) {n j : Nat} (h : j < n) : (inB z n).getD j false = decide ((j : Int) ∈ z) := by simp [inB, List.getD, h]
theorem inB_snoc (z : List Int) (n q : Nat) : (inB z n).set q true = inB (z ++ [(q : Int)]) n := by
  unfold inB
  apply List.ext_getElem (by simp)
  intro j h1 h2
  simp only [List.getElem_set, List.getElem_map, List.getElem_range]
  by_cases e : q = j
  · subst e; simp
  · rw [if_neg e]
    have : ¬ (j : Int) = (q : Int) := by omega
    simp [this]
set_option maxRecDepth 100000 in
set_option maxHeartbeats 16000000 in
theorem walk {w : World} (A : Option Addr) (l : List Int) (c : Nat) (hA : LiesU w w.heap.size A l) (hu : ∀ x ∈ l, U64 x) (hc : l.length ≤ c) (hcm : c ≤ 9223372036854775807) (a : Int) (ha : I64 a) (n : Int) (hn : I64 n) (k : Int) (hk : I64 k) (t : Int) (ht : I64 t) (_ : World) :
    Calls Try.prog 3 #[.slice A l.length c, .int .i64 a, .int .i64 n, .int .i64 k, .int .i64 t] w fun e w' => e = .returned (.bool true) ∧ Below w.heap.size w w' := by
  by_cases g1 : 300 < l.length
  · clear hA hu
    generalize l.length = N at *
    have g1' : (300 : Int) < (N : Int) := by omega
    go_enter Try.func3, Try.ntmps3
    go_wp2_with fail
    refine (lives7 _).mono ?_
    rintro e w1 ⟨rfl, b⟩
    have HB1 := Lib.hid b
    clear b
    go_wp2
    go_ret
    exact ⟨rfl, HB1.out⟩
  · have g1' : ¬ (300 : Int) < (l.length : Int) := by omega
    have K1 := Lib.hid (pick_Sample A l c a n k t w hA hu (by omega) ha)
    have K2 := Lib.hid (fun W (h : Below w.heap.size w W) => ref_Sample A l c a n k t W ((hA.below h).mono h.size) hu (by omega) ha)
    have K3 := Lib.hid (fun W (h : Below w.heap.size w W) => pick_Perm A l c a n t W ((hA.below h).mono h.size) hu (by omega) ha)
    have K4 := Lib.hid (fun W (h : Below w.heap.size w W) => ref_Sample A l c a n n t W ((hA.below h).mono h.size) hu (by omega) ha)
    have HF := Lib.hid (@samp_facts l a n k t)
    have HZL := @samp_le l a n k t
    have HYL := @samp_le l a n n t
    unfold GivesC at K1 K2 K3 K4
    generalize sampV l a n k t = Z at *
    generalize sampV l a n n t = Y at *
    obtain ⟨zs, zp, ze⟩ := Z
    obtain ⟨ys, yp, ye⟩ := Y
    simp only at K1 K2 K3 K4 HF HZL HYL
    have KSz := Lib.hid (fun W A A2 c c2 (h : Lies W W.heap.size A zs) (h2 : Lies W W.heap.size A2 zs) => ref_same1 A A2 zs zs c c2 W.heap.size W h h2 (by omega) (by omega))
    have KSy := Lib.hid (fun W A A2 c c2 (h : Lies W W.heap.size A ys) (h2 : Lies W W.heap.size A2 ys) => ref_same1 A A2 ys ys c c2 W.heap.size W h h2 (by omega) (by omega))
    simp only [decide_true] at KSz KSy
    have e1 : (zp == zp) = true := by simp
    have e2 : (ze == ze) = true := by simp
    have e3 : (yp == yp) = true := by simp
    have e4 : (ye == ye) = true := by simp
    have hl9 : l.length ≤ 300 := by omega
    clear hA hu g1
    generalize l.length = M at *
    generalize hN : zs.length = N at *
    have HN := Lib.hid hN
    clear hN
    generalize ys.length = NY at *
    go_enter Try.func3, Try.ntmps3
    go_wp2_with fail
    refine (K1.out).mono ?_
    rintro e w1 ⟨A1, c1, rfl, _, _, l1, _, b⟩
    have HB1 := Lib.hid b
    have L1 := Lib.hid l1
    clear l1
    clear b
    go_wp2_with fail
    refine (K2.out _ HB1.out).mono ?_
    rintro e w2 ⟨A2, c2, rfl, _, _, l2, _, b⟩
    have HB2 := Lib.hid (HB1.out.trans (b.mono HB1.out.size))
    have L1 := Lib.hid (lies_u7 L1.out b)
    have L2 := Lib.hid l2
    clear l2
    clear b
    go_wp2_with fail
    refine (KSz.out _ _ _ _ _ L1.out L2.out).mono ?_
    rintro e w3 ⟨rfl, hw⟩
    have b := bel_q hw
    clear hw
    have HB3 := Lib.hid (HB2.out.trans (b.mono HB2.out.size))
    have L1 := Lib.hid (lies_u7 L1.out b)
    have L2 := Lib.hid (lies_u7 L2.out b)
    clear b
    go_wp2_with fail
    refine (K3.out _ HB3.out).mono ?_
    rintro e w4 ⟨A3, c3, rfl, _, _, l3, _, b⟩
    have HB4 := Lib.hid (HB3.out.trans (b.mono HB3.out.size))
    have L1 := Lib.hid (lies_u7 L1.out b)
    have L3 := Lib.hid l3
    clear l3
    clear b
    go_wp2_with fail
    refine (K4.out _ HB4.out).mono ?_
    rintro e w5 ⟨A4, c4, rfl, _, _, l4, _, b⟩
    have HB5 := Lib.hid (HB4.out.trans (b.mono HB4.out.size))
    have L1 := Lib.hid (lies_u7 L1.out b)
    have L3 := Lib.hid (lies_u7 L3.out b)
    have L4 := Lib.hid l4
    clear l4
    clear b
    go_wp2_with fail
    refine (KSy.out _ _ _ _ _ L3.out L4.out).mono ?_
    rintro e w6 ⟨rfl, hw⟩
    have b := bel_q hw
    clear hw
    have HB6 := Lib.hid (HB5.out.trans (b.mono HB5.out.size))
    have L1 := Lib.hid (lies_u7 L1.out b)
    have L3 := Lib.hid (lies_u7 L3.out b)
    have L4 := Lib.hid (lies_u7 L4.out b)
    clear b
    by_cases he : ze = 0
    · subst he
      obtain ⟨⟨f1, f2, f3, f4, f5, f6, f7⟩, fd, fl, fa, fb, fc⟩ := HF.out rfl
      obtain ⟨n0, rfl⟩ : ∃ n0 : Nat, n = n0 := ⟨n.toNat, by omega⟩
      obtain ⟨k0, rfl⟩ : ∃ k0 : Nat, k = k0 := ⟨k.toNat, by omega⟩
      obtain rfl : N = k0 := by omega
      have HD := Lib.hid fd
      have hzI : I64 zp := by
        unfold I64 at ha ⊢
        rcases Nat.eq_zero_or_pos N with g | g
        · subst g
          simp at fb
          omega
        · have := fc (by omega)
          omega
      have hpm : 0 ≤ (N : Int) * t ∧ (N : Int) * t ≤ 16384 := by
        refine ⟨Int.mul_nonneg (by omega) (by omega), ?_⟩
        have h1 : (N : Int) * t ≤ 256 * t := Int.mul_le_mul_of_nonneg_right (by omega) (by omega)
        omega
      clear fd fc HF K1 K2 K3 K4 KSz KSy HYL
      go_wp2_with (at_make; refine make_bools rfl (.tmp 99) (.tmp 99) rfl n0 rfl rfl (by omega) ?_; intro w7 ho7 hb7)
      have HB7 := Lib.hid (HB6.out.trans (hb7.mono HB6.out.size))
      have L1 := Lib.hid (L1.out.below hb7)
      have HG := Lib.hid HB6.out.size
      have HO7 : Hid (OwnB w7 w6.heap.size (inB (zs.take 0) n0)) := by show OwnB _ _ _; rw [List.take_zero, inB_nil]; exact ho7
      clear ho7 hb7
      go_wp2
      go_loopw [24] (fun i wr => ∃ k : Nat, k ≤ N ∧ i = .int .i64 k ∧ Hid (OwnB wr w6.heap.size (inB (zs.take k) n0)) ∧ Hid (Lies wr w6.heap.size A1 zs) ∧ Hid (Below w.heap.size w wr)) (fun i _ => N - (intOf i).toNat)
      case atStart => exact ⟨0, by omega, rfl, HO7.out, L1.out, HB7.out⟩
      case round =>
        obtain ⟨k, hk2, rfl, HO, HL, HB⟩ := hrel
        by_cases hlt : k < N
        · have hlg : (k : Int) < (N : Int) := by omega
          obtain ⟨ad, rfl, hab, hcell⟩ := HL.out.at (k := k) (by have := HN.out; omega)
          have hx := HD.out.2 _ (mem_getD (l := zs) (k := k) (by have := HN.out; omega))
          have HNX : Hid (¬ zs.getD k 0 ∈ zs.take k) := fun hm => by
            have h2 := nodup_take (k := k + 1) HD.out.1
            rw [take_get zs (by have := HN.out; omega), nodup_snoc] at h2
            exact h2.2 hm
          have HTK := Lib.hid (take_get zs (k := k) (by have := HN.out; omega))
          generalize zs.getD k 0 = x at *
          obtain ⟨q, rfl⟩ : ∃ q : Nat, x = q := ⟨x.toNat, by omega⟩
          have hqn : (q : Int) < (n0 : Int) := hx.2
          have hc2 := HO.out.cell (k := q) (by rw [inB_len]; omega)
          rw [inB_get _ (by omega), decide_eq_false HNX.out] at hc2
          have hf2 := HO.out.free q
          have HS := Lib.hid (HO.out.set q true)
          have HL2 := Lib.hid (HL.out.below (((Below.refl w6.heap.size wr).setCell (p := ⟨w6.heap.size, q, none⟩) (Nat.le_refl _) (.bool true))))
          have HB8 := Lib.hid (HB.out.setCell (p := ⟨w6.heap.size, q, none⟩) HG.out (.bool true))
          rw [inB_snoc, ← HTK.out] at HS
          clear hx
          go_wp2
          refine ⟨⟨k + 1, by omega, by go_num, HS.out, HL2.out, HB8.out⟩, by first | (simp [intOf]; done) | (simp [intOf]; omega)⟩
        · obtain rfl : k = N := by omega
          unfold I64 at ha hzI
          obtain ⟨m, hm⟩ : ∃ m : Int, m = (k : Int) * t := ⟨_, rfl⟩
          rw [← hm] at fb hpm
          have hmw : wrap64 ((k : Int) * t) = m := by rw [← hm]; unfold wrap64; omega
          clear hm
          have g1 : (k : Int) ≤ zp - a := by omega
          have g2 : zp - a ≤ m := by omega
          go_wp2_with fail
          refine (lives7 _).mono ?_
          rintro e wl ⟨rfl, hl⟩
          have HBE := Lib.hid (HB.out.trans (hl.mono HB.out.size))
          clear hl
          go_wp2
          go_ret
          exact ⟨rfl, HBE.out⟩
    · have hne : (ze != 0) = true := by simpa using he
      go_wp2_with fail
      refine (lives7 _).mono ?_
      rintro e w7 ⟨rfl, b⟩
      have HB7 := Lib.hid (HB6.out.trans (b.mono HB6.out.size))
      clear b
      go_wp2
      go_ret
      exact ⟨rfl, HB7.out⟩

set_option maxRecDepth 100000 in
theorem lifted (os : Os) (started : os.Started) (H : Type) (enc : TypeId × Value → H) :
    ReturnsInHanded {} Try.checked os 3 .any (Rows.pickSamplesSpec.pre6 enc Try.prog Try.f3 Rows.pickSamplesRow.domain false) (Rows.pickSamplesSpec.post enc Try.prog Try.f3 false true false false) := by
  refine returnsInHanded_of_change (C := Try.checked) own started (by kernel_rfl) Try.func3
    (ChangeSpec.witness6 (enc := enc) (C := Try.checked) false ⟨#[], #[.slice none 0 0, .int .i64 0, .int .i64 0, .int .i64 0, .int .i64 0], []⟩ 8 (by kernel_rfl) (by kernel_rfl) (by kernel_rfl) (by kernel_rfl)) ?_
  intro W base args ds gs before hval0 hW hcnd _
  have hval : ∀ (j : Nat) t v, Try.f3.params[j]? = some t → args[j]? = some v → Value.okWide Try.prog W .any base t v := hval0
  have hW' := hW
  obtain ⟨p, q, hA0, hV, rfl, hfz, hnd⟩ := hW
  obtain ⟨rfl, rfl⟩ := trodVars_none hV
  have hA : DataW.TrodAll enc Try.prog W 0 (fun _ => true) true Try.f3.params.toList args.toList ds p := hA0
  rw [Try.params3] at hA hval
  obtain ⟨v0, vs0, d0, ds0, p0, q0, hargs, rfl, rfl, h0, r0⟩ := trodAll_cons hA
  obtain ⟨v1, vs1, d1, ds1, p1, q1, rfl, rfl, rfl, h1, r1⟩ := trodAll_cons r0
  obtain ⟨v2, vs2, d2, ds2, p2, q2, rfl, rfl, rfl, h2, r2⟩ := trodAll_cons r1
  obtain ⟨v3, vs3, d3, ds3, p3, q3, rfl, rfl, rfl, h3, r3⟩ := trodAll_cons r2
  obtain ⟨v4, vs4, d4, ds4, p4, q4, rfl, rfl, rfl, h4, r4⟩ := trodAll_cons r3
  obtain ⟨rfl, rfl, rfl⟩ := trodAll_nil r4
  obtain rfl : args = #[v0, v1, v2, v3, v4] := by cases args; simp_all
  obtain ⟨A0, l0, c0, rfl, L0, I0, C0, M0⟩ := open_words Try.underlying22 Try.underlying68 cells_u64 (hval 0 22 v0 rfl rfl) h0
  obtain ⟨a1, rfl, _, _, w1⟩ := open_int Try.underlying3 (hval 1 3 v1 rfl rfl) h1
  obtain ⟨a2, rfl, _, _, w2⟩ := open_int Try.underlying3 (hval 2 3 v2 rfl rfl) h2
  obtain ⟨a3, rfl, _, _, w3⟩ := open_int Try.underlying3 (hval 3 3 v3 rfl rfl) h3
  obtain ⟨a4, rfl, _, _, w4⟩ := open_int Try.underlying3 (hval 4 3 v4 rfl rfl) h4
  refine (walk A0 l0 c0 L0 I0 C0 M0 a1 (i64_of_wf w1) a2 (i64_of_wf w2) a3 (i64_of_wf w3) a4 (i64_of_wf w4) W).mono fun e W' ⟨he, hg⟩ => ?_
  subst he
  exact ⟨_, rfl, law_post laid (by rw [Try.params3]; exact (by decide +kernel)) rfl (by kernel_rfl) Try.underlying4 rfl hW' hg⟩

theorem over : Rows.pickSamplesRow.holds Try.pinned (OpenSpec.ofChange Rows.pickSamplesSpec) :=
  OpenClaim.holds_of_wide 3 Try.f3 rfl rfl rfl rfl rfl rfl rfl ⟨rfl, rfl, rfl, rfl, rfl⟩ rfl rfl rfl rfl rfl (by kernel_rfl) Try.func3 (by kernel_rfl)
    (of_decide_eq_true (by kernel_rfl)) (by unfold Func.isWrapper; first | (rw [if_pos (by decide +kernel)]; kernel_rfl) | (rw [if_neg (by decide +kernel)]; exact ⟨rfl, rfl⟩))
    (fun os started H enc _ => lifted os started H enc)
theorem proved : Rows.PickSamplesSaid := over
end Go.Proofs.Ytehekdahlnpldaa.pickSamples
