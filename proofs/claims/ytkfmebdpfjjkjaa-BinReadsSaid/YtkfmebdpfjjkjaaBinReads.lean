/- Statement BinReads: whatever the input is, the Go function returns true and each argument reads as it did. No condition. -/
import Derived.Test.YtkfmebdpfjjkjaaRows
import Derived.Test.YtkfmebdpfjjkjaaBinQ
import Derived.Test.YtkfmebdpfjjkjaaVecT
import Derived.Test.YtkfmebdpfjjkjaaBase
import Derived.ProofKit
import Derived.OpenShut
import Derived.IntWalk
namespace Go.Proofs.Ytkfmebdpfjjkjaa.binReads
open Go.ChangeShapes Go.WideShapes Go.ChangeAt Go.RowKit
set_option linter.unusedVariables false

theorem own : ownKnob Try.prog.godebug = none := by kernel_rfl
theorem laid : laidOutB Try.prog = true := by kernel_rfl

set_option maxRecDepth 2000000 in
set_option maxHeartbeats 16000000 in
theorem walk (A : Option Addr) (b : List Int) (c : Nat) {w : World} (hA : LiesY w w.heap.size A b) (hb : byt b) (hbc : b.length ≤ c) (hc : c ≤ 9223372036854775807) (hAc : A = none → c = 0)
    (A2 : Option Addr) (l : List (Int × Int)) (c2 : Nat) (hL : LiesK w w.heap.size A2 l) (hI : ∀ x ∈ l, I64 x.1 ∧ I64 x.2) (hl2 : l.length ≤ 9223372036854775807) (hlc : l.length ≤ c2) (hA2 : A2 = none → c2 = 0) (_ : World) :
    Calls Try.prog 7 #[.slice A b.length c, .slice A2 l.length c2] w fun e w' => e = .returned (.bool true) ∧ Below w.heap.size w w' := by
  by_cases hl : 600 < b.length ∨ 60 < l.length
  · have hg : (600 : Int) < (b.length : Int) ∨ ¬ (600 : Int) < (b.length : Int) ∧ (60 : Int) < (l.length : Int) := by omega
    clear hA hb hAc hL hI hA2 hl
    generalize b.length = N at *
    generalize l.length = M at *
    rcases hg with hg | ⟨hg, hg2⟩
    · go_enter Try.func7, Try.ntmps7
      go_wp2_with fail
      refine (lives21 _).mono ?_
      rintro e wl ⟨rfl, bl⟩
      have HB := Lib.hid bl
      clear bl
      go_wp2
      go_ret
      exact ⟨rfl, HB.out⟩
    · go_enter Try.func7, Try.ntmps7
      go_wp2_with fail
      refine (lives21 _).mono ?_
      rintro e wl ⟨rfl, bl⟩
      have HB := Lib.hid bl
      clear bl
      go_wp2
      go_ret
      exact ⟨rfl, HB.out⟩
  have hlg : ¬ (600 : Int) < (b.length : Int) := by omega
  have hlg2 : ¬ (60 : Int) < (l.length : Int) := by omega
  have hl60 : l.length ≤ 60 := by omega
  have hb6 : b.length ≤ 600 := by omega
  have KF := Lib.hid (bin_From b A c w hA hAc (by omega) hb)
  have HA := Lib.hid hA
  have HL := Lib.hid hL
  have HK : Hid (∀ (B g G k i : Nat) (e : Int) (wx : World), RJ b l A A2 c B g G k e w wx → i < l.length →
      (∃ ad : Addr, A2 = some ad ∧ wx.cell? (ad.add (i * 2)) = some (.int .i64 (l.getD i ((0 : Int), (0 : Int))).1) ∧ wx.cell? ⟨(ad.add (i * 2)).block, (ad.add (i * 2)).off + 1, none⟩ = some (.int .i64 (l.getD i ((0 : Int), (0 : Int))).2)) ∧
      Calls Try.prog 30 #[.pointer (some ⟨g, 0, none⟩), .agg #[.slice A b.length c, .int .i64 (k : Nat), .int .i64 e], .agg #[.int .i64 (l.getD i ((0 : Int), (0 : Int))).1, .int .i64 (l.getD i ((0 : Int), (0 : Int))).2]] wx (AskR g B b A c wx)) := fun B g G k i e wx J hi => by
    obtain ⟨ad, e1, -, h2, h3⟩ := J.l.at hi
    have hm : l.getD i ((0 : Int), (0 : Int)) ∈ l := by
      rw [List.getD_eq_getElem?_getD, List.getElem?_eq_getElem hi]; exact List.getElem_mem hi
    exact ⟨⟨ad, e1, h2, h3⟩, ask21 b A c k B g e _ _ (hI _ hm).2 wx J.r J.y hbc hc⟩
  have HM2 := Lib.hid (fun (B g G k : Nat) (e : Int) (wx : World) (h : RJ b l A A2 c B g G k e w wx) (k' : Nat) (e' : Int) (wy : World) (hr : RdAt wy B g b k' e') (hw : Wr g wx wy) => h.mid2 hr hw)
  have HM1 := Lib.hid (fun (B g G k : Nat) (e : Int) (wx : World) (h : RJ b l A A2 c B g G k e w wx) (G8 : Nat) (h8 : Box wx G8 #[.slice none 0 0, .int .i64 0, .int .i64 0] 56) (hG8 : G < G8) (k' : Nat) (e' : Int) (wy : World) (hr : RdAt wy B g b k' e') (hw : Wr g wx wy) => (⟨hw.box h8 (by have := h.hg; omega), h.mid1 h8 rfl hG8 hr hw⟩ : Box wy G8 #[.slice none 0 0, .int .i64 0, .int .i64 0] 56 ∧ _))
  have KR1 := Lib.hid (fun (B g k : Nat) (e : Int) (wx : World) (h : RdAt wx B g b k e) (n : Nat) => (rd_At (h.drewN n)).mono fun e w' (q : e = _ ∧ wx.drewN n = w') => (⟨q.1, 0, q.2.symm⟩ : e = _ ∧ ∃ m, w' = (wx.drewN n).drewN m))
  have KR2 := Lib.hid (fun (B g k : Nat) (e : Int) (wx : World) (h : RdAt wx B g b k e) (n : Nat) => (rd_Left (h.drewN n)))
  have KR3 := Lib.hid (fun (B g k : Nat) (e : Int) (wx : World) (h : RdAt wx B g b k e) (n : Nat) => (rd_Err (h.drewN n)).mono fun e w' (q : e = _ ∧ wx.drewN n = w') => (⟨q.1, 0, q.2.symm⟩ : e = _ ∧ ∃ m, w' = (wx.drewN n).drewN m))
  have HRU := Lib.hid (fun (B g G k : Nat) (e : Int) (wx wy : World) (h : RJ b l A A2 c B g G k e w wx) (hb : Below wx.heap.size wx wy) => h.up hb)
  have HLT := Lib.hid (fun (B g G k : Nat) (e : Int) (wx : World) (h : RJ b l A A2 c B g G k e w wx) => (⟨h.r.lt.2.2.1, h.x.lt, h.hg, h.x.three⟩ : k ≤ b.length ∧ _ ∧ _ ∧ _))
  have HST : Hid (∀ (B g : Nat) (wx : World), RdAt wx B g b 0 0 → B = w.heap.size → Below w.heap.size w wx → RJ b l A A2 c B g wx.heap.size 0 0 w (wx.alloc (.cells #[.slice A b.length c, .int .i64 0, .int .i64 0] 56))) := fun B g wx h hB hbw => by
    have hg := h.lt
    have hal := (Below.refl wx.heap.size wx).alloc (Nat.le_refl _) (.cells #[.slice A b.length c, .int .i64 0, .int .i64 0] 56)
    have hb2 := hbw.alloc hbw.size (.cells #[.slice A b.length c, .int .i64 0, .int .i64 0] 56)
    exact ⟨h.below hal, Box.new wx _ _, (HA.out.below hb2).mono (by omega), (HL.out.below hb2).mono (by omega), hb2, hg.1, by omega⟩
  clear hA hL hI hb hAc hA2 hl
  unfold MidR at HM1 HM2
  generalize hNN : b.length = N at *
  generalize hMM : l.length = M at *
  have HNN := Lib.hid hNN
  have HMM := Lib.hid hMM
  clear hNN hMM
  go_enter Try.func7, Try.ntmps7
  go_wp2_with fail
  refine KF.out.mono ?_
  rintro e w1 ⟨⟨g, rfl, h1⟩, h2⟩
  have HJ0 := Lib.hid (HST.out _ _ _ h1 rfl h2)
  clear h1 h2 KF HST
  go_wp2
  generalize w1.heap.size = G at *
  generalize w1.alloc (.cells #[.slice A N c, .int .i64 0, .int .i64 0] 56) = w2 at *
  go_loopw [7, 8, 9] (fun iv _ _ wr => ∃ (i k : Nat) (e : Int), iv = .int .i64 (i : Nat) ∧ i ≤ M ∧ Hid (RJ b l A A2 c w.heap.size g G k e w wr)) (fun iv _ _ _ => M - (intOf iv).toNat)
  case atStart => exact ⟨0, 0, 0, rfl, Nat.zero_le _, HJ0⟩
  case round =>
    obtain ⟨i, k, e, rfl, hi, HJ⟩ := hrel
    by_cases hlt : i < M
    · have hig : (i : Int) < (M : Int) := by omega
      obtain ⟨⟨ad, eA, c0, c1⟩, -⟩ := HK.out _ _ _ _ i e wr HJ.out hlt
      have HJD := Lib.hid (HRU.out _ _ _ _ _ _ _ HJ.out (Below.refl wr.heap.size wr).drew)
      obtain ⟨⟨ad', eA', c0', c1'⟩, ka⟩ := HK.out _ _ _ _ i e _ HJD.out hlt
      subst eA
      cases eA'
      have KA := Lib.hid ka
      obtain ⟨hk, hGx, hgG, v0, v1, v2, f0, f1, f2⟩ := HLT.out _ _ _ _ _ _ HJ.out
      obtain ⟨-, hGxd, -, v0', v1', v2', -, -, -⟩ := HLT.out _ _ _ _ _ _ HJD.out
      have HJE := Lib.hid (HRU.out _ _ _ _ _ _ _ HJ.out ((Below.refl wr.heap.size wr).alloc (Nat.le_refl _) (.cells #[.slice none 0 0, .int .i64 0, .int .i64 0] 56)).drew)
      obtain ⟨⟨ad', eA', d0', d1'⟩, kb⟩ := HK.out _ _ _ _ i e _ HJE.out hlt
      cases eA'
      obtain ⟨-, hGxe, -, x0', x1', x2', -, -, -⟩ := HLT.out _ _ _ _ _ _ HJE.out
      have KB := Lib.hid kb
      have H8 : Hid (Box (wr.alloc (.cells #[.slice none 0 0, .int .i64 0, .int .i64 0] 56)).drew wr.heap.size #[.slice none 0 0, .int .i64 0, .int .i64 0] 56) := Box.new wr _ _
      have HMA := Lib.hid (HM1.out _ _ _ _ _ _ HJE.out _ H8.out hGx)
      have HMB := Lib.hid (HM2.out _ _ _ _ _ _ HJD.out)
      clear ka kb HK HM1 HM2 H8
      generalize (l.getD i ((0 : Int), (0 : Int))).1 = K at *
      generalize (l.getD i ((0 : Int), (0 : Int))).2 = m at *
      unfold AskR at KA KB
      rw [HNN.out] at KA KB
      go_wp2
      go_cut [8, 9] from 31 to 40 (fun p okv wc => ∃ (k' : Nat) (e' : Int) (G8 : Nat), p = .pointer (some ⟨G8, 0, none⟩) ∧ okv = .bool true ∧ Hid (k' ≤ N ∧ Box wc G8 #[.slice A N c, .int .i64 (k' : Nat), .int .i64 e'] 56 ∧ Box wc G #[.slice A N c, .int .i64 (k : Nat), .int .i64 e] 56 ∧ ¬ G8 = G ∧ RJ b l A (some ad) c w.heap.size g G k' e' w (((wc.setCell ⟨G, 0, none⟩ (.slice A N c)).setCell ⟨G, 1, none⟩ (.int .i64 (k' : Nat))).setCell ⟨G, 2, none⟩ (.int .i64 e'))))
      case first =>
        go_region_with (first | (go_at_call 30; with_reducible refine Calls.mono KB.out ?_; rintro r w3 ⟨k', e', rfl, g1, g2⟩; obtain ⟨q1, q2⟩ := HMA.out k' e' w3 g1 g2; have HQ := Lib.hid q2; obtain ⟨p0, p1, p2, r0, r1, r2⟩ := q1.three; clear q1 q2 g1 g2) | (go_at_call 30; with_reducible refine Calls.mono KA.out ?_; rintro r w3 ⟨k', e', rfl, g1, g2⟩; have HQ := Lib.hid (HMB.out k' e' w3 g1 g2); clear g1 g2))
        all_goals (go_wp2; go_meet; exact ⟨k', e', _, rfl, rfl, HQ.out⟩)
      case rest =>
      obtain ⟨k', e', G8, rfl, rfl, HQ⟩ := hcut
      clear KA KB HMA HMB HJD HJE c0 c1 c0' c1' d0' d1' v0 v1 v2 f0 f1 f2 v0' v1' v2' x0' x1' x2' hGx hGxd hGxe
      obtain ⟨hk', q8, qG, hne, hq⟩ := HQ.out
      obtain ⟨p0, p1, p2, r0, r1, r2⟩ := q8.three
      obtain ⟨v0, v1, v2, f0, f1, f2⟩ := qG.three
      have HJ2 := Lib.hid hq
      have hne' : ¬ G = G8 := fun h => hne h.symm
      clear hq q8 qG HQ
      go_upto_region 12 with fail
      generalize (((wc.setCell ⟨G, 0, none⟩ (.slice A N c)).setCell ⟨G, 1, none⟩ (.int .i64 (k' : Nat))).setCell ⟨G, 2, none⟩ (.int .i64 e')) = wz at *
      clear p0 p1 p2 r0 r1 r2 v0 v1 v2 f0 f1 f2
      obtain ⟨-, -, -, v0, v1, v2, -, -, -⟩ := HLT.out _ _ _ _ _ _ HJ2.out
      have K1 := Lib.hid (KR1.out _ _ _ _ _ HJ2.out.r)
      have K2 := Lib.hid (KR2.out _ _ _ _ _ HJ2.out.r)
      have K3 := Lib.hid (KR3.out _ _ _ _ _ HJ2.out.r)
      have eN : ((N - k' : Nat) : Int) = (N : Int) - (k' : Int) := by omega
      rw [eN] at K2
      clear KR1 KR2 KR3 HLT eN
      go_quiet (first | (go_at_call 31; exact Calls.quiet_of (K1.out _)) | (go_at_call 32; exact Calls.quiet_of (K2.out _)) | (go_at_call 33; exact Calls.quiet_of (K3.out _)))
      go_wp2
      exact ⟨⟨i + 1, k', e', by go_num, by omega, HRU.out _ _ _ _ _ _ _ HJ2.out (below_drewN2 (Below.refl _ _) nq)⟩, by simp [intOf]; omega⟩
    · have hig : ¬ (i : Int) < (M : Int) := by omega
      go_wp2_with fail
      refine (lives21 _).mono ?_
      rintro e2 wl ⟨rfl, bl⟩
      have HB := Lib.hid (HJ.out.b.trans (bl.mono HJ.out.b.size))
      clear bl
      go_wp2
      go_ret
      exact ⟨rfl, HB.out⟩

set_option maxRecDepth 100000 in
theorem lifted (os : Os) (started : os.Started) (H : Type) (enc : TypeId × Value → H) :
    ReturnsInHanded {} Try.checked os 7 .any (Rows.binReadsSpec.pre6 enc Try.prog Try.f7 Rows.binReadsRow.domain false) (Rows.binReadsSpec.post enc Try.prog Try.f7 false true false false) := by
  refine returnsInHanded_of_change (C := Try.checked) own started (by kernel_rfl) Try.func7
    (ChangeSpec.witness6 (enc := enc) (C := Try.checked) false ⟨#[], #[.slice none 0 0, .slice none 0 0], []⟩ 8 (by kernel_rfl) (by kernel_rfl) (by kernel_rfl) (by kernel_rfl)) ?_
  intro W base args ds gs before hval0 hW hcnd _
  have hval : ∀ (j : Nat) t v, Try.f7.params[j]? = some t → args[j]? = some v → Value.okWide Try.prog W .any base t v := hval0
  have hW' := hW
  obtain ⟨p, q, hA0, hV, rfl, hfz, hnd⟩ := hW
  obtain ⟨rfl, rfl⟩ := trodVars_none hV
  have hA : DataW.TrodAll enc Try.prog W 0 (fun _ => true) true Try.f7.params.toList args.toList ds p := hA0
  rw [Try.params7] at hA hval
  obtain ⟨v0, vs0, d0, ds0, p0, q0, hargs, rfl, rfl, h0, r0⟩ := trodAll_cons hA
  obtain ⟨v1, vs1, d1, ds1, p1, q1, rfl, rfl, rfl, h1, r1⟩ := trodAll_cons r0
  obtain ⟨rfl, rfl, rfl⟩ := trodAll_nil r1
  obtain rfl : args = #[v0, v1] := by cases args; simp_all
  obtain ⟨A0, l0, c0, rfl, L0, I0, C0, M0, N0⟩ := open_bytes Try.underlying51 Try.underlying5 cells_u8 (hval 0 51 v0 rfl rfl) h0
  obtain ⟨A1, l1, c1, rfl, L1, I1, M1, N1, Z1⟩ := open_asks Try.underlying52 Try.underlying60 (by kernel_rfl) rfl (by kernel_rfl) (Prod.ext Try.underlying3 Try.underlying3) (hval 1 52 v1 rfl rfl) h1
  refine (walk A0 l0 c0 L0 I0 C0 M0 N0 A1 l1 c1 L1 I1 M1 N1 Z1 W).mono fun e W' ⟨he, hg⟩ => ?_
  subst he
  exact ⟨_, rfl, law_post laid (by rw [Try.params7]; exact (by decide +kernel)) rfl (by kernel_rfl) Try.underlying4 rfl hW' hg⟩

theorem over : Rows.binReadsRow.holds Try.pinned (OpenSpec.ofChange Rows.binReadsSpec) :=
  OpenClaim.holds_of_wide 7 Try.f7 rfl rfl rfl rfl rfl rfl rfl ⟨rfl, rfl, rfl, rfl, rfl⟩ rfl rfl rfl rfl rfl (by kernel_rfl) Try.func7 (by kernel_rfl)
    (of_decide_eq_true (by kernel_rfl)) (by unfold Func.isWrapper; first | (rw [if_pos (by decide +kernel)]; kernel_rfl) | (rw [if_neg (by decide +kernel)]; exact ⟨rfl, rfl⟩))
    (fun os started H enc _ => lifted os started H enc)
theorem proved : Rows.BinReadsSaid := over
end Go.Proofs.Ytkfmebdpfjjkjaa.binReads
