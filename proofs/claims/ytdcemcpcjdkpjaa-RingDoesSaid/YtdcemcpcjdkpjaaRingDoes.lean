/- Statement RingDoes: whatever the input is, the Go function returns true and each argument reads as it did. No condition. -/
import Derived.Test.YtdcemcpcjdkpjaaRows
import Derived.Test.YtdcemcpcjdkpjaaRngY
import Derived.Test.YtdcemcpcjdkpjaaRngT
import Derived.Test.YtdcemcpcjdkpjaaVecT
import Derived.Test.YtdcemcpcjdkpjaaBase
import Derived.ProofKit
import Derived.OpenShut
import Derived.IntWalk
namespace Go.Proofs.Ytdcemcpcjdkpjaa.ringDoes
open Go.ChangeShapes Go.WideShapes Go.ChangeAt Go.RowKit
set_option linter.unusedVariables false

theorem own : ownKnob Try.prog.godebug = none := by kernel_rfl
theorem laid : laidOutB Try.prog = true := by kernel_rfl

theorem ringAt_low {w : World} {B B' g G n k : Nat} {S : Nat → Int × List Int × Int × Int × Bool} (h : RingAt w B g G n S k) (hB : B' ≤ B) : RingAt w B' g G n S k := by
  obtain ⟨P, h1, h2, h3, h4, h5⟩ := h
  exact ⟨P, h1, h2, h3, Nat.le_trans hB h4, h5⟩
theorem ringAt_G {w : World} {B g G n k : Nat} {S : Nat → Int × List Int × Int × Int × Bool} (h : RingAt w B g G n S k) : G < w.heap.size ∧ g < w.heap.size := by
  obtain ⟨P, -, hb, hG, -⟩ := h
  exact ⟨hG.lt, hb.lt⟩
theorem lies_nowB {W W' : World} {A : Option Addr} {M : List SN} (h : LiesSs W W.heap.size A M) (hb : Below W.heap.size W W') : LiesSs W' W'.heap.size A M := (h.below hb).mono hb.size
set_option maxRecDepth 2000000 in
set_option maxHeartbeats 16000000 in
theorem walk (r : Int) (hr : I64 r) (A : Option Addr) (L : List SN) (c : Nat) {w : World} (hA : LiesSs w w.heap.size A L) (hLc : L.length ≤ c) (hc : c ≤ 9223372036854775807) (at_ : Int) (hat : I64 at_) (id : Int) (hid : I64 id) (_ : World) :
    Calls Try.prog 3 #[.int .i64 r, .slice A L.length c, .int .i64 at_, .int .i64 id] w fun e w' => e = .returned (.bool true) ∧ Below w.heap.size w w' := by
  have K0 := Lib.hid (ref_Much17 L A c w.heap.size 100 w (by omega) hA (Nat.le_refl _))
  by_cases h1 : muchS L 100 = true
  · rw [h1] at K0
    clear hA h1
    generalize L.length = N at *
    go_enter Try.func3, Try.ntmps3
    go_wp2_with fail
    refine (K0.out).mono ?_
    rintro e w1 ⟨rfl, b⟩
    have HB := Lib.hid b
    clear b
    go_wp2_with fail
    refine (lives17 _).mono ?_
    rintro e wl ⟨rfl, bl⟩
    have HBL := Lib.hid (HB.out.trans (bl.mono HB.out.size))
    clear bl
    go_wp2
    go_ret
    exact ⟨rfl, HBL.out⟩
  have h1' := Bool.eq_false_iff.2 h1
  rw [h1'] at K0
  obtain ⟨hl, hx⟩ : L.length ≤ 100 ∧ ∀ m ∈ L, m.x.length ≤ 20 := by
    unfold muchS at h1'
    have h2 := of_decide_eq_false h1'
    exact ⟨by have := fun h => h2 (.inl h); omega, fun m hm => Nat.le_of_not_lt fun h => h2 (.inr ⟨m, hm, h⟩)⟩
  clear h1 h1'
  by_cases hbad : r < 1 ∨ 256 < r
  · have KN := Lib.hid (fun W => ring_New_bad r W hbad)
    clear hA
    generalize L.length = N at *
    by_cases hr1 : r < 1
    all_goals
      have hr2 : decide (r < 1) = decide (r < 1) := rfl
    · have hd1 : decide (r < 1) = true := decide_eq_true hr1
      clear hbad hr2
      go_enter Try.func3, Try.ntmps3
      go_wp2_with fail
      refine (K0.out).mono ?_
      rintro e w1 ⟨rfl, b⟩
      have HB := Lib.hid b
      clear b
      go_wp2_with fail
      refine (KN.out _).mono ?_
      rintro e w2 ⟨rfl, rfl⟩
      go_wp2_with fail
      refine (lives17 _).mono ?_
      rintro e wl ⟨rfl, bl⟩
      have HBL := Lib.hid (HB.out.trans (bl.mono HB.out.size))
      clear bl
      go_wp2
      go_ret
      exact ⟨rfl, HBL.out⟩
    · have hd1 : decide (r < 1) = false := decide_eq_false hr1
      have hr3 : 256 < r := by omega
      have hd2 : decide (256 < r) = true := decide_eq_true hr3
      clear hbad hr2
      go_enter Try.func3, Try.ntmps3
      go_wp2_with fail
      refine (K0.out).mono ?_
      rintro e w1 ⟨rfl, b⟩
      have HB := Lib.hid b
      clear b
      go_wp2_with fail
      refine (KN.out _).mono ?_
      rintro e w2 ⟨rfl, rfl⟩
      go_wp2_with fail
      refine (lives17 _).mono ?_
      rintro e wl ⟨rfl, bl⟩
      have HBL := Lib.hid (HB.out.trans (bl.mono HB.out.size))
      clear bl
      go_wp2
      go_ret
      exact ⟨rfl, HBL.out⟩
  obtain ⟨n, rfl⟩ : ∃ n : Nat, r = (n : Int) := ⟨r.toNat, by omega⟩
  have hn0 : 0 < n := by omega
  have hn2 : n ≤ 256 := by omega
  have hd1 : ¬ (n : Int) < 1 := by omega
  have hd2 : ¬ 256 < (n : Int) := by omega
  clear hbad hr
  obtain ⟨S, hS⟩ : ∃ S : Nat → Int × List Int × Int × Int × Bool, S = fun j => sgS (L.getD j sn0) := ⟨_, rfl⟩
  have HLA := Lib.hid hA
  have HSV : Hid (∀ k, sgS (L.getD k sn0) = S k) := fun k => by rw [hS]
  have HXL := Lib.hid hx
  have HLV : Hid (∀ m ∈ L, Lies w w.heap.size m.a m.x) := hA.2
  have KN := Lib.hid (fun W => ring_New n W S hn0 hn2)
  have KAT := Lib.hid (fun k (hk : k < L.length) W (hW : Below w.heap.size w W) => (hA.below hW).at hk)
  have KNOW := Lib.hid (fun M A' c' k m b W h1 h2 h3 h4 h5 h6 h7 => push_now M L A' c' n k S m b w W h1 h2 h3 h4 h5 hn0 hn2 h6 h7 hA.2)
  have KPU := Lib.hid (fun B g G k (m : SN) W (h : RingAt W B g G n S k) (h2 : Below w.heap.size w W) (hm : m ∈ L) (hs : sgS m = S k) => ring_Push2 B g G n k w.heap.size S m.id m.p m.q m.s m.a m.x m.c W h hn0 (by omega) ((hA.2 m hm).below h2) h2.size (by have := hx m hm; omega) (by rw [← hs]; rfl))
  have hcn : ∀ k, cntK n k ≤ 256 := fun k => by unfold cntK; omega
  have HCN := Lib.hid hcn
  clear hA hS hcn hx
  go_enter Try.func3, Try.ntmps3
  go_wp2_with fail
  refine (K0.out).mono ?_
  rintro e w1 ⟨rfl, b⟩
  have HB := Lib.hid b
  clear b
  go_wp2_with fail
  refine (KN.out _).mono ?_
  rintro e w2 ⟨g, G, rfl, hR, hb⟩
  have KL0 : Hid (Calls Try.prog 17 #[.pointer (some ⟨g, 0, none⟩)] w2 fun e w' => e = .returned (.int .i64 0) ∧ w' = w2) := by
    have := ring_Len _ g G n 0 S w2 hR
    rw [show cntK n 0 = 0 from by unfold cntK; omega] at this
    exact this
  have KR0 := Lib.hid (ring_Room _ g G n 0 S w2 hR)
  have HR := Lib.hid (ringAt_low hR HB.out.size)
  have HB := Lib.hid (HB.out.trans (hb.mono HB.out.size))
  have hgG := ringAt_G hR
  have hgw : G < w2.heap.size ∧ g < w2.heap.size := hgG
  clear hR hb hgG
  go_wp2_with fail
  refine (KL0.out).mono ?_
  rintro e w3 ⟨rfl, rfl⟩
  go_wp2_with fail
  refine (KR0.out).mono ?_
  rintro e w4 ⟨rfl, rfl⟩
  have HGW : Hid (G < w4.heap.size ∧ g < w4.heap.size) := hgw
  clear hgw KL0 KR0 K0
  go_wp2
  go_loopw [11, 12] (fun v i wr => ∃ (k : Nat) (M : List SN) (A' : Option Addr) (c' : Nat), k ≤ L.length ∧ i = .int .i64 (k : Int) ∧ v = .slice A' (cntK n k) c' ∧ Hid (A' = none → c' = 0) ∧ Hid (LiesSs wr wr.heap.size A' M) ∧ Hid (∀ ad, A' = some ad → ad.block ≠ g ∧ ad.block ≠ G) ∧ Hid (NowK n k S L M) ∧ Hid (RingAt wr w.heap.size g G n S k) ∧ Hid (Below w.heap.size w wr) ∧ Hid (w4.heap.size ≤ wr.heap.size)) (fun _ i _ => ((L.length : Int) - intOf i).toNat)
  case atStart => exact ⟨0, [], none, 0, Nat.zero_le _, rfl, by simp [cntK], fun _ => rfl, ⟨fun h => absurd h (by simp), (fun m hm => by cases hm)⟩, (fun ad h => by cases h), nowK_0 n S L, HR.out, HB.out, Nat.le_refl _⟩
  case round =>
    obtain ⟨k, M, A', c', hk, rfl, rfl, HAc, HM, HAd, HN, HR, HB, HSZ⟩ := hrel
    by_cases hkl : k < L.length
    · have hkl' : (k : Int) < (L.length : Int) := by omega
      obtain ⟨ad, eA, hab, c0, c1, c2, c3, c4⟩ := KAT.out k hkl wr HB.out
      have hm := mem_sn hkl
      obtain ⟨b, hb⟩ : ∃ b, decide (n ≤ k) = b := ⟨_, rfl⟩
      have KP := Lib.hid (KNOW.out M A' c' k (L.getD k sn0) b wr HM.out HAc.out HN.out hm (HSV.out k) hb HB.out)
      have KQ := Lib.hid (fun W h1 h2 => KPU.out w.heap.size g G k (L.getD k sn0) W h1 h2 hm (HSV.out k))
      rw [hb] at KQ
      have KAT2 := Lib.hid (fun W (hW : Below w.heap.size w W) => KAT.out k hkl W hW)
      have HNK : Hid ((n ≤ k ∧ b = true) ∨ (k < n ∧ b = false)) := by
        rcases Nat.lt_or_ge k n with h | h
        · exact .inr ⟨h, by rw [← hb]; exact decide_eq_false (by omega)⟩
        · exact .inl ⟨h, by rw [← hb]; exact decide_eq_true h⟩
      have hbb : (b != b) = false := by simp
      subst eA
      unfold StepR at KP
      clear hm hb HAc HN KAT KPU KNOW HLA KN HSV
      have hcn1 := HCN.out (k + 1)
      have hcnn : ((cntK n (k + 1) : Int) != (cntK n (k + 1) : Int)) = false := by simp
      generalize hmm : L.getD k sn0 = m at *
      generalize hc1 : cntK n (k + 1) = cn at *
      generalize cntK n k = cn0 at *
      have HC1 := Lib.hid hc1
      clear hmm hc1
      go_wp2_with fail
      refine (KP.out).mono ?_
      rintro e w5 ⟨M', A2, c2', o, rfl, h2, h3, h4, h5, h6, h7, h8, h9⟩
      have HB5 := Lib.hid (HB.out.trans (h5.mono HB.out.size))
      have hal := (Below.refl w5.heap.size w5).alloc (Nat.le_refl _) (.cells #[.int .i64 o.id, .slice o.a o.x.length o.c, .int .i64 o.p, .int .i64 o.q, .bool o.s] 34)
      have HS := Lib.hid (Box.new w5 #[.int .i64 o.id, .slice o.a o.x.length o.c, .int .i64 o.p, .int .i64 o.q, .bool o.s] 34)
      have HM := Lib.hid (lies_nowB h3 hal)
      have HR := Lib.hid ((HR.out.below h5).below hal)
      have HB := Lib.hid (HB5.out.trans (hal.mono HB5.out.size))
      have HAd : Hid (∀ ad, A2 = some ad → ad.block ≠ g ∧ ad.block ≠ G) := fun ad e => by
        have e1 := h4 ad e
        have e2 := HGW.out
        have e3 := HSZ.out
        omega
      have HSZ : Hid (w4.heap.size ≤ w5.heap.size) := Nat.le_trans HSZ.out h5.size
      have HW5 : Hid (w5.heap.size ≠ g ∧ w5.heap.size ≠ G) := by
        have e2 := HGW.out
        have e3 := HSZ.out
        exact ⟨by omega, by omega⟩
      have HA2 := Lib.hid h2
      have HN2 := Lib.hid h6
      have HO7 := Lib.hid h7
      have HO8 := Lib.hid h8
      have HO9 := Lib.hid h9
      clear h2 h3 h4 h5 h6 h7 h8 h9 hal c0 c1 c2 c3 c4 HB5
      obtain ⟨ad2, eA2, hab2, d0, d1, d2, d3, d4⟩ := KAT2.out _ HB.out
      cases eA2
      have KQ1 := Lib.hid (KQ.out _ HR.out HB.out)
      go_wp2_with fail
      refine (KQ1.out).mono ?_
      rintro e w6 ⟨o2, rfl, hR, hBw, p1, p2, p3, p4, p5⟩
      have hal := (Below.refl w6.heap.size w6).alloc (Nat.le_refl _) (.cells #[.int .i64 o2.id, .slice o2.a o2.x.length o2.c, .int .i64 o2.p, .int .i64 o2.q, .bool o2.s] 34)
      have HM := Lib.hid (lies_nowB (HM.out.oth p3 HAd.out (fun m hm => ((HLV.out m (HN2.out.2.2 m hm)).below (HB.out.trans hBw)).mono (HB.out.trans hBw).size)) hal)
      have HS := Lib.hid ((p3.box HS.out HW5.out.1 HW5.out.2).alloc (.cells #[.int .i64 o2.id, .slice o2.a o2.x.length o2.c, .int .i64 o2.p, .int .i64 o2.q, .bool o2.s] 34))
      have HS2 := Lib.hid (Box.new w6 #[.int .i64 o2.id, .slice o2.a o2.x.length o2.c, .int .i64 o2.p, .int .i64 o2.q, .bool o2.s] 34)
      have HR := Lib.hid (hR.below hal)
      have hz6 : w.heap.size ≤ w6.heap.size := (HB.out.trans hBw).size
      have HB := Lib.hid ((HB.out.trans hBw).trans (hal.mono hz6))
      have HSZ : Hid (w4.heap.size ≤ (w6.alloc (.cells #[.int .i64 o2.id, .slice o2.a o2.x.length o2.c, .int .i64 o2.p, .int .i64 o2.q, .bool o2.s] 34)).heap.size) := by
        have e1 := HSZ.out
        have e2 := p3.1
        have e3 := hal.size
        rw [alloc_size'] at e2
        show _ ≤ _
        omega
      have HSG : Hid (sgS o2 = sgS o) := by
        show sgS o2 = sgS o
        rcases HNK.out with ⟨h1, -⟩ | ⟨h1, -⟩
        · exact (p1 h1).trans (HO7.out h1).symm
        · rw [p2 h1, HO8.out h1]
      have HL2 := Lib.hid (lies_up p4 hal)
      have H5 := Lib.hid p5
      clear hR hBw p1 p2 p3 p4 p5 hal hz6 d0 d1 d2 d3 d4 KQ1 KQ KAT2
      obtain ⟨a0, a1, a2, a3, a4⟩ := box5 HS.out
      obtain ⟨b0, b1, b2, b3, b4⟩ := box5 HS2.out
      have KS := Lib.hid (same_ev o2 o _ HSG.out HL2.out (HO9.out _ HB.out) H5.out)
      have KLn := Lib.hid (fun W (h : RingAt W w.heap.size g G n S (k + 1)) => ring_Len _ g G n (k + 1) S W h)
      have KAl := Lib.hid (fun W (h : RingAt W w.heap.size g G n S (k + 1)) => ring_All _ g G n (k + 1) S W h hn0 (by omega))
      have KSm := Lib.hid (fun W R (hO : OutAt W R cn (fun j => S (k + 1 - cn + j)) cn) (hM : LiesSs W W.heap.size A2 M') => same_now (c := c2') W hO hM HN2.out HC1.out (by omega))
      rw [HC1.out] at KLn KAl
      go_wp2_with fail
      refine (KS.out).mono ?_
      rintro e w8 ⟨rfl, hb⟩
      have HM := Lib.hid (lies_nowB HM.out hb)
      have HR := Lib.hid (HR.out.below hb)
      have HB := Lib.hid (HB.out.trans (hb.mono HB.out.size))
      have HSZ : Hid (w4.heap.size ≤ w8.heap.size) := Nat.le_trans HSZ.out hb.size
      clear hb a0 a1 a2 a3 a4 b0 b1 b2 b3 b4 HS HS2 KS HSG HL2 H5 HO7 HO8 HO9
      go_wp2_with fail
      refine (KLn.out _ HR.out).mono ?_
      rintro e w9 ⟨rfl, rfl⟩
      go_wp2_with fail
      refine (KAl.out _ HR.out).mono ?_
      rintro e w10 ⟨rfl, hO, hb⟩
      have HO := Lib.hid hO
      have HM := Lib.hid (lies_nowB HM.out hb)
      have HR := Lib.hid (HR.out.below hb)
      have HB := Lib.hid (HB.out.trans (hb.mono HB.out.size))
      have HSZ : Hid (w4.heap.size ≤ w10.heap.size) := Nat.le_trans HSZ.out hb.size
      clear hb hO
      go_wp2_with fail
      refine (KSm.out _ _ HO.out HM.out).mono ?_
      rintro e w11 ⟨rfl, hb⟩
      have HM := Lib.hid (lies_nowB HM.out hb)
      have HR := Lib.hid (HR.out.below hb)
      have HB := Lib.hid (HB.out.trans (hb.mono HB.out.size))
      have HSZ : Hid (w4.heap.size ≤ w11.heap.size) := Nat.le_trans HSZ.out hb.size
      clear hb KSm KAl KLn HO
      go_wp2
      exact ⟨⟨k + 1, M', A2, c2', by omega, by go_num, by rw [HC1.out], HA2.out, HM.out, HAd.out, HN2.out, HR.out, HB.out, HSZ.out⟩, by first | (simp [intOf]; done) | (simp [intOf]; omega)⟩
    · obtain rfl : k = L.length := by omega
      have hkl' : ¬ (L.length : Int) < (L.length : Int) := by omega
      have hcn1 := HCN.out L.length
      have KF := Lib.hid (fun W (h : RingAt W w.heap.size g G n S L.length) => ring_Find _ g G n L.length id S W h hn0 (by omega))
      have KPt := Lib.hid (fun W (h : RingAt W w.heap.size g G n S L.length) => ring_Points _ g G n L.length S W h hn0 (by omega))
      have KAb := Lib.hid (fun W (h : RingAt W w.heap.size g G n S L.length) hi => ring_At_bad _ g G n L.length S at_ W h hi)
      have KAg := Lib.hid (fun W (h : RingAt W w.heap.size g G n S L.length) j hj => ring_At _ g G n L.length j S W h hn0 (by omega) hj)
      have hML := HN.out.1
      generalize hc1 : cntK n L.length = cn at *
      have HC1 := Lib.hid hc1
      have KRF := Lib.hid (fun W (hM : LiesSs W W.heap.size A' M) => find_now (c := c') id W hM HN.out HC1.out (by omega))
      have KRP : Hid (∀ W, LiesSs W W.heap.size A' M → Calls Try.prog 29 #[.slice A' cn c'] W fun e w' => ∃ A' c', e = .returned (.slice A' (vrw M).length c') ∧ LiesR w' w'.heap.size A' (vrw M) ∧ Below W.heap.size W w') := fun W hM => by
        have := ref_Points17 M A' c' W (by omega) hM
        rw [hML] at this
        exact this
      have KSP := Lib.hid (fun W R A2 c2 (hO : OutV W R cn (fun j => S (L.length - cn + j)) cn) (hM2 : LiesR W W.heap.size A2 (vrw M)) => same_pts (c := c2) W hO hM2 HN.out HC1.out (by omega))
      have HNJ : Hid (∀ j, j < cn → sgS (M.getD j sn0) = S (L.length - cn + j)) := by
        have := HN.out.2.1
        rw [hc1] at this
        exact this
      have HMV : Hid (∀ j, j < cn → (M.getD j sn0).x.length ≤ 20) := fun j hj => HXL.out _ (HN.out.2.2 _ (mem_sn (by omega)))
      have HML := Lib.hid hML
      clear hc1 hML KNOW KPU KAT HLA HSV HAc HAd HN HXL HLV HCN HSZ HGW KN
      generalize fndK (fun j => S (L.length - cn + j)) id cn = fr at *
      obtain ⟨fi, fb⟩ := fr
      simp only at KF KRF
      have hfi : ((fi : Int) == (fi : Int)) = true := by simp
      have hfb : (fb == fb) = true := by simp
      generalize (vrw M).length = vn at *
      by_cases hat0 : at_ < 0 ∨ (cn : Int) ≤ at_
      · have KAb := Lib.hid (fun W h => KAb.out W h hat0)
        have KSz : Hid (∀ X : World, Calls Try.prog 21 #[.agg #[.int .i64 0, .slice none 0 0, .int .i64 0, .int .i64 0, .bool false], .agg #[.int .i64 0, .slice none 0 0, .int .i64 0, .int .i64 0, .bool false]] X fun e w' => e = .returned (.bool true) ∧ Below X.heap.size X w') := fun X => ref_Same17 0 0 0 false none none [] 0 0 X.heap.size X (fun h => absurd h (by simp)) (fun h => absurd h (by simp)) (by simp) (Nat.le_refl _)
        clear KAg HNJ HMV
        by_cases hat1 : at_ < 0
        · have hda : decide (at_ < 0) = true := decide_eq_true hat1
          clear hat0
          go_wp2_with fail
          refine (KAb.out _ HR.out).mono ?_
          rintro e w12 ⟨rfl, hb⟩
          have hal := (Below.refl w12.heap.size w12).alloc (Nat.le_refl _) (.cells #[.int .i64 0, .slice none 0 0, .int .i64 0, .int .i64 0, .bool false] 34)
          have HS := Lib.hid (Box.new w12 #[.int .i64 0, .slice none 0 0, .int .i64 0, .int .i64 0, .bool false] 34)
          have HM := Lib.hid (lies_nowB (lies_nowB HM.out hb) hal)
          have HR := Lib.hid ((HR.out.below hb).below hal)
          have HB := Lib.hid ((HB.out.trans (hb.mono HB.out.size)).trans (hal.mono (HB.out.trans (hb.mono HB.out.size)).size))
          clear hb hal
          obtain ⟨a0, a1, a2, a3, a4⟩ := box5 HS.out
          go_wp2_with fail
          refine (KSz.out _).mono ?_
          rintro e w13 ⟨rfl, hb⟩
          have HM := Lib.hid (lies_nowB HM.out hb)
          have HR := Lib.hid (HR.out.below hb)
          have HB := Lib.hid (HB.out.trans (hb.mono HB.out.size))
          clear hb HS a0 a1 a2 a3 a4
          go_wp2_with fail
          refine (KF.out _ HR.out).mono ?_
          rintro e w20 ⟨rfl, hb⟩
          have HM := Lib.hid (lies_nowB HM.out hb)
          have HR := Lib.hid (HR.out.below hb)
          have HB := Lib.hid (HB.out.trans (hb.mono HB.out.size))
          clear hb
          go_wp2_with fail
          refine (KRF.out _ HM.out).mono ?_
          rintro e w21 ⟨rfl, hb⟩
          have HM := Lib.hid (lies_nowB HM.out hb)
          have HR := Lib.hid (HR.out.below hb)
          have HB := Lib.hid (HB.out.trans (hb.mono HB.out.size))
          clear hb
          go_wp2_with fail
          refine (KPt.out _ HR.out).mono ?_
          rintro e w22 ⟨rfl, hO, hb⟩
          have HO := Lib.hid hO
          have HM := Lib.hid (lies_nowB HM.out hb)
          have HR := Lib.hid (HR.out.below hb)
          have HB := Lib.hid (HB.out.trans (hb.mono HB.out.size))
          clear hb hO
          go_wp2_with fail
          refine (KRP.out _ HM.out).mono ?_
          rintro e w23 ⟨A2, c2', rfl, hP, hb⟩
          have HO := Lib.hid (HO.out.below hb)
          have HP := Lib.hid hP
          have HM := Lib.hid (lies_nowB HM.out hb)
          have HR := Lib.hid (HR.out.below hb)
          have HB := Lib.hid (HB.out.trans (hb.mono HB.out.size))
          clear hb hP
          go_wp2_with fail
          refine (KSP.out _ _ _ _ HO.out HP.out).mono ?_
          rintro e w24 ⟨rfl, hb⟩
          have HM := Lib.hid (lies_nowB HM.out hb)
          have HR := Lib.hid (HR.out.below hb)
          have HB := Lib.hid (HB.out.trans (hb.mono HB.out.size))
          clear hb
          go_wp2_with fail
          refine (lives17 _).mono ?_
          rintro e wl ⟨rfl, hb⟩
          have HB := Lib.hid (HB.out.trans (hb.mono HB.out.size))
          clear hb
          go_wp2
          go_ret
          exact ⟨rfl, HB.out⟩
        · have hda : decide (at_ < 0) = false := decide_eq_false hat1
          have hat2 : (cn : Int) ≤ at_ := by omega
          clear hat0
          go_wp2_with fail
          refine (KAb.out _ HR.out).mono ?_
          rintro e w12 ⟨rfl, hb⟩
          have hal := (Below.refl w12.heap.size w12).alloc (Nat.le_refl _) (.cells #[.int .i64 0, .slice none 0 0, .int .i64 0, .int .i64 0, .bool false] 34)
          have HS := Lib.hid (Box.new w12 #[.int .i64 0, .slice none 0 0, .int .i64 0, .int .i64 0, .bool false] 34)
          have HM := Lib.hid (lies_nowB (lies_nowB HM.out hb) hal)
          have HR := Lib.hid ((HR.out.below hb).below hal)
          have HB := Lib.hid ((HB.out.trans (hb.mono HB.out.size)).trans (hal.mono (HB.out.trans (hb.mono HB.out.size)).size))
          clear hb hal
          obtain ⟨a0, a1, a2, a3, a4⟩ := box5 HS.out
          go_wp2_with fail
          refine (KSz.out _).mono ?_
          rintro e w13 ⟨rfl, hb⟩
          have HM := Lib.hid (lies_nowB HM.out hb)
          have HR := Lib.hid (HR.out.below hb)
          have HB := Lib.hid (HB.out.trans (hb.mono HB.out.size))
          clear hb HS a0 a1 a2 a3 a4
          go_wp2_with fail
          refine (KF.out _ HR.out).mono ?_
          rintro e w20 ⟨rfl, hb⟩
          have HM := Lib.hid (lies_nowB HM.out hb)
          have HR := Lib.hid (HR.out.below hb)
          have HB := Lib.hid (HB.out.trans (hb.mono HB.out.size))
          clear hb
          go_wp2_with fail
          refine (KRF.out _ HM.out).mono ?_
          rintro e w21 ⟨rfl, hb⟩
          have HM := Lib.hid (lies_nowB HM.out hb)
          have HR := Lib.hid (HR.out.below hb)
          have HB := Lib.hid (HB.out.trans (hb.mono HB.out.size))
          clear hb
          go_wp2_with fail
          refine (KPt.out _ HR.out).mono ?_
          rintro e w22 ⟨rfl, hO, hb⟩
          have HO := Lib.hid hO
          have HM := Lib.hid (lies_nowB HM.out hb)
          have HR := Lib.hid (HR.out.below hb)
          have HB := Lib.hid (HB.out.trans (hb.mono HB.out.size))
          clear hb hO
          go_wp2_with fail
          refine (KRP.out _ HM.out).mono ?_
          rintro e w23 ⟨A2, c2', rfl, hP, hb⟩
          have HO := Lib.hid (HO.out.below hb)
          have HP := Lib.hid hP
          have HM := Lib.hid (lies_nowB HM.out hb)
          have HR := Lib.hid (HR.out.below hb)
          have HB := Lib.hid (HB.out.trans (hb.mono HB.out.size))
          clear hb hP
          go_wp2_with fail
          refine (KSP.out _ _ _ _ HO.out HP.out).mono ?_
          rintro e w24 ⟨rfl, hb⟩
          have HM := Lib.hid (lies_nowB HM.out hb)
          have HR := Lib.hid (HR.out.below hb)
          have HB := Lib.hid (HB.out.trans (hb.mono HB.out.size))
          clear hb
          go_wp2_with fail
          refine (lives17 _).mono ?_
          rintro e wl ⟨rfl, hb⟩
          have HB := Lib.hid (HB.out.trans (hb.mono HB.out.size))
          clear hb
          go_wp2
          go_ret
          exact ⟨rfl, HB.out⟩
      · obtain ⟨j, rfl⟩ : ∃ j : Nat, at_ = (j : Int) := ⟨at_.toNat, by omega⟩
        have hjc : j < cn := by omega
        have hjg : (j : Int) < (cn : Int) := by omega
        have hj0 : ¬ (j : Int) < 0 := by omega
        have KAg := Lib.hid (fun W h => KAg.out W h j hjc)
        have HJ2 := HMV.out j hjc
        have HATJ : Hid (∀ W, LiesSs W W.heap.size A' M → _) := fun W hM => hM.at (k := j) (by have := HML.out; omega)
        have HVJ : Hid (∀ W, LiesSs W W.heap.size A' M → Lies W W.heap.size (M.getD j sn0).a (M.getD j sn0).x) := fun W hM => hM.2 _ (mem_sn (by have := HML.out; omega))
        rw [← HNJ.out j hjc] at KAg
        unfold AtE at KAg
        simp only [sgS] at KAg
        clear KAb HNJ HMV hat0 hat
        generalize M.getD j sn0 = m at *
        go_wp2_with fail
        refine (KAg.out _ HR.out).mono ?_
        rintro e w12 ⟨A5, c5, rfl, -, -, h5, hb⟩
        have hal := (Below.refl w12.heap.size w12).alloc (Nat.le_refl _) (.cells #[.int .i64 m.id, .slice A5 m.x.length c5, .int .i64 m.p, .int .i64 m.q, .bool m.s] 34)
        have HS := Lib.hid (Box.new w12 #[.int .i64 m.id, .slice A5 m.x.length c5, .int .i64 m.p, .int .i64 m.q, .bool m.s] 34)
        have HL5 : Hid (Lies w12 w12.heap.size A5 m.x) := fun h0 => by
          obtain ⟨h, e, -, ho⟩ := h5 h0
          rw [e]
          exact ho.lies h0
        have HL5 := Lib.hid (lies_up HL5.out hal)
        have HM := Lib.hid (lies_nowB (lies_nowB HM.out hb) hal)
        have HR := Lib.hid ((HR.out.below hb).below hal)
        have HB := Lib.hid ((HB.out.trans (hb.mono HB.out.size)).trans (hal.mono (HB.out.trans (hb.mono HB.out.size)).size))
        clear hb hal h5
        obtain ⟨ad, eA, hab, c0, c1, c2, c3, c4⟩ := HATJ.out _ HM.out
        subst eA
        obtain ⟨a0, a1, a2, a3, a4⟩ := box5 HS.out
        have KS := Lib.hid (fun W (h : Below (w12.alloc (.cells #[.int .i64 m.id, .slice A5 m.x.length c5, .int .i64 m.p, .int .i64 m.q, .bool m.s] 34)).heap.size (w12.alloc (.cells #[.int .i64 m.id, .slice A5 m.x.length c5, .int .i64 m.p, .int .i64 m.q, .bool m.s] 34)) W) => ref_Same17 m.id m.p m.q m.s A5 m.a m.x c5 m.c _ W (lies_up HL5.out h) (lies_up (HVJ.out _ HM.out) h) (by omega) (Nat.le_refl _))
        clear HATJ HVJ HL5
        generalize m.x.length = xl at *
        go_wp2
        generalize w12.alloc (.cells #[.int .i64 m.id, .slice A5 xl c5, .int .i64 m.p, .int .i64 m.q, .bool m.s] 34) = w14 at *
        have HD : Hid (Below w14.heap.size w14 w14.drew) := (Below.refl _ _).drew
        go_still_tail 8, (by kernel_rfl)
        go_wp2_with fail
        refine (KS.out _ HD.out).mono ?_
        rintro e w15 ⟨rfl, hb⟩
        have hb := HD.out.trans (hb.mono HD.out.size)
        have HM := Lib.hid (lies_nowB HM.out hb)
        have HR := Lib.hid (HR.out.below hb)
        have HB := Lib.hid (HB.out.trans (hb.mono HB.out.size))
        clear hb HD KS HS a0 a1 a2 a3 a4 c0 c1 c2 c3 c4
        go_wp2_with fail
        refine (KF.out _ HR.out).mono ?_
        rintro e w20 ⟨rfl, hb⟩
        have HM := Lib.hid (lies_nowB HM.out hb)
        have HR := Lib.hid (HR.out.below hb)
        have HB := Lib.hid (HB.out.trans (hb.mono HB.out.size))
        clear hb
        go_wp2_with fail
        refine (KRF.out _ HM.out).mono ?_
        rintro e w21 ⟨rfl, hb⟩
        have HM := Lib.hid (lies_nowB HM.out hb)
        have HR := Lib.hid (HR.out.below hb)
        have HB := Lib.hid (HB.out.trans (hb.mono HB.out.size))
        clear hb
        go_wp2_with fail
        refine (KPt.out _ HR.out).mono ?_
        rintro e w22 ⟨rfl, hO, hb⟩
        have HO := Lib.hid hO
        have HM := Lib.hid (lies_nowB HM.out hb)
        have HR := Lib.hid (HR.out.below hb)
        have HB := Lib.hid (HB.out.trans (hb.mono HB.out.size))
        clear hb hO
        go_wp2_with fail
        refine (KRP.out _ HM.out).mono ?_
        rintro e w23 ⟨A2, c2', rfl, hP, hb⟩
        have HO := Lib.hid (HO.out.below hb)
        have HP := Lib.hid hP
        have HM := Lib.hid (lies_nowB HM.out hb)
        have HR := Lib.hid (HR.out.below hb)
        have HB := Lib.hid (HB.out.trans (hb.mono HB.out.size))
        clear hb hP
        go_wp2_with fail
        refine (KSP.out _ _ _ _ HO.out HP.out).mono ?_
        rintro e w24 ⟨rfl, hb⟩
        have HM := Lib.hid (lies_nowB HM.out hb)
        have HR := Lib.hid (HR.out.below hb)
        have HB := Lib.hid (HB.out.trans (hb.mono HB.out.size))
        clear hb
        go_wp2_with fail
        refine (lives17 _).mono ?_
        rintro e wl ⟨rfl, hb⟩
        have HB := Lib.hid (HB.out.trans (hb.mono HB.out.size))
        clear hb
        go_wp2
        go_ret
        exact ⟨rfl, HB.out⟩

set_option maxRecDepth 100000 in
theorem lifted (os : Os) (started : os.Started) (H : Type) (enc : TypeId × Value → H) :
    ReturnsInHanded {} Try.checked os 3 .any (Rows.ringDoesSpec.pre6 enc Try.prog Try.f3 Rows.ringDoesRow.domain false) (Rows.ringDoesSpec.post enc Try.prog Try.f3 false true false false) := by
  refine returnsInHanded_of_change (C := Try.checked) own started (by kernel_rfl) Try.func3
    (ChangeSpec.witness6 (enc := enc) (C := Try.checked) false ⟨#[], #[.int .i64 0, .slice none 0 0, .int .i64 0, .int .i64 0], []⟩ 8 (by kernel_rfl) (by kernel_rfl) (by kernel_rfl) (by kernel_rfl)) ?_
  intro W base args ds gs before hval0 hW hcnd _
  have hval : ∀ (j : Nat) t v, Try.f3.params[j]? = some t → args[j]? = some v → Value.okWide Try.prog W .any base t v := hval0
  have hW' := hW
  obtain ⟨p, q, hA0, hV, rfl, hfz, hnd⟩ := hW
  obtain ⟨rfl, rfl⟩ := trodVars_none hV
  have hA : DataW.TrodAll enc Try.prog W 0 (fun _ => true) true Try.f3.params.toList args.toList ds p := hA0
  rw [Try.params3] at hA hval
  obtain ⟨v0, vs0, d0, ds0, p0, q0, hargs, rfl, rfl, h0, r0⟩ := trodAll_cons hA
  obtain ⟨v1, vs1, d1, ds1, p1, q1, rfl, rfl, rfl, h1, r1⟩ := trodAll_cons r0
  obtain ⟨v2, vs2, d2, ds2, p2, q2, rfl, rfl, rfl, h2, r2⟩ := trodAll_cons r1
  obtain ⟨v3, vs3, d3, ds3, p3, q3, rfl, rfl, rfl, h3, r3⟩ := trodAll_cons r2
  obtain ⟨rfl, rfl, rfl⟩ := trodAll_nil r3
  obtain rfl : args = #[v0, v1, v2, v3] := by cases args; simp_all
  obtain ⟨a0, rfl, _, _, w0⟩ := open_int Try.underlying3 (hval 0 3 v0 rfl rfl) h0
  obtain ⟨A1, l1, c1, rfl, L1, C1, M1⟩ := open_seens (hval 1 22 v1 rfl rfl) h1
  obtain ⟨a2, rfl, _, _, w2⟩ := open_int Try.underlying3 (hval 2 3 v2 rfl rfl) h2
  obtain ⟨a3, rfl, _, _, w3⟩ := open_int Try.underlying3 (hval 3 3 v3 rfl rfl) h3
  refine (walk a0 (i64_of_wf w0) A1 l1 c1 L1 C1 M1 a2 (i64_of_wf w2) a3 (i64_of_wf w3) W).mono fun e W' ⟨he, hg⟩ => ?_
  subst he
  exact ⟨_, rfl, law_post laid (by rw [Try.params3]; exact (by decide +kernel)) rfl (by kernel_rfl) Try.underlying4 rfl hW' hg⟩

theorem over : Rows.ringDoesRow.holds Try.pinned (OpenSpec.ofChange Rows.ringDoesSpec) :=
  OpenClaim.holds_of_wide 3 Try.f3 rfl rfl rfl rfl rfl rfl rfl ⟨rfl, rfl, rfl, rfl, rfl⟩ rfl rfl rfl rfl rfl (by kernel_rfl) Try.func3 (by kernel_rfl)
    (of_decide_eq_true (by kernel_rfl)) (by unfold Func.isWrapper; first | (rw [if_pos (by decide +kernel)]; kernel_rfl) | (rw [if_neg (by decide +kernel)]; exact ⟨rfl, rfl⟩))
    (fun os started H enc _ => lifted os started H enc)
theorem proved : Rows.RingDoesSaid := over
end Go.Proofs.Ytdcemcpcjdkpjaa.ringDoes
