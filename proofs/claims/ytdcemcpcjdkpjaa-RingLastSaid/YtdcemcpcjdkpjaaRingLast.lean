/- Statement RingLast: whatever the input is, the Go function returns true and each argument reads as it did. No condition. -/
import Derived.Test.YtdcemcpcjdkpjaaRows
import Derived.Test.YtdcemcpcjdkpjaaRngW
import Derived.Test.YtdcemcpcjdkpjaaRngT
import Derived.Test.YtdcemcpcjdkpjaaVecT
import Derived.Test.YtdcemcpcjdkpjaaBase
import Derived.ProofKit
import Derived.OpenShut
import Derived.IntWalk
namespace Go.Proofs.Ytdcemcpcjdkpjaa.ringLast
open Go.ChangeShapes Go.WideShapes Go.ChangeAt Go.RowKit
set_option linter.unusedVariables false

theorem own : ownKnob Try.prog.godebug = none := by kernel_rfl
theorem laid : laidOutB Try.prog = true := by kernel_rfl

theorem ringAt_low {w : World} {B B' g G n k : Nat} {S : Nat → Int × List Int × Int × Int × Bool} (h : RingAt w B g G n S k) (hB : B' ≤ B) : RingAt w B' g G n S k := by
  obtain ⟨P, h1, h2, h3, h4, h5⟩ := h
  exact ⟨P, h1, h2, h3, Nat.le_trans hB h4, h5⟩
theorem u8_of_wf {a : Int} (h : (Lit.int .u8 a).wf = true) : 0 ≤ a ∧ a < 256 := by
  simp [Lit.wf, IntKind.min, IntKind.max, IntKind.signed, IntKind.bits] at h
  omega
set_option maxRecDepth 2000000 in
set_option maxHeartbeats 8000000 in
theorem walk (a : Int) (ha : 0 ≤ a ∧ a < 256) (A : Option Addr) (L : List SN) (c : Nat) {w : World} (hA : LiesSs w w.heap.size A L) (hLc : L.length ≤ c) (hc : c ≤ 9223372036854775807) (_ : World) :
    Calls Try.prog 4 #[.int .u8 a, .slice A L.length c] w fun e w' => e = .returned (.bool true) ∧ Below w.heap.size w w' := by
  have K0 := Lib.hid (ref_Much17 L A c w.heap.size 300 w (by omega) hA (Nat.le_refl _))
  by_cases h1 : muchS L 300 = true
  · rw [h1] at K0
    clear hA h1
    generalize L.length = N at *
    go_enter Try.func4, Try.ntmps4
    go_wp2_with fail
    refine (K0.out).mono ?_
    rintro e w1 ⟨rfl, b⟩
    have HB := Lib.hid b
    clear b
    go_wp2_with fail
    refine (lives17 _).mono ?_
    rintro e wl ⟨rfl, bl⟩
    have HBL := Lib.hid (HB.out.trans (bl.mono HB.out.size))
    clear bl
    go_wp2
    go_ret
    exact ⟨rfl, HBL.out⟩
  · have h1' := Bool.eq_false_iff.2 h1
    rw [h1'] at K0
    obtain ⟨hl, hx⟩ : L.length ≤ 300 ∧ ∀ m ∈ L, m.x.length ≤ 20 := by
      unfold muchS at h1'
      have h2 := of_decide_eq_false h1'
      exact ⟨by have := fun h => h2 (.inl h); omega, fun m hm => Nat.le_of_not_lt fun h => h2 (.inr ⟨m, hm, h⟩)⟩
    clear h1 h1'
    obtain ⟨n, hn⟩ : ∃ n : Nat, 1 + a = (n : Int) := ⟨(1 + a).toNat, by omega⟩
    have hn0 : 0 < n := by omega
    have hn2 : n ≤ 256 := by omega
    obtain ⟨S, hS⟩ : ∃ S : Nat → Int × List Int × Int × Int × Bool, S = fun j => sgS (L.getD j sn0) := ⟨_, rfl⟩
    have HLA := Lib.hid hA
    have KN := Lib.hid (fun W => ring_New n W S hn0 hn2)
    have KP : Hid (∀ k, k < L.length → ∀ W g G, Below w.heap.size w W → RingAt W w.heap.size g G n S k → Calls Try.prog 20 #[.pointer (some ⟨g, 0, none⟩), .agg #[.int .i64 (L.getD k sn0).id, .slice (L.getD k sn0).a (L.getD k sn0).x.length (L.getD k sn0).c, .int .i64 (L.getD k sn0).p, .int .i64 (L.getD k sn0).q, .bool (L.getD k sn0).s]] W fun e w' => ∃ o : SN, e = .returned (.tuple #[.agg #[.int .i64 o.id, .slice o.a o.x.length o.c, .int .i64 o.p, .int .i64 o.q, .bool o.s], .bool (decide (n ≤ k))]) ∧ RingAt w' w.heap.size g G n S (k + 1) ∧ Below w.heap.size W w') := by
      intro k hk W g G hW hR
      have hm := mem_sn hk
      exact (ring_Push w.heap.size g G n k w.heap.size S _ _ _ _ _ _ _ W hR hn0 (by omega) ((hA.2 _ hm).below hW) hW.size (by have := hx _ hm; omega) (by rw [hS]; rfl)).mono fun e w' ⟨o, h1, h2, h3, _⟩ => ⟨o, h1, h2, h3⟩
    have KAT := Lib.hid (fun k (hk : k < L.length) W (hW : Below w.heap.size w W) => (hA.below hW).at hk)
    have hwn : wrap64 (1 + a) = (n : Int) := by rw [hn]; unfold wrap64; omega
    have hwa : wrap64 a = a := by unfold wrap64; omega
    clear hA
    go_enter Try.func4, Try.ntmps4
    go_wp2_with fail
    refine (K0.out).mono ?_
    rintro e w1 ⟨rfl, b⟩
    have HB := Lib.hid b
    clear b
    go_wp2_with fail
    refine (KN.out _).mono ?_
    rintro e w2 ⟨g, G, rfl, hR, hb⟩
    have HR := Lib.hid (ringAt_low hR HB.out.size)
    have HB := Lib.hid (HB.out.trans (hb.mono HB.out.size))
    clear hR hb
    go_wp2
    go_loopw [8] (fun i wr => ∃ k : Nat, k ≤ L.length ∧ i = .int .i64 (k : Int) ∧ Hid (RingAt wr w.heap.size g G n S k) ∧ Hid (Below w.heap.size w wr)) (fun i _ => ((L.length : Int) - intOf i).toNat)
    case atStart => exact ⟨0, Nat.zero_le _, rfl, HR.out, HB.out⟩
    case round =>
      obtain ⟨k, hk, rfl, HR, HB⟩ := hrel
      by_cases hkl : k < L.length
      · have hkl' : (k : Int) < (L.length : Int) := by omega
        obtain ⟨ad, eA, -, c0, c1, c2, c3, c4⟩ := KAT.out k hkl wr HB.out
        have KQ := Lib.hid (KP.out k hkl wr g G HB.out HR.out)
        subst eA
        clear KP KAT HLA K0 KN
        generalize L.getD k sn0 = m at *
        go_wp2_with fail
        refine (KQ.out).mono ?_
        rintro e w3 ⟨o, rfl, hR, hb⟩
        have HR := Lib.hid hR
        have HB := Lib.hid (HB.out.trans hb)
        clear hR hb
        go_wp2
        exact ⟨⟨k + 1, by omega, by simp, HR, HB⟩, by first | (simp [intOf]; done) | (simp [intOf]; omega)⟩
      · obtain rfl : k = L.length := by omega
        have hkl' : ¬ (L.length : Int) < (L.length : Int) := by omega
        clear KP KAT K0 KN
        by_cases hnl : n < L.length
        · have hnl' : (n : Int) < (L.length : Int) := by omega
          obtain ⟨f, hf⟩ : ∃ f : Nat, L.length = n + f := ⟨L.length - n, by omega⟩
          have hfx : (L.length : Int) - (n : Int) = (f : Int) := by omega
          have hfy : (L.length : Int) - (f : Int) = (n : Int) := by omega
          obtain ⟨ad, eA⟩ : ∃ ad, A = some ad := (HLA.out.1 (by omega)).elim fun ad h => ⟨ad, h.1⟩
          subst eA
          have hcn : cntK n L.length = n := by unfold cntK; omega
          have KAl : Hid (∀ W, Below wr.heap.size wr W → Calls Try.prog 23 #[.pointer (some ⟨g, 0, none⟩)] W fun e w' => e = .returned (.slice (some ⟨W.heap.size, 0, none⟩) n n) ∧ OutAt w' W.heap.size n (fun j => sgS (L.getD (L.length - n + j) sn0)) n ∧ Below W.heap.size W w') := by
            intro W hW
            have := ring_All w.heap.size g G n L.length S W (HR.out.below hW) hn0 (by omega)
            rw [hcn, hS] at this
            exact this
          have KL : Hid (∀ W, Below wr.heap.size wr W → Calls Try.prog 17 #[.pointer (some ⟨g, 0, none⟩)] W fun e w' => e = .returned (.int .i64 (n : Int)) ∧ Below W.heap.size W w') := by
            intro W hW
            have := ring_Len w.heap.size g G n L.length S W (HR.out.below hW)
            rw [hcn] at this
            exact this.mono fun e w' h => ⟨h.1, h.2 ▸ Below.refl _ _⟩
          have KS := Lib.hid (fun X R c2 (hX : Below w.heap.size w X) (hO : OutAt X R n (fun j => sgS (L.getD (L.length - n + j) sn0)) n) => same_last (f := f) (c2 := c2) w X hl (by omega) (lies_drop HLA.out) hX hO)
          have hcf : ¬ c = f := by omega
          have hfl : f ≤ L.length := by omega
          have hfc : f ≤ c := by omega
          have hnf : L.length - f = n := by omega
          have hqq : ((n : Int) == (n : Int)) = true := by simp
          have KAl := Lib.hid KAl.out
          have hwn3 : wrap64 (n : Int) = (n : Int) := by unfold wrap64; omega
          have hfw2 : IntKind.i64.wrap (n : Int) = (n : Int) := IntWalk.i64_in _ (by omega)
          have hfw : IntKind.i64.wrap ((L.length : Int) - (f : Int)) = (n : Int) := by rw [hfy]; exact hfw2
          have hfl' : (f : Int) ≤ (L.length : Int) := by omega
          clear HR hx HLA hS hf hkl hkl' hcn
          generalize L.length = N at *
          go_wp2
          go_region_with (first | (go_at_call 23; refine Calls.mono (KAl.out _ ?_) ?_; (exact below_drewN2 (Below.refl _ _) _); rintro e w4 ⟨rfl, hO, hb⟩; have HO := Lib.hid hO; have HB4 := Lib.hid ((Below.refl wr.heap.size wr).drew.trans hb); clear hO hb) | (go_at_call 22; refine Calls.mono (KS.out _ _ _ (HB.out.trans (HB4.out.mono HB.out.size)) HO.out) ?_; rintro e w5 ⟨rfl, hb⟩; have HB5 := Lib.hid (HB4.out.trans (hb.mono HB4.out.size)); clear hb) | (go_at_call 17; refine Calls.mono (KL.out _ HB5.out) ?_; rintro e w6 ⟨rfl, hb⟩; have HB6 := Lib.hid (HB5.out.trans (hb.mono HB5.out.size)); clear hb) | (go_at_call 15; refine Calls.mono (lives17 _) ?_; rintro e w7 ⟨rfl, hb⟩; have HB7 := Lib.hid (HB.out.trans ((HB6.out.trans (hb.mono HB6.out.size)).mono HB.out.size)); clear hb))
          go_wp2
          go_ret
          exact ⟨rfl, HB7.out⟩
        · have hnl' : ¬ (n : Int) < (L.length : Int) := by omega
          have hcn : cntK n L.length = L.length := by unfold cntK; omega
          have KAl : Hid (∀ W, Below wr.heap.size wr W → Calls Try.prog 23 #[.pointer (some ⟨g, 0, none⟩)] W fun e w' => e = .returned (.slice (some ⟨W.heap.size, 0, none⟩) L.length L.length) ∧ OutAt w' W.heap.size L.length (fun j => sgS (L.getD (L.length - L.length + j) sn0)) L.length ∧ Below W.heap.size W w') := by
            intro W hW
            have := ring_All w.heap.size g G n L.length S W (HR.out.below hW) hn0 (by omega)
            rw [hcn, hS] at this
            exact this
          have KL : Hid (∀ W, Below wr.heap.size wr W → Calls Try.prog 17 #[.pointer (some ⟨g, 0, none⟩)] W fun e w' => e = .returned (.int .i64 (L.length : Int)) ∧ Below W.heap.size W w') := by
            intro W hW
            have := ring_Len w.heap.size g G n L.length S W (HR.out.below hW)
            rw [hcn] at this
            exact this.mono fun e w' h => ⟨h.1, h.2 ▸ Below.refl _ _⟩
          have KS := Lib.hid (fun X R A2 c2 (hX : Below w.heap.size w X) (hO : OutAt X R L.length (fun j => sgS (L.getD (L.length - L.length + j) sn0)) L.length) (hA2 : LiesSs w w.heap.size A2 (L.drop 0)) => same_last (f := 0) (c2 := c2) w X hl (by omega) hA2 hX hO)
          have hwn3 : wrap64 (L.length : Int) = (L.length : Int) := by unfold wrap64; omega
          have hfw2 : IntKind.i64.wrap (L.length : Int) = (L.length : Int) := IntWalk.i64_in _ (by omega)
          have hqq : ((L.length : Int) == (L.length : Int)) = true := by simp
          rcases Nat.eq_zero_or_pos L.length with h0 | h0
          · have HL : Hid (∀ A2, LiesSs w w.heap.size A2 (L.drop 0)) := fun A2 => by
              rw [List.length_eq_zero_iff.1 h0]
              exact ⟨fun h => absurd h (by simp), fun n hn => by cases hn⟩
            clear HR hx HLA hS hkl hkl' hcn h0
            generalize L.length = N at *
            go_wp2
            go_region_with (first | (go_at_call 23; refine Calls.mono (KAl.out _ ?_) ?_; (exact below_drewN2 (Below.refl _ _) _); rintro e w4 ⟨rfl, hO, hb⟩; have HO := Lib.hid hO; have HB4 := Lib.hid ((Below.refl wr.heap.size wr).drew.trans hb); clear hO hb) | (go_at_call 22; refine Calls.mono (KS.out _ _ _ _ (HB.out.trans (HB4.out.mono HB.out.size)) HO.out (HL.out _)) ?_; rintro e w5 ⟨rfl, hb⟩; have HB5 := Lib.hid (HB4.out.trans (hb.mono HB4.out.size)); clear hb) | (go_at_call 17; refine Calls.mono (KL.out _ HB5.out) ?_; rintro e w6 ⟨rfl, hb⟩; have HB6 := Lib.hid (HB5.out.trans (hb.mono HB5.out.size)); clear hb) | (go_at_call 15; refine Calls.mono (lives17 _) ?_; rintro e w7 ⟨rfl, hb⟩; have HB7 := Lib.hid (HB.out.trans ((HB6.out.trans (hb.mono HB6.out.size)).mono HB.out.size)); clear hb))
            go_wp2
            go_ret
            exact ⟨rfl, HB7.out⟩
          · obtain ⟨ad, eA⟩ : ∃ ad, A = some ad := (HLA.out.1 h0).elim fun ad h => ⟨ad, h.1⟩
            subst eA
            have HL : Hid (LiesSs w w.heap.size (some ad) (L.drop 0)) := HLA.out
            have HL2 : Hid (LiesSs w w.heap.size (some (ad.add 0)) (L.drop 0)) := by
              show LiesSs w w.heap.size (some (ad.add 0)) (L.drop 0)
              rw [add_zero']
              exact HLA.out
            have hcf : ¬ c = 0 := by omega
            clear HR hx HLA hS hkl hkl' hcn
            generalize L.length = N at *
            go_wp2
            go_region_with (first | (go_at_call 23; refine Calls.mono (KAl.out _ ?_) ?_; (exact below_drewN2 (Below.refl _ _) _); rintro e w4 ⟨rfl, hO, hb⟩; have HO := Lib.hid hO; have HB4 := Lib.hid ((Below.refl wr.heap.size wr).drew.trans hb); clear hO hb) | (go_at_call 22; refine Calls.mono (KS.out _ _ _ _ (HB.out.trans (HB4.out.mono HB.out.size)) HO.out ?_) ?_; (first | (with_reducible exact HL.out) | (with_reducible exact HL2.out)); rintro e w5 ⟨rfl, hb⟩; have HB5 := Lib.hid (HB4.out.trans (hb.mono HB4.out.size)); clear hb) | (go_at_call 17; refine Calls.mono (KL.out _ HB5.out) ?_; rintro e w6 ⟨rfl, hb⟩; have HB6 := Lib.hid (HB5.out.trans (hb.mono HB5.out.size)); clear hb) | (go_at_call 15; refine Calls.mono (lives17 _) ?_; rintro e w7 ⟨rfl, hb⟩; have HB7 := Lib.hid (HB.out.trans ((HB6.out.trans (hb.mono HB6.out.size)).mono HB.out.size)); clear hb))
            go_wp2
            go_ret
            exact ⟨rfl, HB7.out⟩

set_option maxRecDepth 100000 in
theorem lifted (os : Os) (started : os.Started) (H : Type) (enc : TypeId × Value → H) :
    ReturnsInHanded {} Try.checked os 4 .any (Rows.ringLastSpec.pre6 enc Try.prog Try.f4 Rows.ringLastRow.domain false) (Rows.ringLastSpec.post enc Try.prog Try.f4 false true false false) := by
  refine returnsInHanded_of_change (C := Try.checked) own started (by kernel_rfl) Try.func4
    (ChangeSpec.witness6 (enc := enc) (C := Try.checked) false ⟨#[], #[.int .u8 0, .slice none 0 0], []⟩ 8 (by kernel_rfl) (by kernel_rfl) (by kernel_rfl) (by kernel_rfl)) ?_
  intro W base args ds gs before hval0 hW hcnd _
  have hval : ∀ (j : Nat) t v, Try.f4.params[j]? = some t → args[j]? = some v → Value.okWide Try.prog W .any base t v := hval0
  have hW' := hW
  obtain ⟨p, q, hA0, hV, rfl, hfz, hnd⟩ := hW
  obtain ⟨rfl, rfl⟩ := trodVars_none hV
  have hA : DataW.TrodAll enc Try.prog W 0 (fun _ => true) true Try.f4.params.toList args.toList ds p := hA0
  rw [Try.params4] at hA hval
  obtain ⟨v0, vs0, d0, ds0, p0, q0, hargs, rfl, rfl, h0, r0⟩ := trodAll_cons hA
  obtain ⟨v1, vs1, d1, ds1, p1, q1, rfl, rfl, rfl, h1, r1⟩ := trodAll_cons r0
  obtain ⟨rfl, rfl, rfl⟩ := trodAll_nil r1
  obtain rfl : args = #[v0, v1] := by cases args; simp_all
  obtain ⟨a0, rfl, _, _, w0⟩ := open_int Try.underlying5 (hval 0 5 v0 rfl rfl) h0
  obtain ⟨A1, l1, c1, rfl, L1, C1, M1⟩ := open_seens (hval 1 22 v1 rfl rfl) h1
  refine (walk a0 (u8_of_wf w0) A1 l1 c1 L1 C1 M1 W).mono fun e W' ⟨he, hg⟩ => ?_
  subst he
  exact ⟨_, rfl, law_post laid (by rw [Try.params4]; exact (by decide +kernel)) rfl (by kernel_rfl) Try.underlying4 rfl hW' hg⟩

theorem over : Rows.ringLastRow.holds Try.pinned (OpenSpec.ofChange Rows.ringLastSpec) :=
  OpenClaim.holds_of_wide 4 Try.f4 rfl rfl rfl rfl rfl rfl rfl ⟨rfl, rfl, rfl, rfl, rfl⟩ rfl rfl rfl rfl rfl (by kernel_rfl) Try.func4 (by kernel_rfl)
    (of_decide_eq_true (by kernel_rfl)) (by unfold Func.isWrapper; first | (rw [if_pos (by decide +kernel)]; kernel_rfl) | (rw [if_neg (by decide +kernel)]; exact ⟨rfl, rfl⟩))
    (fun os started H enc _ => lifted os started H enc)
theorem proved : Rows.RingLastSaid := over
end Go.Proofs.Ytdcemcpcjdkpjaa.ringLast
