import Derived.Test.YteenemdiokajbaaPatU
import Derived.Test.YteenemdiokajbaaPatL
import Derived.Test.YteenemdiokajbaaTrE

/-! Layer 12's reference: All, Much, Sum. -/
namespace Go.Proofs.Yteenemdiokajbaa
open Go.RowKit
set_option linter.unusedVariables false
set_option linter.unusedSimpArgs false

theorem len18 {vs : List Value} (h : vs.length = 18) : ∃ y0 y1 y2 y3 y4 y5 y6 y7 y8 y9 y10 y11 y12 y13 y14 y15 y16 y17, vs = [y0, y1, y2, y3, y4, y5, y6, y7, y8, y9, y10, y11, y12, y13, y14, y15, y16, y17] := by
  match vs, h with
  | [y0, y1, y2, y3, y4, y5, y6, y7, y8, y9, y10, y11, y12, y13, y14, y15, y16, y17], _ => exact ⟨_, _, _, _, _, _, _, _, _, _, _, _, _, _, _, _, _, _, rfl⟩
set_option maxRecDepth 100000 in
set_option maxHeartbeats 8000000 in
theorem ref_all12 (T : List TT) (A : Option Addr) (c B : Nat) (w : World) (hl : T.length ≤ 1000000) (ho : okTs T) (hA : LiesTs w B A T) (hB : B ≤ w.heap.size) :
    Calls Try.prog 71 #[.slice A T.length c] w fun e w' => e = .returned (.bool (decide (alkV T = 0))) ∧ Below w.heap.size w w' := by
  by_cases h0 : T.length = 0
  · have hv : alkV T = 100 := by unfold alkV; rw [if_pos h0]
    rw [hv, h0]
    clear hv h0 hl ho hA
    go_enter Try.func71, Try.ntmps71
    go_wp2
    go_loopw [3] (fun i wr => i = .int .i64 0 ∧ wr = w) (fun i _ => 0)
    case atStart => exact ⟨rfl, rfl⟩
    case round =>
      obtain ⟨rfl, rfl⟩ := hrel
      go_wp2
      go_ret
      exact ⟨rfl, Below.refl _ _⟩
  · have HA := Lib.hid (fun W (h : Below w.heap.size w W) => hA.below (h.mono hB))
    have KT := Lib.hid (fun k (hk : k < T.length) W (h : Below w.heap.size w W) => ref_isT (T.getD k tt0).n (T.getD k tt0).dim (T.getD k tt0).a (T.getD k tt0).c B W (by have := (ho _ (mem_tt hk)).2; omega) ((hA.2 _ (mem_tt hk)).below (h.mono hB)) (Nat.le_trans hB h.size))
    have HBAD := Lib.hid (fun k (hk : k < T.length) (h : ¬ (isT (T.getD k tt0).n (T.getD k tt0).dim = true ∧ (T.getD k tt0).dim = (T.getD 0 tt0).dim)) => alkV_bad hk h)
    have HGO := Lib.hid (fun (h : alkK T T.length = true) => alkV_good (by omega) h)
    have HST : Hid (∀ k, alkK T k = true → isT (T.getD k tt0).n (T.getD k tt0).dim = true → (T.getD k tt0).dim = (T.getD 0 tt0).dim → alkK T (k + 1) = true) := fun k h1 h2 h3 => by rw [alkK, h1, h2, h3]; simp
    have h0' : 0 < T.length := by omega
    clear hA ho
    obtain ⟨M, hM⟩ : ∃ M, M = T.length := ⟨_, rfl⟩
    have HM := Lib.hid hM
    rw [← hM] at hl h0 h0' ⊢
    clear hM
    generalize alkV T = av at *
    go_enter Try.func71, Try.ntmps71
    go_wp2
    go_loopw [3] (fun i wr => ∃ k : Nat, k ≤ M ∧ i = .int .i64 k ∧ Hid (alkK T k = true) ∧ Hid (Below w.heap.size w wr)) (fun i _ => M - (intOf i).toNat)
    case atStart => exact ⟨0, by omega, rfl, (by show alkK T 0 = true; rfl), Below.refl _ _⟩
    case round =>
      obtain ⟨k, hk, rfl, HK, HB⟩ := hrel
      by_cases hlt : k < M
      · have hlg : (k : Int) < (M : Int) := by omega
        have hM0 : (0 : Int) < (M : Int) := by omega
        have hkT : k < T.length := by have := HM.out; omega
        have h0T : 0 < T.length := by have := HM.out; omega
        obtain ⟨ad, eA, hab, ⟨c0, c1⟩, _⟩ := (HA.out wr HB.out).at hkT
        subst eA
        have HC0 : Hid (∀ W, Below w.heap.size w W → W.cell? ad = some (.int .i64 (T.getD 0 tt0).dim)) := fun W h => by
          obtain ⟨ad', e, _, ⟨d0, _⟩, _⟩ := (HA.out W h).at h0T
          cases e
          exact tt_zero d0
        have HCK : Hid (∀ W, Below w.heap.size w W → W.cell? (ad.add (k * 2)) = some (.int .i64 (T.getD k tt0).dim) ∧ W.cell? ⟨(ad.add (k * 2)).block, (ad.add (k * 2)).off + 1, none⟩ = some (.slice (T.getD k tt0).a (T.getD k tt0).n.length (T.getD k tt0).c)) := fun W h => by
          obtain ⟨ad', e, _, hc, _⟩ := (HA.out W h).at hkT
          cases e
          exact hc
        have KK := Lib.hid (fun W (h : Below w.heap.size w W) => KT.out k hkT W h)
        have HBK := Lib.hid (HBAD.out k hkT)
        have HSK := Lib.hid (HST.out k HK.out)
        clear HST HBAD KT hkT h0T c0 c1
        generalize (T.getD 0 tt0).dim = d0 at *
        generalize T.getD k tt0 = t at *
        obtain ⟨td, ta, tc, tn⟩ := t
        simp only at *
        generalize hL : tn.length = L at *
        clear hL
        have hszw := HB.out.size
        cases hT : isT tn td with
        | false =>
          have HV := Lib.hid (HBK.out (by rw [hT]; simp))
          rw [hT] at KK
          clear HBK HSK hT
          go_wp2
          refine wp_region_steps (AlkJ [some (.slice (some ad) M c), some (.int .i64 (k : Int)), some (.pointer (some (ad.add (k * 2)))), some (.agg #[.int .i64 td, .slice ta L tc]), some (.bool false), some (.bool true), some (.bool true), none, none, none, none, none, none, none, none, none, none, some (.bool true)] w.heap.size wr)
            [[], [], [0, 1], [2], [3], [4], [5, 4], [6], [6], [7, 8, 6], [9, 6], [10, 6], [6], [12, 6], [13, 6], [14, 6], [11, 15, 6], [6, 16]] (by kernel_rfl) (by kernel_rfl) (by kernel_rfl) (by kernel_rfl) ?_ ?_ ?_ ?_
          · rintro f g vs X hfg ⟨h1, h2⟩
            exact ⟨fun j u hj he => h1 j u ((hfg j (by have := (List.getElem?_eq_some_iff.1 he).1; simpa using this)).trans hj) he, h2⟩
          · intro vs _
            exact ⟨fun j u h => by simp at h, (Below.refl _ _).drew⟩
          · refine ⟨?_, ?_, ?_, ?_, ?_, ?_, ?_, ?_, ?_, ?_, ?_, ?_, ?_, ?_, ?_, ?_, ?_, ?_, trivial⟩
            all_goals
              intro f vs X hlen hf hp hj K hK
              obtain ⟨y0, y1, y2, y3, y4, y5, y6, y7, y8, y9, y10, y11, y12, y13, y14, y15, y16, y17, rfl⟩ := len18 hlen
              clear hlen
              have HJ := Lib.hid hj
              clear hj
            · rw [if_pos (by rfl)]
              simp only [putAll, Act.put, List.setIfInBounds_toArray, List.set_cons_zero, List.set_cons_succ] at hK ⊢
              go_simp
              refine hK _ X ?_
              exact HJ.out.step (i := 0) (by simp) _ (fun u hu => by simpa using hu)
            · rw [if_pos (by rfl)]
              simp only [putAll, Act.put, List.setIfInBounds_toArray, List.set_cons_zero, List.set_cons_succ] at hK ⊢
              go_simp
              refine hK _ X ?_
              exact HJ.out.step (i := 1) (by simp) _ (fun u hu => by simpa using hu)
            · rw [if_pos (by rfl)]
              have e0 : y0 = .slice (some ad) M c := HJ.out.1 0 _ (hp 0 (by simp)) rfl
              subst e0
              have e1 : y1 = .int .i64 (k : Int) := HJ.out.1 1 _ (hp 1 (by simp)) rfl
              subst e1
              simp only [putAll, Act.put, List.setIfInBounds_toArray, List.set_cons_zero, List.set_cons_succ] at hK ⊢
              go_simp
              refine hK _ X ?_
              exact HJ.out.step (i := 2) (by simp) _ (fun u hu => by simpa using hu)
            · rw [if_pos (by rfl)]
              have e2 : y2 = .pointer (some (ad.add (k * 2))) := HJ.out.1 2 _ (hp 2 (by simp)) rfl
              subst e2
              have mm := HCK.out X (HB.out.trans HJ.out.2)
              have m0 := mm.1
              have m1 := mm.2
              clear mm
              simp only [putAll, Act.put, List.setIfInBounds_toArray, List.set_cons_zero, List.set_cons_succ] at hK ⊢
              go_simp
              refine hK _ X ?_
              exact HJ.out.step (i := 3) (by simp) _ (fun u hu => by simpa using hu)
            · rw [if_pos (by rfl)]
              have e3 : y3 = .agg #[.int .i64 td, .slice ta L tc] := HJ.out.1 3 _ (hp 3 (by simp)) rfl
              subst e3
              simp only [putAll, Act.put, List.setIfInBounds_toArray, List.set_cons_zero, List.set_cons_succ] at hK ⊢
              go_simp
              refine (KK.out X (HB.out.trans HJ.out.2)).mono ?_
              rintro e w3 ⟨rfl, b3⟩
              refine hK _ w3 ?_
              exact (HJ.out.below hszw b3).step (i := 4) (by simp) _ (fun u hu => by simpa using hu)
            · rw [if_pos (by rfl)]
              have e4 : y4 = .bool false := HJ.out.1 4 _ (hp 4 (by simp)) rfl
              subst e4
              simp only [putAll, Act.put, List.setIfInBounds_toArray, List.set_cons_zero, List.set_cons_succ] at hK ⊢
              go_simp
              refine hK _ X ?_
              exact HJ.out.step (i := 5) (by simp) _ (fun u hu => by simpa using hu)
            · rw [if_pos (by rfl)]
              have e5 : y5 = .bool true := HJ.out.1 5 _ (hp 5 (by simp)) rfl
              subst e5
              have e4 : y4 = .bool false := HJ.out.1 4 _ (hp 4 (by simp)) rfl
              subst e4
              simp only [putAll, Act.put, List.setIfInBounds_toArray, List.set_cons_zero, List.set_cons_succ] at hK ⊢
              go_simp
              refine hK _ X ?_
              exact HJ.out.step (i := 6) (by simp) _ (fun u hu => by simpa using hu)
            · skip
              have e6 : y6 = .bool true := HJ.out.1 6 _ (hp 6 (by simp)) rfl
              subst e6
              simp only [putAll, Act.put, List.setIfInBounds_toArray, List.set_cons_zero, List.set_cons_succ] at hK ⊢
              go_simp
              exact hK undef X (HJ.out.step (i := 7) (by simp) _ (fun u hu => by simp at hu))
            · skip
              have e6 : y6 = .bool true := HJ.out.1 6 _ (hp 6 (by simp)) rfl
              subst e6
              simp only [putAll, Act.put, List.setIfInBounds_toArray, List.set_cons_zero, List.set_cons_succ] at hK ⊢
              go_simp
              exact hK undef X (HJ.out.step (i := 8) (by simp) _ (fun u hu => by simp at hu))
            · skip
              have e6 : y6 = .bool true := HJ.out.1 6 _ (hp 6 (by simp)) rfl
              subst e6
              simp only [putAll, Act.put, List.setIfInBounds_toArray, List.set_cons_zero, List.set_cons_succ] at hK ⊢
              go_simp
              exact hK undef X (HJ.out.step (i := 9) (by simp) _ (fun u hu => by simp at hu))
            · skip
              have e6 : y6 = .bool true := HJ.out.1 6 _ (hp 6 (by simp)) rfl
              subst e6
              simp only [putAll, Act.put, List.setIfInBounds_toArray, List.set_cons_zero, List.set_cons_succ] at hK ⊢
              go_simp
              exact hK undef X (HJ.out.step (i := 10) (by simp) _ (fun u hu => by simp at hu))
            · skip
              have e6 : y6 = .bool true := HJ.out.1 6 _ (hp 6 (by simp)) rfl
              subst e6
              simp only [putAll, Act.put, List.setIfInBounds_toArray, List.set_cons_zero, List.set_cons_succ] at hK ⊢
              go_simp
              exact hK undef X (HJ.out.step (i := 11) (by simp) _ (fun u hu => by simp at hu))
            · skip
              have e6 : y6 = .bool true := HJ.out.1 6 _ (hp 6 (by simp)) rfl
              subst e6
              simp only [putAll, Act.put, List.setIfInBounds_toArray, List.set_cons_zero, List.set_cons_succ] at hK ⊢
              go_simp
              exact hK undef X (HJ.out.step (i := 12) (by simp) _ (fun u hu => by simp at hu))
            · skip
              have e6 : y6 = .bool true := HJ.out.1 6 _ (hp 6 (by simp)) rfl
              subst e6
              simp only [putAll, Act.put, List.setIfInBounds_toArray, List.set_cons_zero, List.set_cons_succ] at hK ⊢
              go_simp
              exact hK undef X (HJ.out.step (i := 13) (by simp) _ (fun u hu => by simp at hu))
            · skip
              have e6 : y6 = .bool true := HJ.out.1 6 _ (hp 6 (by simp)) rfl
              subst e6
              simp only [putAll, Act.put, List.setIfInBounds_toArray, List.set_cons_zero, List.set_cons_succ] at hK ⊢
              go_simp
              exact hK undef X (HJ.out.step (i := 14) (by simp) _ (fun u hu => by simp at hu))
            · skip
              have e6 : y6 = .bool true := HJ.out.1 6 _ (hp 6 (by simp)) rfl
              subst e6
              simp only [putAll, Act.put, List.setIfInBounds_toArray, List.set_cons_zero, List.set_cons_succ] at hK ⊢
              go_simp
              exact hK undef X (HJ.out.step (i := 15) (by simp) _ (fun u hu => by simp at hu))
            · skip
              have e6 : y6 = .bool true := HJ.out.1 6 _ (hp 6 (by simp)) rfl
              subst e6
              simp only [putAll, Act.put, List.setIfInBounds_toArray, List.set_cons_zero, List.set_cons_succ] at hK ⊢
              go_simp
              exact hK undef X (HJ.out.step (i := 16) (by simp) _ (fun u hu => by simp at hu))
            · rw [if_pos (by rfl)]
              have e6 : y6 = .bool true := HJ.out.1 6 _ (hp 6 (by simp)) rfl
              subst e6
              simp only [putAll, Act.put, List.setIfInBounds_toArray, List.set_cons_zero, List.set_cons_succ] at hK ⊢
              go_simp
              refine hK _ X ?_
              exact HJ.out.step (i := 17) (by simp) _ (fun u hu => by simpa using hu)
          · intro vs X hl hj
            obtain ⟨y0, y1, y2, y3, y4, y5, y6, y7, y8, y9, y10, y11, y12, y13, y14, y15, y16, y17, rfl⟩ := len18 hl
            have e17 : y17 = .bool true := hj.1 17 _ rfl rfl
            subst e17
            have b3 := Lib.hid (HB.out.trans hj.2)
            simp only [putAll, Act.put, List.setIfInBounds_toArray, List.set_cons_zero, List.set_cons_succ]
            clear hj
            go_wp2
            go_ret
            have hv := HV.out
            rw [hv]
            exact ⟨rfl, b3.out⟩
        | true =>
          rw [hT] at KK
          have HTT := Lib.hid (fun hd => HSK.out hT hd)
          have HBT : Hid (¬ td = d0 → av = 100) := fun h => HBK.out (fun g => h g.2)
          clear HSK hT HBK
          go_wp2
          refine wp_region_steps (AlkJ [some (.slice (some ad) M c), some (.int .i64 (k : Int)), some (.pointer (some (ad.add (k * 2)))), some (.agg #[.int .i64 td, .slice ta L tc]), some (.bool true), some (.bool false), some (.bool false), some (.slice (some ad) M c), some (.int .i64 (k : Int)), some (.pointer (some (ad.add (k * 2)))), some (.pointer (some (ad.add (k * 2)))), some (.int .i64 td), some (.slice (some ad) M c), some (.pointer (some ad)), some (.pointer (some ad)), some (.int .i64 d0), some (.bool (td != d0)), some (.bool (td != d0))] w.heap.size wr)
            [[], [], [0, 1], [2], [3], [4], [5, 4], [6], [6], [7, 8, 6], [9, 6], [10, 6], [6], [12, 6], [13, 6], [14, 6], [11, 15, 6], [6, 16]] (by kernel_rfl) (by kernel_rfl) (by kernel_rfl) (by kernel_rfl) ?_ ?_ ?_ ?_
          · rintro f g vs X hfg ⟨h1, h2⟩
            exact ⟨fun j u hj he => h1 j u ((hfg j (by have := (List.getElem?_eq_some_iff.1 he).1; simpa using this)).trans hj) he, h2⟩
          · intro vs _
            exact ⟨fun j u h => by simp at h, (Below.refl _ _).drew⟩
          · refine ⟨?_, ?_, ?_, ?_, ?_, ?_, ?_, ?_, ?_, ?_, ?_, ?_, ?_, ?_, ?_, ?_, ?_, ?_, trivial⟩
            all_goals
              intro f vs X hlen hf hp hj K hK
              obtain ⟨y0, y1, y2, y3, y4, y5, y6, y7, y8, y9, y10, y11, y12, y13, y14, y15, y16, y17, rfl⟩ := len18 hlen
              clear hlen
              have HJ := Lib.hid hj
              clear hj
            · rw [if_pos (by rfl)]
              simp only [putAll, Act.put, List.setIfInBounds_toArray, List.set_cons_zero, List.set_cons_succ] at hK ⊢
              go_simp
              refine hK _ X ?_
              exact HJ.out.step (i := 0) (by simp) _ (fun u hu => by simpa using hu)
            · rw [if_pos (by rfl)]
              simp only [putAll, Act.put, List.setIfInBounds_toArray, List.set_cons_zero, List.set_cons_succ] at hK ⊢
              go_simp
              refine hK _ X ?_
              exact HJ.out.step (i := 1) (by simp) _ (fun u hu => by simpa using hu)
            · rw [if_pos (by rfl)]
              have e0 : y0 = .slice (some ad) M c := HJ.out.1 0 _ (hp 0 (by simp)) rfl
              subst e0
              have e1 : y1 = .int .i64 (k : Int) := HJ.out.1 1 _ (hp 1 (by simp)) rfl
              subst e1
              simp only [putAll, Act.put, List.setIfInBounds_toArray, List.set_cons_zero, List.set_cons_succ] at hK ⊢
              go_simp
              refine hK _ X ?_
              exact HJ.out.step (i := 2) (by simp) _ (fun u hu => by simpa using hu)
            · rw [if_pos (by rfl)]
              have e2 : y2 = .pointer (some (ad.add (k * 2))) := HJ.out.1 2 _ (hp 2 (by simp)) rfl
              subst e2
              have mm := HCK.out X (HB.out.trans HJ.out.2)
              have m0 := mm.1
              have m1 := mm.2
              clear mm
              simp only [putAll, Act.put, List.setIfInBounds_toArray, List.set_cons_zero, List.set_cons_succ] at hK ⊢
              go_simp
              refine hK _ X ?_
              exact HJ.out.step (i := 3) (by simp) _ (fun u hu => by simpa using hu)
            · rw [if_pos (by rfl)]
              have e3 : y3 = .agg #[.int .i64 td, .slice ta L tc] := HJ.out.1 3 _ (hp 3 (by simp)) rfl
              subst e3
              simp only [putAll, Act.put, List.setIfInBounds_toArray, List.set_cons_zero, List.set_cons_succ] at hK ⊢
              go_simp
              refine (KK.out X (HB.out.trans HJ.out.2)).mono ?_
              rintro e w3 ⟨rfl, b3⟩
              refine hK _ w3 ?_
              exact (HJ.out.below hszw b3).step (i := 4) (by simp) _ (fun u hu => by simpa using hu)
            · rw [if_pos (by rfl)]
              have e4 : y4 = .bool true := HJ.out.1 4 _ (hp 4 (by simp)) rfl
              subst e4
              simp only [putAll, Act.put, List.setIfInBounds_toArray, List.set_cons_zero, List.set_cons_succ] at hK ⊢
              go_simp
              refine hK _ X ?_
              exact HJ.out.step (i := 5) (by simp) _ (fun u hu => by simpa using hu)
            · rw [if_pos (by rfl)]
              have e5 : y5 = .bool false := HJ.out.1 5 _ (hp 5 (by simp)) rfl
              subst e5
              have e4 : y4 = .bool true := HJ.out.1 4 _ (hp 4 (by simp)) rfl
              subst e4
              simp only [putAll, Act.put, List.setIfInBounds_toArray, List.set_cons_zero, List.set_cons_succ] at hK ⊢
              go_simp
              refine hK _ X ?_
              exact HJ.out.step (i := 6) (by simp) _ (fun u hu => by simpa using hu)
            · skip
              have e6 : y6 = .bool false := HJ.out.1 6 _ (hp 6 (by simp)) rfl
              subst e6
              simp only [putAll, Act.put, List.setIfInBounds_toArray, List.set_cons_zero, List.set_cons_succ] at hK ⊢
              go_simp
              refine hK _ X ?_
              exact HJ.out.step (i := 7) (by simp) _ (fun u hu => by simpa using hu)
            · skip
              have e6 : y6 = .bool false := HJ.out.1 6 _ (hp 6 (by simp)) rfl
              subst e6
              simp only [putAll, Act.put, List.setIfInBounds_toArray, List.set_cons_zero, List.set_cons_succ] at hK ⊢
              go_simp
              refine hK _ X ?_
              exact HJ.out.step (i := 8) (by simp) _ (fun u hu => by simpa using hu)
            · skip
              have e7 : y7 = .slice (some ad) M c := HJ.out.1 7 _ (hp 7 (by simp)) rfl
              subst e7
              have e8 : y8 = .int .i64 (k : Int) := HJ.out.1 8 _ (hp 8 (by simp)) rfl
              subst e8
              have e6 : y6 = .bool false := HJ.out.1 6 _ (hp 6 (by simp)) rfl
              subst e6
              simp only [putAll, Act.put, List.setIfInBounds_toArray, List.set_cons_zero, List.set_cons_succ] at hK ⊢
              go_simp
              refine hK _ X ?_
              exact HJ.out.step (i := 9) (by simp) _ (fun u hu => by simpa using hu)
            · skip
              have e9 : y9 = .pointer (some (ad.add (k * 2))) := HJ.out.1 9 _ (hp 9 (by simp)) rfl
              subst e9
              have e6 : y6 = .bool false := HJ.out.1 6 _ (hp 6 (by simp)) rfl
              subst e6
              simp only [putAll, Act.put, List.setIfInBounds_toArray, List.set_cons_zero, List.set_cons_succ] at hK ⊢
              go_simp
              refine hK _ X ?_
              exact HJ.out.step (i := 10) (by simp) _ (fun u hu => by simpa using hu)
            · skip
              have e10 : y10 = .pointer (some (ad.add (k * 2))) := HJ.out.1 10 _ (hp 10 (by simp)) rfl
              subst e10
              have e6 : y6 = .bool false := HJ.out.1 6 _ (hp 6 (by simp)) rfl
              subst e6
              have mm := HCK.out X (HB.out.trans HJ.out.2)
              have m0 := mm.1
              have m1 := mm.2
              clear mm
              simp only [putAll, Act.put, List.setIfInBounds_toArray, List.set_cons_zero, List.set_cons_succ] at hK ⊢
              go_simp
              refine hK _ X ?_
              exact HJ.out.step (i := 11) (by simp) _ (fun u hu => by simpa using hu)
            · skip
              have e6 : y6 = .bool false := HJ.out.1 6 _ (hp 6 (by simp)) rfl
              subst e6
              simp only [putAll, Act.put, List.setIfInBounds_toArray, List.set_cons_zero, List.set_cons_succ] at hK ⊢
              go_simp
              refine hK _ X ?_
              exact HJ.out.step (i := 12) (by simp) _ (fun u hu => by simpa using hu)
            · skip
              have e12 : y12 = .slice (some ad) M c := HJ.out.1 12 _ (hp 12 (by simp)) rfl
              subst e12
              have e6 : y6 = .bool false := HJ.out.1 6 _ (hp 6 (by simp)) rfl
              subst e6
              simp only [putAll, Act.put, List.setIfInBounds_toArray, List.set_cons_zero, List.set_cons_succ] at hK ⊢
              go_simp
              refine hK _ X ?_
              exact HJ.out.step (i := 13) (by simp) _ (fun u hu => by simpa using hu)
            · skip
              have e13 : y13 = .pointer (some ad) := HJ.out.1 13 _ (hp 13 (by simp)) rfl
              subst e13
              have e6 : y6 = .bool false := HJ.out.1 6 _ (hp 6 (by simp)) rfl
              subst e6
              simp only [putAll, Act.put, List.setIfInBounds_toArray, List.set_cons_zero, List.set_cons_succ] at hK ⊢
              go_simp
              refine hK _ X ?_
              exact HJ.out.step (i := 14) (by simp) _ (fun u hu => by simpa using hu)
            · skip
              have e14 : y14 = .pointer (some ad) := HJ.out.1 14 _ (hp 14 (by simp)) rfl
              subst e14
              have e6 : y6 = .bool false := HJ.out.1 6 _ (hp 6 (by simp)) rfl
              subst e6
              have m0 := HC0.out X (HB.out.trans HJ.out.2)
              simp only [putAll, Act.put, List.setIfInBounds_toArray, List.set_cons_zero, List.set_cons_succ] at hK ⊢
              go_simp
              refine hK _ X ?_
              exact HJ.out.step (i := 15) (by simp) _ (fun u hu => by simpa using hu)
            · skip
              have e11 : y11 = .int .i64 td := HJ.out.1 11 _ (hp 11 (by simp)) rfl
              subst e11
              have e15 : y15 = .int .i64 d0 := HJ.out.1 15 _ (hp 15 (by simp)) rfl
              subst e15
              have e6 : y6 = .bool false := HJ.out.1 6 _ (hp 6 (by simp)) rfl
              subst e6
              simp only [putAll, Act.put, List.setIfInBounds_toArray, List.set_cons_zero, List.set_cons_succ] at hK ⊢
              go_simp
              refine hK _ X ?_
              exact HJ.out.step (i := 16) (by simp) _ (fun u hu => by simpa using hu)
            · rw [if_pos (by rfl)]
              have e6 : y6 = .bool false := HJ.out.1 6 _ (hp 6 (by simp)) rfl
              subst e6
              have e16 : y16 = .bool (td != d0) := HJ.out.1 16 _ (hp 16 (by simp)) rfl
              subst e16
              simp only [putAll, Act.put, List.setIfInBounds_toArray, List.set_cons_zero, List.set_cons_succ] at hK ⊢
              go_simp
              refine hK _ X ?_
              exact HJ.out.step (i := 17) (by simp) _ (fun u hu => by simpa using hu)
          · intro vs X hl hj
            obtain ⟨y0, y1, y2, y3, y4, y5, y6, y7, y8, y9, y10, y11, y12, y13, y14, y15, y16, y17, rfl⟩ := len18 hl
            have e17 : y17 = .bool (td != d0) := hj.1 17 _ rfl rfl
            subst e17
            have b3 := Lib.hid (HB.out.trans hj.2)
            simp only [putAll, Act.put, List.setIfInBounds_toArray, List.set_cons_zero, List.set_cons_succ]
            clear hj
            by_cases hd : td = d0
            · have HN := Lib.hid (HTT.out hd)
              have hb : (td != d0) = false := by simpa using hd
              rw [hb]
              go_wp2
              exact ⟨⟨k + 1, by omega, by go_num, HN.out, b3.out⟩, by first | (simp [intOf]; done) | (simp [intOf]; omega)⟩
            · have HV := Lib.hid (HBT.out hd)
              have hb : (td != d0) = true := by simpa using hd
              rw [hb]
              go_wp2
              go_ret
              have hv := HV.out
              rw [hv]
              exact ⟨rfl, b3.out⟩
      · obtain rfl : k = M := by omega
        have hM0 : (0 : Int) < (k : Int) := by omega
        have HV : Hid (av = 0) := HGO.out (by rw [← HM.out]; exact HK.out)
        go_wp2
        go_ret
        have hv := HV.out
        rw [hv]
        exact ⟨rfl, HB.out⟩
/-- more than is waited for -/
def muchTs (T : List TT) : Bool := decide (30 < T.length ∨ ∃ t ∈ T, muchT t.n = true)
theorem muchTs_no {T : List TT} (h1 : T.length ≤ 30) (h2 : ∀ j, j < T.length → muchT (T.getD j tt0).n = false) : muchTs T = false := by
  refine decide_eq_false ?_
  rintro (h | ⟨t, ht, h⟩)
  · omega
  · obtain ⟨j, hj, rfl⟩ := List.mem_iff_getElem.1 ht
    have := h2 j hj
    rw [List.getD_eq_getElem?_getD, List.getElem?_eq_getElem hj, Option.getD_some, h] at this
    cases this
theorem muchTs_yes {T : List TT} {j : Nat} (hj : j < T.length) (h : muchT (T.getD j tt0).n = true) : muchTs T = true := decide_eq_true (.inr ⟨_, mem_tt hj, h⟩)
set_option maxRecDepth 100000 in
set_option maxHeartbeats 4000000 in
theorem ref_Much12 (T : List TT) (A : Option Addr) (c B : Nat) (w : World) (hl : (T.length : Int) ≤ 9223372036854775807) (hln : ∀ t ∈ T, t.n.length ≤ 9223372036854775807) (hA : LiesTs w B A T) (hB : B ≤ w.heap.size) :
    Calls Try.prog 20 #[.slice A T.length c] w fun e w' => e = .returned (.bool (muchTs T)) ∧ Below w.heap.size w w' := by
  by_cases h30 : 30 < T.length
  · have hv : muchTs T = true := decide_eq_true (.inl h30)
    rw [hv]
    have hg : (30 : Int) < (T.length : Int) := by omega
    clear hv hA h30 hln
    generalize T.length = M at *
    go_enter Try.func20, Try.ntmps20
    go_wp2
    go_ret
    exact ⟨rfl, Below.refl _ _⟩
  · have hg : (T.length : Int) ≤ 30 := by omega
    have HA := Lib.hid (fun W (h : Below w.heap.size w W) => hA.below (h.mono hB))
    have KT := Lib.hid (fun k (hk : k < T.length) W (h : Below w.heap.size w W) => ref_MuchT (T.getD k tt0).n (T.getD k tt0).dim (T.getD k tt0).a (T.getD k tt0).c B W (hln _ (mem_tt hk)) ((hA.2 _ (mem_tt hk)).below (h.mono hB)) (Nat.le_trans hB h.size))
    have HY := Lib.hid (fun j (hj : j < T.length) h => muchTs_yes hj h)
    have HN := Lib.hid (fun h => muchTs_no (T := T) (by omega) h)
    clear hA hln
    obtain ⟨M, hM⟩ : ∃ M, M = T.length := ⟨_, rfl⟩
    have HM := Lib.hid hM
    rw [← hM] at hl h30 hg ⊢
    clear hM
    generalize muchTs T = mv at *
    go_enter Try.func20, Try.ntmps20
    go_wp2
    go_loopw [3] (fun i wr => ∃ k : Nat, k ≤ M ∧ i = .int .i64 k ∧ Hid (∀ j, j < k → muchT (T.getD j tt0).n = false) ∧ Hid (Below w.heap.size w wr)) (fun i _ => M - (intOf i).toNat)
    case atStart => exact ⟨0, by omega, rfl, (fun j hj => absurd hj (by omega)), Below.refl _ _⟩
    case round =>
      obtain ⟨k, hk, rfl, HF, HB⟩ := hrel
      by_cases hlt : k < M
      · have hlg : (k : Int) < (M : Int) := by omega
        have hkT : k < T.length := by have := HM.out; omega
        obtain ⟨ad, eA, hab, ⟨c0, c1⟩, _⟩ := (HA.out wr HB.out).at hkT
        subst eA
        have KK := Lib.hid (KT.out k hkT wr HB.out)
        cases hm : muchT (T.getD k tt0).n with
        | true =>
          have HV := Lib.hid (HY.out k hkT hm)
          rw [hm] at KK
          clear hm
          generalize T.getD k tt0 = t at *
          obtain ⟨td, ta, tc, tn⟩ := t
          simp only at *
          generalize tn.length = L at *
          go_wp2_with fail
          refine KK.out.mono ?_
          rintro e w3 ⟨rfl, b3⟩
          have HB3 := Lib.hid (HB.out.trans (b3.mono HB.out.size))
          go_wp2
          go_ret
          rw [HV.out]
          exact ⟨rfl, HB3.out⟩
        | false =>
          have HF2 : Hid (∀ j, j < k + 1 → muchT (T.getD j tt0).n = false) := fun j hj => by
            by_cases e : j = k
            · rw [e]; exact hm
            · exact HF.out j (by omega)
          rw [hm] at KK
          clear hm
          generalize T.getD k tt0 = t at *
          obtain ⟨td, ta, tc, tn⟩ := t
          simp only at *
          generalize tn.length = L at *
          go_wp2_with fail
          refine KK.out.mono ?_
          rintro e w3 ⟨rfl, b3⟩
          have HB3 := Lib.hid (HB.out.trans (b3.mono HB.out.size))
          go_wp2
          exact ⟨⟨k + 1, by omega, by go_num, HF2.out, HB3.out⟩, by first | (simp [intOf]; done) | (simp [intOf]; omega)⟩
      · obtain rfl : k = M := by omega
        have HV : Hid (mv = false) := HN.out (by rw [← HM.out]; exact HF.out)
        go_wp2
        go_ret
        rw [HV.out]
        exact ⟨rfl, HB.out⟩
set_option maxRecDepth 100000 in
set_option maxHeartbeats 8000000 in
theorem ref_Sum12 (T : List TT) (A A2 : Option Addr) (x : List Int) (c c2 B : Nat) (w : World) (hl : T.length ≤ 1000000) (ho : okTs T) (hA : LiesTs w B A T) (hx : Lies w B A2 x) (hB : B ≤ w.heap.size) :
    Calls Try.prog 52 #[.slice A T.length c, .slice A2 x.length c2] w fun e w' => e = .returned (.tuple #[.int .i64 (sumV T x).1, .int .i64 (sumV T x).2]) ∧ Below w.heap.size w w' := by
  have KA := Lib.hid (ref_all12 T A c B w hl ho hA hB)
  by_cases h16 : 16 < T.length
  · have hv : sumV T x = (0, 3) := by unfold sumV; rw [if_pos h16]
    rw [hv]
    have h16' : (16 : Int) < (T.length : Int) := by omega
    clear hv hl ho hA hx h16 KA
    generalize T.length = M at *
    generalize x.length = LX at *
    go_enter Try.func52, Try.ntmps52
    go_wp2
    go_ret2
    exact ⟨by simp, Below.refl _ _⟩
  · have h16' : (T.length : Int) ≤ 16 := by omega
    by_cases h0 : alkV T = 0
    · obtain ⟨hM0, hAlk⟩ := alkV_zero h0
      have KL : Hid (∀ k (hk : k < T.length) W (h : Below w.heap.size w W), Calls Try.prog 72 #[.agg #[.int .i64 (T.getD k tt0).dim, .slice (T.getD k tt0).a (T.getD k tt0).n.length (T.getD k tt0).c], .slice A2 x.length c2] W fun e w' => e = .returned (.tuple #[.int .i64 (lenT (T.getD k tt0).n (T.getD k tt0).dim x).1, .int .i64 (lenT (T.getD k tt0).n (T.getD k tt0).dim x).2]) ∧ Below W.heap.size W w') := fun k hk W h =>
        ref_Len12 (T.getD k tt0).n (T.getD k tt0).dim (T.getD k tt0).a A2 x (T.getD k tt0).c c2 B W (by have := (ho _ (mem_tt hk)).2; omega) ((hA.2 _ (mem_tt hk)).below (h.mono hB)) (hx.below (h.mono hB)) (Nat.le_trans hB h.size)
      have KV : Hid (∀ W (h : Below w.heap.size w W), Calls Try.prog 17 #[.slice A2 x.length c2, .int .i64 (T.getD 0 tt0).dim] W fun e w' => e = .returned (.bool (isV x (T.getD 0 tt0).dim)) ∧ Below W.heap.size W w') := fun W h => (ref_is A2 x c2 B (T.getD 0 tt0).dim W (hx.below (h.mono hB))).mono fun e w' h => ⟨h.1, by rw [← h.2]; exact Below.refl _ _⟩
      have HA := Lib.hid (fun W (h : Below w.heap.size w W) => hA.below (h.mono hB))
      have HAT := Lib.hid (fun k (hk : k < T.length) => alkK_at hk hAlk)
      have HAZ : Hid (∀ W (h : Below w.heap.size w W), ∃ ad : Addr, A = some ad ∧ W.cell? ad = some (.int .i64 (T.getD 0 tt0).dim)) := fun W h => by
        obtain ⟨ad, e, _, ⟨c0, c1⟩, _⟩ := (HA.out W h).at hM0
        exact ⟨ad, e, tt_zero c0⟩
      rw [h0, decide_eq_true rfl] at KA
      by_cases hx0 : isV x (T.getD 0 tt0).dim = true
      · have hv : sumV T x = (sumK T x T.length, 0) := by unfold sumV; rw [if_neg h16, if_pos h0, if_pos hx0]
        rw [hv]
        rw [hx0] at KV
        have HSB := Lib.hid (sumK_bd T x)
        have HLB := Lib.hid (fun k => lenT_bd (T.getD k tt0).n (T.getD k tt0).dim x)
        have HSK : Hid (∀ k, sumK T x (k + 1) = sumK T x k + (lenT (T.getD k tt0).n (T.getD k tt0).dim x).1) := fun k => rfl
        have HS0 : Hid (sumK T x 0 = 0) := rfl
        clear hv hl ho hA hx hx0 hAlk HAT h0
        obtain ⟨M, hM⟩ : ∃ M, M = T.length := ⟨_, rfl⟩
        have HM := Lib.hid hM
        rw [← hM] at h16 h16' hM0 KA ⊢
        clear hM
        generalize sumK T x = sk at *
        generalize x.length = LX at *
        generalize hD0 : (T.getD 0 tt0).dim = d0 at *
        clear hD0
        simp only
        have hM0' : (0 : Int) < (M : Int) := by omega
        go_enter Try.func52, Try.ntmps52
        go_wp2_with fail
        refine KA.out.mono ?_
        rintro e w1 ⟨rfl, b1⟩
        have HB1 := Lib.hid b1
        clear b1
        obtain ⟨ad0, eA, z0⟩ := HAZ.out w1 HB1.out
        subst eA
        go_wp2_with fail
        refine (KV.out _ HB1.out).mono ?_
        rintro e w2 ⟨rfl, b2⟩
        have HB2 := Lib.hid (HB1.out.trans (b2.mono HB1.out.size))
        clear b2 z0
        go_wp2
        go_loopw [6, 7] (fun s i wr => ∃ k : Nat, k ≤ M ∧ i = .int .i64 k ∧ s = .int .i64 (sk k) ∧ Hid (Below w.heap.size w wr)) (fun _ i _ => M - (intOf i).toNat)
        case atStart => exact ⟨0, by omega, rfl, by rw [HS0.out], HB2.out⟩
        case round =>
          obtain ⟨k, hk, rfl, rfl, HB⟩ := hrel
          by_cases hlt : k < M
          · have hlg : (k : Int) < (M : Int) := by omega
            have hkT : k < T.length := by have := HM.out; omega
            obtain ⟨ad, eA, hab, ⟨c0, c1⟩, _⟩ := (HA.out wr HB.out).at hkT
            cases eA
            have KK := Lib.hid (KL.out k hkT wr HB.out)
            have hs := HSB.out k
            have hv := HLB.out k
            have HST := Lib.hid (HSK.out k)
            clear hkT
            generalize (lenT (T.getD k tt0).n (T.getD k tt0).dim x).1 = v at *
            generalize (lenT (T.getD k tt0).n (T.getD k tt0).dim x).2 = ve at *
            generalize T.getD k tt0 = t at *
            obtain ⟨td, ta, tc, tn⟩ := t
            simp only at *
            generalize tn.length = L at *
            generalize hS : sk k = s at *
            obtain ⟨hs1, hs2⟩ := hs
            obtain ⟨hv1, hv2⟩ := hv
            clear hS
            go_wp2_with fail
            refine KK.out.mono ?_
            rintro e w3 ⟨rfl, b3⟩
            have HB3 := Lib.hid (HB.out.trans (b3.mono HB.out.size))
            clear b3
            go_wp2
            exact ⟨⟨k + 1, by omega, by go_num, by rw [HST.out], HB3.out⟩, by first | (simp [intOf]; done) | (simp [intOf]; omega)⟩
          · obtain rfl : k = M := by omega
            go_wp2
            go_ret2
            exact ⟨rfl, HB.out⟩
      · have hv : sumV T x = (0, 80) := by unfold sumV; rw [if_neg h16, if_pos h0, if_neg hx0]
        rw [hv]
        have hx1 : isV x (T.getD 0 tt0).dim = false := by simpa using hx0
        rw [hx1] at KV
        clear hv hl ho hA hx hx0 hx1 hAlk HAT h0 KL HA
        generalize T.length = M at *
        generalize x.length = LX at *
        generalize (T.getD 0 tt0).dim = d0 at *
        have hM0' : (0 : Int) < (M : Int) := by omega
        go_enter Try.func52, Try.ntmps52
        go_wp2_with fail
        refine KA.out.mono ?_
        rintro e w1 ⟨rfl, b1⟩
        have HB1 := Lib.hid b1
        clear b1
        obtain ⟨ad0, eA, z0⟩ := HAZ.out w1 HB1.out
        subst eA
        go_wp2_with fail
        refine (KV.out _ HB1.out).mono ?_
        rintro e w2 ⟨rfl, b2⟩
        have HB2 := Lib.hid (HB1.out.trans (b2.mono HB1.out.size))
        go_wp2
        go_ret2
        exact ⟨by simp, HB2.out⟩
    · have hv : sumV T x = (0, 100) := by unfold sumV; rw [if_neg h16, if_neg h0]
      rw [hv]
      rw [decide_eq_false h0] at KA
      clear hv hl ho hA hx h16 h0
      generalize T.length = M at *
      generalize x.length = LX at *
      go_enter Try.func52, Try.ntmps52
      go_wp2_with fail
      refine KA.out.mono ?_
      rintro e w1 ⟨rfl, b1⟩
      have HB1 := Lib.hid b1
      clear b1
      go_wp2
      go_ret2
      exact ⟨by simp, HB1.out⟩
end Go.Proofs.Yteenemdiokajbaa
