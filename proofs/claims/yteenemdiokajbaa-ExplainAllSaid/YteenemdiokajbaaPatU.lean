/- PatI PatN PatJ PatK PatO -/
import Derived.Test.YteenemdiokajbaaPatT
import Derived.Test.YteenemdiokajbaaPickT
import Derived.Test.YteenemdiokajbaaTrA
/-! Layer 12: are the trees alike. -/
namespace Go.Proofs.Yteenemdiokajbaa
open Go.RowKit
set_option linter.unusedVariables false
set_option linter.unusedSimpArgs false

theorem len12 {vs : List Value} (h : vs.length = 12) : ∃ y0 y1 y2 y3 y4 y5 y6 y7 y8 y9 y10 y11, vs = [y0, y1, y2, y3, y4, y5, y6, y7, y8, y9, y10, y11] := by
  match vs, h with
  | [y0, y1, y2, y3, y4, y5, y6, y7, y8, y9, y10, y11], _ => exact ⟨_, _, _, _, _, _, _, _, _, _, _, _, rfl⟩
/-- what holds in the drawn region of a round -/
def AlkJ (E : List (Option Value)) (B : Nat) (W : World) (f : Nat → Bool) (vs : List Value) (X : World) : Prop := RegV E f vs ∧ Below B W X
theorem AlkJ.step {E : List (Option Value)} {B : Nat} {W : World} {f : Nat → Bool} {vs : List Value} {X : World} (h : AlkJ E B W f vs X) {i : Nat} (hi : i < vs.length) (v : Value) (hv : ∀ u, E[i]? = some (some u) → v = u) : AlkJ E B W (fun j => if j = i then true else f j) (vs.set i v) X := ⟨h.1.set hi hv, h.2⟩
theorem AlkJ.below {E : List (Option Value)} {B : Nat} {W : World} {f : Nat → Bool} {vs : List Value} {X X' : World} (h : AlkJ E B W f vs X) (hB : B ≤ W.heap.size) (hb : Below X.heap.size X X') : AlkJ E B W f vs X' := ⟨h.1, h.2.trans (hb.mono (Nat.le_trans hB h.2.size))⟩
set_option maxRecDepth 100000 in
set_option maxHeartbeats 8000000 in
theorem path_alike (T : List TT) (A : Option Addr) (c B : Nat) (w : World) (hl : T.length ≤ 1000000) (ho : okTs T) (hA : LiesTs w B A T) (hB : B ≤ w.heap.size) :
    Calls Try.prog 53 #[.slice A T.length c] w fun e w' => e = .returned (.int .i64 (alkV T)) ∧ Below w.heap.size w w' := by
  by_cases h0 : T.length = 0
  · have hv : alkV T = 100 := by unfold alkV; rw [if_pos h0]
    rw [hv, h0]
    clear hv h0 hl ho hA
    go_enter Try.func53, Try.ntmps53
    go_wp2
    go_ret
    exact ⟨rfl, Below.refl _ _⟩
  · have HA := Lib.hid (fun W (h : Below w.heap.size w W) => hA.below (h.mono hB))
    have KT := Lib.hid (fun k (hk : k < T.length) W (h : Below w.heap.size w W) => tree_isT (T.getD k tt0).n (T.getD k tt0).dim (T.getD k tt0).a (T.getD k tt0).c B W (by have := (ho _ (mem_tt hk)).2; omega) (ho _ (mem_tt hk)).1 ((hA.2 _ (mem_tt hk)).below (h.mono hB)) (Nat.le_trans hB h.size))
    have HBAD := Lib.hid (fun k (hk : k < T.length) (h : ¬ (isT (T.getD k tt0).n (T.getD k tt0).dim = true ∧ (T.getD k tt0).dim = (T.getD 0 tt0).dim)) => alkV_bad hk h)
    have HGO := Lib.hid (fun (h : alkK T T.length = true) => alkV_good (by omega) h)
    have HST : Hid (∀ k, alkK T k = true → isT (T.getD k tt0).n (T.getD k tt0).dim = true → (T.getD k tt0).dim = (T.getD 0 tt0).dim → alkK T (k + 1) = true) := fun k h1 h2 h3 => by rw [alkK, h1, h2, h3]; simp
    have h0' : 0 < T.length := by omega
    clear hA ho
    obtain ⟨M, hM⟩ : ∃ M, M = T.length := ⟨_, rfl⟩
    have HM := Lib.hid hM
    rw [← hM] at hl h0 h0' ⊢
    clear hM
    have h0f : ((M : Int) == 0) = false := by simpa using h0
    generalize alkV T = av at *
    go_enter Try.func53, Try.ntmps53
    go_wp2
    go_loopw [10] (fun i wr => ∃ k : Nat, k ≤ M ∧ i = .int .i64 k ∧ Hid (alkK T k = true) ∧ Hid (Below w.heap.size w wr)) (fun i _ => M - (intOf i).toNat)
    case atStart => exact ⟨0, by omega, rfl, (by show alkK T 0 = true; rfl), Below.refl _ _⟩
    case round =>
      obtain ⟨k, hk, rfl, HK, HB⟩ := hrel
      by_cases hlt : k < M
      · have hlg : (k : Int) < (M : Int) := by omega
        have hkT : k < T.length := by have := HM.out; omega
        have h0T : 0 < T.length := by have := HM.out; omega
        obtain ⟨ad, eA, hab, ⟨c0, c1⟩, _⟩ := (HA.out wr HB.out).at hkT
        subst eA
        have HC0 : Hid (∀ W, Below w.heap.size w W → W.cell? ad = some (.int .i64 (T.getD 0 tt0).dim)) := fun W h => by
          obtain ⟨ad', e, _, ⟨d0, _⟩, _⟩ := (HA.out W h).at h0T
          cases e
          have e2 : ad.add (0 * 2) = ad := by cases ad; simp [Addr.add]
          rw [e2] at d0
          exact d0
        have KK := Lib.hid (fun W (h : Below w.heap.size w W) => KT.out k hkT W h)
        have HBK := Lib.hid (HBAD.out k hkT)
        have HSK := Lib.hid (HST.out k HK.out)
        have HX : Hid (Kpc w.heap.size w [(wr.heap.size, #[.int .i64 (T.getD k tt0).dim, .slice (T.getD k tt0).a (T.getD k tt0).n.length (T.getD k tt0).c], 24)] (wr.alloc (.cells #[.int .i64 (T.getD k tt0).dim, .slice (T.getD k tt0).a (T.getD k tt0).n.length (T.getD k tt0).c] 24))) := (show Kpc w.heap.size w [] wr from ⟨(fun x hx => absurd hx (by simp)), HB.out, HB.out.size⟩).alloc _ _
        obtain ⟨y0, y1⟩ := box_cut HX.out.head
        clear HST HBAD KT hkT h0T
        generalize (T.getD 0 tt0).dim = d0 at *
        generalize T.getD k tt0 = t at *
        obtain ⟨td, ta, tc, tn⟩ := t
        simp only at *
        generalize hL : tn.length = L at *
        clear hL
        cases hT : isT tn td with
        | false =>
          have HV := Lib.hid (HBK.out (by rw [hT]; simp))
          rw [hT] at KK
          clear HBK HSK hT
          go_wp2
          refine wp_region_steps (AlkJ [some (.agg #[.int .i64 td, .slice ta L tc]), some (.bool false), some (.bool true), some (.bool true), none, none, none, none, none, none, none, some (.bool true)] (wr.heap.size + 1) (wr.alloc (.cells #[.int .i64 td, .slice ta L tc] 24)))
            [[], [0], [1], [2, 1], [3], [4, 3], [3], [6, 3], [7, 3], [8, 3], [5, 9, 3], [3, 10]] (by kernel_rfl) (by kernel_rfl) (by kernel_rfl) (by kernel_rfl) ?_ ?_ ?_ ?_
          · rintro f g vs X hfg ⟨h1, h2⟩
            exact ⟨fun j u hj he => h1 j u ((hfg j (by have := (List.getElem?_eq_some_iff.1 he).1; simpa using this)).trans hj) he, h2⟩
          · intro vs _
            exact ⟨fun j u h => by simp at h, (Below.refl _ _).drew⟩
          · refine ⟨?_, ?_, ?_, ?_, ?_, ?_, ?_, ?_, ?_, ?_, ?_, ?_, trivial⟩
            all_goals
              intro f vs X hlen hf hp hj K hK
              obtain ⟨y0, y1, y2, y3, y4, y5, y6, y7, y8, y9, y10, y11, rfl⟩ := len12 hlen
              clear hlen
              have HJ := Lib.hid hj
              clear hj
            · rw [if_pos (by rfl)]
              simp only [putAll, Act.put, List.setIfInBounds_toArray, List.set_cons_zero, List.set_cons_succ] at hK ⊢
              obtain ⟨m0, m1⟩ := box_cut (HX.out.head.below HJ.out.2 (by simp))
              go_simp
              refine hK _ X ?_
              exact HJ.out.step (i := 0) (by simp) _ (fun u hu => by simpa using hu)
            · rw [if_pos (by rfl)]
              simp only [putAll, Act.put, List.setIfInBounds_toArray, List.set_cons_zero, List.set_cons_succ] at hK ⊢
              have e0 : y0 = .agg #[.int .i64 td, .slice ta L tc] := HJ.out.1 0 _ (hp 0 (by simp)) rfl
              subst e0
              go_simp
              refine (KK.out X (HX.out.2.1.trans (HJ.out.2.mono (by have := HB.out.size; omega)))).mono ?_
              rintro e w3 ⟨rfl, b3⟩
              refine hK _ w3 ?_
              exact (HJ.out.below (by simp) b3).step (i := 1) (by simp) _ (fun u hu => by simpa using hu)
            · rw [if_pos (by rfl)]
              simp only [putAll, Act.put, List.setIfInBounds_toArray, List.set_cons_zero, List.set_cons_succ] at hK ⊢
              have e1 : y1 = .bool false := HJ.out.1 1 _ (hp 1 (by simp)) rfl
              subst e1
              go_simp
              refine hK _ X ?_
              exact HJ.out.step (i := 2) (by simp) _ (fun u hu => by simpa using hu)
            · rw [if_pos (by rfl)]
              simp only [putAll, Act.put, List.setIfInBounds_toArray, List.set_cons_zero, List.set_cons_succ] at hK ⊢
              have e2 : y2 = .bool true := HJ.out.1 2 _ (hp 2 (by simp)) rfl
              subst e2
              go_simp
              refine hK _ X ?_
              exact HJ.out.step (i := 3) (by simp) _ (fun u hu => by simpa using hu)
            · have e3 : y3 = .bool true := HJ.out.1 3 _ (hp 3 (by simp)) rfl
              subst e3
              simp only [putAll, Act.put, List.setIfInBounds_toArray, List.set_cons_zero, List.set_cons_succ] at hK ⊢
              go_simp
              exact hK undef X (HJ.out.step (i := 4) (by simp) _ (fun u hu => by simp at hu))
            · have e3 : y3 = .bool true := HJ.out.1 3 _ (hp 3 (by simp)) rfl
              subst e3
              simp only [putAll, Act.put, List.setIfInBounds_toArray, List.set_cons_zero, List.set_cons_succ] at hK ⊢
              go_simp
              exact hK undef X (HJ.out.step (i := 5) (by simp) _ (fun u hu => by simp at hu))
            · have e3 : y3 = .bool true := HJ.out.1 3 _ (hp 3 (by simp)) rfl
              subst e3
              simp only [putAll, Act.put, List.setIfInBounds_toArray, List.set_cons_zero, List.set_cons_succ] at hK ⊢
              go_simp
              exact hK undef X (HJ.out.step (i := 6) (by simp) _ (fun u hu => by simp at hu))
            · have e3 : y3 = .bool true := HJ.out.1 3 _ (hp 3 (by simp)) rfl
              subst e3
              simp only [putAll, Act.put, List.setIfInBounds_toArray, List.set_cons_zero, List.set_cons_succ] at hK ⊢
              go_simp
              exact hK undef X (HJ.out.step (i := 7) (by simp) _ (fun u hu => by simp at hu))
            · have e3 : y3 = .bool true := HJ.out.1 3 _ (hp 3 (by simp)) rfl
              subst e3
              simp only [putAll, Act.put, List.setIfInBounds_toArray, List.set_cons_zero, List.set_cons_succ] at hK ⊢
              go_simp
              exact hK undef X (HJ.out.step (i := 8) (by simp) _ (fun u hu => by simp at hu))
            · have e3 : y3 = .bool true := HJ.out.1 3 _ (hp 3 (by simp)) rfl
              subst e3
              simp only [putAll, Act.put, List.setIfInBounds_toArray, List.set_cons_zero, List.set_cons_succ] at hK ⊢
              go_simp
              exact hK undef X (HJ.out.step (i := 9) (by simp) _ (fun u hu => by simp at hu))
            · have e3 : y3 = .bool true := HJ.out.1 3 _ (hp 3 (by simp)) rfl
              subst e3
              simp only [putAll, Act.put, List.setIfInBounds_toArray, List.set_cons_zero, List.set_cons_succ] at hK ⊢
              go_simp
              exact hK undef X (HJ.out.step (i := 10) (by simp) _ (fun u hu => by simp at hu))
            · rw [if_pos (by rfl)]
              simp only [putAll, Act.put, List.setIfInBounds_toArray, List.set_cons_zero, List.set_cons_succ] at hK ⊢
              have e3 : y3 = .bool true := HJ.out.1 3 _ (hp 3 (by simp)) rfl
              subst e3
              go_simp
              refine hK _ X ?_
              exact HJ.out.step (i := 11) (by simp) _ (fun u hu => by simpa using hu)
          · intro vs X hl hj
            obtain ⟨y0, y1, y2, y3, y4, y5, y6, y7, y8, y9, y10, y11, rfl⟩ := len12 hl
            have e11 : y11 = .bool true := hj.1 11 _ rfl rfl
            subst e11
            have b3 := hj.2
            simp only [putAll, Act.put, List.setIfInBounds_toArray, List.set_cons_zero, List.set_cons_succ]
            go_wp2
            go_ret
            rw [HV.out]
            exact ⟨rfl, HX.out.2.1.trans (b3.mono (by have := HB.out.size; omega))⟩
        | true =>
          rw [hT] at KK
          have HTT := Lib.hid (fun hd => HSK.out hT hd)
          have HT0 := hT
          clear HSK hT
          clear HT0
          have HM2 := Lib.hid (fun X (h : Below (wr.heap.size + 1) (wr.alloc (.cells #[.int .i64 td, .slice ta L tc] 24)) X) => box_cut (HX.out.head.below h (by simp)))
          go_wp2
          refine wp_region_steps (AlkJ [some (.agg #[.int .i64 td, .slice ta L tc]), some (.bool true), some (.bool false), some (.bool false), some (.pointer (some ⟨wr.heap.size, 0, none⟩)), some (.int .i64 td), some (.slice (some ad) M c), some (.pointer (some ad)), some (.pointer (some ad)), some (.int .i64 d0), some (.bool (td != d0)), some (.bool (td != d0))] (wr.heap.size + 1) (wr.alloc (.cells #[.int .i64 td, .slice ta L tc] 24)))
            [[], [0], [1], [2, 1], [3], [4, 3], [3], [6, 3], [7, 3], [8, 3], [5, 9, 3], [3, 10]] (by kernel_rfl) (by kernel_rfl) (by kernel_rfl) (by kernel_rfl) ?_ ?_ ?_ ?_
          · rintro f g vs X hfg ⟨h1, h2⟩
            exact ⟨fun j u hj he => h1 j u ((hfg j (by have := (List.getElem?_eq_some_iff.1 he).1; simpa using this)).trans hj) he, h2⟩
          · intro vs _
            exact ⟨fun j u h => by simp at h, (Below.refl _ _).drew⟩
          · refine ⟨?_, ?_, ?_, ?_, ?_, ?_, ?_, ?_, ?_, ?_, ?_, ?_, trivial⟩
            all_goals
              intro f vs X hlen hf hp hj K hK
              obtain ⟨y0, y1, y2, y3, y4, y5, y6, y7, y8, y9, y10, y11, rfl⟩ := len12 hlen
              clear hlen
              have HJ := Lib.hid hj
              clear hj
            · rw [if_pos (by rfl)]
              have mm := HM2.out X HJ.out.2
              have m0 := mm.1
              have m1 := mm.2
              clear mm
              simp only [putAll, Act.put, List.setIfInBounds_toArray, List.set_cons_zero, List.set_cons_succ] at hK ⊢
              go_simp
              refine hK _ X ?_
              exact HJ.out.step (i := 0) (by simp) _ (fun u hu => by simpa using hu)
            · rw [if_pos (by rfl)]
              have e0 : y0 = .agg #[.int .i64 td, .slice ta L tc] := HJ.out.1 0 _ (hp 0 (by simp)) rfl
              subst e0
              simp only [putAll, Act.put, List.setIfInBounds_toArray, List.set_cons_zero, List.set_cons_succ] at hK ⊢
              go_simp
              refine (KK.out X (HX.out.2.1.trans (HJ.out.2.mono (by have := HB.out.size; omega)))).mono ?_
              rintro e w3 ⟨rfl, b3⟩
              refine hK _ w3 ?_
              exact (HJ.out.below (by simp) b3).step (i := 1) (by simp) _ (fun u hu => by simpa using hu)
            · rw [if_pos (by rfl)]
              have e1 : y1 = .bool true := HJ.out.1 1 _ (hp 1 (by simp)) rfl
              subst e1
              simp only [putAll, Act.put, List.setIfInBounds_toArray, List.set_cons_zero, List.set_cons_succ] at hK ⊢
              go_simp
              refine hK _ X ?_
              exact HJ.out.step (i := 2) (by simp) _ (fun u hu => by simpa using hu)
            · rw [if_pos (by rfl)]
              have e2 : y2 = .bool false := HJ.out.1 2 _ (hp 2 (by simp)) rfl
              subst e2
              simp only [putAll, Act.put, List.setIfInBounds_toArray, List.set_cons_zero, List.set_cons_succ] at hK ⊢
              go_simp
              refine hK _ X ?_
              exact HJ.out.step (i := 3) (by simp) _ (fun u hu => by simpa using hu)
            · skip
              have e3 : y3 = .bool false := HJ.out.1 3 _ (hp 3 (by simp)) rfl
              subst e3
              simp only [putAll, Act.put, List.setIfInBounds_toArray, List.set_cons_zero, List.set_cons_succ] at hK ⊢
              go_simp
              refine hK _ X ?_
              exact HJ.out.step (i := 4) (by simp) _ (fun u hu => by simpa using hu)
            · skip
              have e4 : y4 = .pointer (some ⟨wr.heap.size, 0, none⟩) := HJ.out.1 4 _ (hp 4 (by simp)) rfl
              subst e4
              have e3 : y3 = .bool false := HJ.out.1 3 _ (hp 3 (by simp)) rfl
              subst e3
              have mm := HM2.out X HJ.out.2
              have m0 := mm.1
              have m1 := mm.2
              clear mm
              simp only [putAll, Act.put, List.setIfInBounds_toArray, List.set_cons_zero, List.set_cons_succ] at hK ⊢
              go_simp
              refine hK _ X ?_
              exact HJ.out.step (i := 5) (by simp) _ (fun u hu => by simpa using hu)
            · skip
              have e3 : y3 = .bool false := HJ.out.1 3 _ (hp 3 (by simp)) rfl
              subst e3
              simp only [putAll, Act.put, List.setIfInBounds_toArray, List.set_cons_zero, List.set_cons_succ] at hK ⊢
              go_simp
              refine hK _ X ?_
              exact HJ.out.step (i := 6) (by simp) _ (fun u hu => by simpa using hu)
            · skip
              have e6 : y6 = .slice (some ad) M c := HJ.out.1 6 _ (hp 6 (by simp)) rfl
              subst e6
              have e3 : y3 = .bool false := HJ.out.1 3 _ (hp 3 (by simp)) rfl
              subst e3
              simp only [putAll, Act.put, List.setIfInBounds_toArray, List.set_cons_zero, List.set_cons_succ] at hK ⊢
              go_simp
              refine hK _ X ?_
              exact HJ.out.step (i := 7) (by simp) _ (fun u hu => by simpa using hu)
            · skip
              have e7 : y7 = .pointer (some ad) := HJ.out.1 7 _ (hp 7 (by simp)) rfl
              subst e7
              have e3 : y3 = .bool false := HJ.out.1 3 _ (hp 3 (by simp)) rfl
              subst e3
              simp only [putAll, Act.put, List.setIfInBounds_toArray, List.set_cons_zero, List.set_cons_succ] at hK ⊢
              go_simp
              refine hK _ X ?_
              exact HJ.out.step (i := 8) (by simp) _ (fun u hu => by simpa using hu)
            · skip
              have e8 : y8 = .pointer (some ad) := HJ.out.1 8 _ (hp 8 (by simp)) rfl
              subst e8
              have e3 : y3 = .bool false := HJ.out.1 3 _ (hp 3 (by simp)) rfl
              subst e3
              have q0 := HC0.out X (HX.out.2.1.trans (HJ.out.2.mono (by have := HB.out.size; omega)))
              simp only [putAll, Act.put, List.setIfInBounds_toArray, List.set_cons_zero, List.set_cons_succ] at hK ⊢
              go_simp
              refine hK _ X ?_
              exact HJ.out.step (i := 9) (by simp) _ (fun u hu => by simpa using hu)
            · skip
              have e5 : y5 = .int .i64 td := HJ.out.1 5 _ (hp 5 (by simp)) rfl
              subst e5
              have e9 : y9 = .int .i64 d0 := HJ.out.1 9 _ (hp 9 (by simp)) rfl
              subst e9
              have e3 : y3 = .bool false := HJ.out.1 3 _ (hp 3 (by simp)) rfl
              subst e3
              simp only [putAll, Act.put, List.setIfInBounds_toArray, List.set_cons_zero, List.set_cons_succ] at hK ⊢
              go_simp
              refine hK _ X ?_
              exact HJ.out.step (i := 10) (by simp) _ (fun u hu => by simpa using hu)
            · rw [if_pos (by rfl)]
              have e3 : y3 = .bool false := HJ.out.1 3 _ (hp 3 (by simp)) rfl
              subst e3
              have e10 : y10 = .bool (td != d0) := HJ.out.1 10 _ (hp 10 (by simp)) rfl
              subst e10
              simp only [putAll, Act.put, List.setIfInBounds_toArray, List.set_cons_zero, List.set_cons_succ] at hK ⊢
              go_simp
              refine hK _ X ?_
              exact HJ.out.step (i := 11) (by simp) _ (fun u hu => by simpa using hu)
          · intro vs X hl hj
            obtain ⟨y0, y1, y2, y3, y4, y5, y6, y7, y8, y9, y10, y11, rfl⟩ := len12 hl
            have e11 : y11 = .bool (td != d0) := hj.1 11 _ rfl rfl
            subst e11
            have b3 := Lib.hid (HX.out.2.1.trans (hj.2.mono (by have := HB.out.size; omega)))
            simp only [putAll, Act.put, List.setIfInBounds_toArray, List.set_cons_zero, List.set_cons_succ]
            clear hj
            by_cases hd : td = d0
            · have HN := Lib.hid (HTT.out hd)
              have hb : (td != d0) = false := by simpa using hd
              rw [hb]
              go_wp2
              exact ⟨⟨k + 1, by omega, by go_num, HN.out, b3.out⟩, by first | (simp [intOf]; done) | (simp [intOf]; omega)⟩
            · have HV := Lib.hid (HBK.out (fun h => hd h.2))
              have hb : (td != d0) = true := by simpa using hd
              rw [hb]
              go_wp2
              go_ret
              rw [HV.out]
              exact ⟨rfl, b3.out⟩
      · obtain rfl : k = M := by omega
        have HV : Hid (av = 0) := HGO.out (by rw [← HM.out]; exact HK.out)
        go_wp2
        go_ret
        rw [HV.out]
        exact ⟨rfl, HB.out⟩
end Go.Proofs.Yteenemdiokajbaa
/-! Layer 12: the lengths of the points are, together, the weight: numbers. -/
namespace Go.Proofs.Yteenemdiokajbaa
open Go.RowKit
set_option linter.unusedVariables false
set_option linter.unusedSimpArgs false

/-- the nodes of a subtree are those from i up to e -/
theorem seqT_in {N : List TN} {dm : Int} {i e d : Nat} (h : Sub N dm i e d) : ∀ f dep, d < f → ∀ x ∈ seqT N f i dep, i ≤ x.1 ∧ x.1 < e := by
  induction h with
  | @leaf i hi hl =>
    intro f dep hf x hx
    obtain ⟨g, rfl⟩ : ∃ g, f = g + 1 := ⟨f - 1, by omega⟩
    rw [seqT_leaf hl.1] at hx
    simp at hx
    subst hx
    exact ⟨Nat.le_refl _, Nat.lt_succ_self _⟩
  | @inner i m e d1 d2 hi hl hr hc h1 h2 hs ih1 ih2 =>
    intro f dep hf x hx
    have l1 := h1.lt
    have l2 := h2.lt
    obtain ⟨g, rfl⟩ : ∃ g, f = g + 1 := ⟨f - 1, by omega⟩
    rw [seqT_inner (by omega), hl, hr, show ((i : Int) + 1).toNat = i + 1 from by omega, Int.toNat_natCast, List.mem_cons, List.mem_append] at hx
    rcases hx with rfl | hx | hx
    · exact ⟨Nat.le_refl _, by show i < e; omega⟩
    · have := ih1 g (dep + 1) (by omega) x hx; omega
    · have := ih2 g (dep + 1) (by omega) x hx; omega
/-- the length of a leaf, nothing of another node -/
def lfE (N : List TN) (x : Nat × Nat) : Int := if (N.getD x.1 tn0).lf = 0 then lenP x.2 (N.getD x.1 tn0).sz else 0
/-- the same, where one stands -/
def onE (N : List TN) (p : Nat) (x : Nat × Nat) : Int := if p = x.1 then lfE N x else 0
theorem sum_zero {α : Type} (g : α → Int) : ∀ l : List α, (∀ x ∈ l, g x = 0) → (l.map g).sum = 0
  | [], _ => rfl
  | x :: l, h => by
    rw [List.map_cons, List.sum_cons, h x (List.mem_cons_self ..), sum_zero g l (fun y hy => h y (List.mem_cons_of_mem _ hy))]; rfl
theorem sum_same {α : Type} (g h : α → Int) : ∀ l : List α, (∀ x ∈ l, g x = h x) → (l.map g).sum = (l.map h).sum
  | [], _ => rfl
  | x :: l, H => by
    rw [List.map_cons, List.sum_cons, List.map_cons, List.sum_cons, H x (List.mem_cons_self ..), sum_same g h l (fun y hy => H y (List.mem_cons_of_mem _ hy))]
theorem sum_more {α : Type} (g h k : α → Int) : ∀ l : List α, (∀ x ∈ l, g x = h x + k x) → (l.map g).sum = (l.map h).sum + (l.map k).sum
  | [], _ => rfl
  | x :: l, H => by
    rw [List.map_cons, List.sum_cons, List.map_cons, List.sum_cons, List.map_cons, List.sum_cons, H x (List.mem_cons_self ..), sum_more g h k l (fun y hy => H y (List.mem_cons_of_mem _ hy))]
    omega
/-- the leaf that is reached, and how deep it is, is among the nodes -/
theorem at_sub {N : List TN} {dm : Int} {i e d : Nat} (h : Sub N dm i e d) (x : List Int) (hx : isV x dm = true) : ∀ f g dep, d < f → d ≤ g →
    ((dnT N x g i).1, dep + (dnT N x g i).2) ∈ seqT N f i dep ∧ (N.getD (dnT N x g i).1 tn0).lf = 0 ∧ ((seqT N f i dep).map (onE N (dnT N x g i).1)).sum = lenP ((dep + (dnT N x g i).2 : Nat) : Int) (N.getD (dnT N x g i).1 tn0).sz := by
  induction h with
  | @leaf i hi hl =>
    intro f g dep hf hg
    obtain ⟨f, rfl⟩ : ∃ k, f = k + 1 := ⟨f - 1, by omega⟩
    rw [seqT_leaf hl.1, dnT_leaf hl.1]
    refine ⟨by simp, hl.1, ?_⟩
    simp only [List.map_cons, List.map_nil, List.sum_cons, List.sum_nil, onE, lfE, if_true, if_pos hl.1]
    simp
  | @inner i m e d1 d2 hi hl hr hc h1 h2 hs ih1 ih2 =>
    intro f g dep hf hg
    have l1 := h1.lt
    have l2 := h2.lt
    obtain ⟨f, rfl⟩ : ∃ k, f = k + 1 := ⟨f - 1, by omega⟩
    obtain ⟨g, rfl⟩ : ∃ k, g = k + 1 := ⟨g - 1, by omega⟩
    rw [seqT_inner (by omega), hl, hr, show ((i : Int) + 1).toNat = i + 1 from by omega, Int.toNat_natCast, dnT_step (by omega)]
    have n1 := seqT_in h1 f (dep + 1) (by omega)
    have n2 := seqT_in h2 f (dep + 1) (by omega)
    have q1 := h1.dn x hx g
    have q2 := h2.dn x hx g
    unfold toT
    by_cases hb : lefB (N.getD i tn0).co (N.getD i tn0).lv x = true
    · rw [if_pos hb, hl, show ((i : Int) + 1).toNat = i + 1 from by omega]
      obtain ⟨a1, a2, a3⟩ := ih1 f g (dep + 1) (by omega) (by omega)
      have e1 : dep + ((dnT N x g (i + 1)).2 + 1) = dep + 1 + (dnT N x g (i + 1)).2 := by omega
      simp only
      rw [e1]
      refine ⟨List.mem_cons_of_mem _ (List.mem_append_left _ a1), a2, ?_⟩
      rw [List.map_cons, List.sum_cons, List.map_append, List.sum_append, a3, sum_zero _ (seqT N f m (dep + 1)) (fun y hy => by have := n2 y hy; unfold onE; rw [if_neg (by omega)])]
      have : onE N (dnT N x g (i + 1)).1 (i, dep) = 0 := by unfold onE; rw [if_neg (by show ¬ _ = i; omega)]
      omega
    · rw [if_neg hb, hr, Int.toNat_natCast]
      obtain ⟨a1, a2, a3⟩ := ih2 f g (dep + 1) (by omega) (by omega)
      have e1 : dep + ((dnT N x g m).2 + 1) = dep + 1 + (dnT N x g m).2 := by omega
      simp only
      rw [e1]
      refine ⟨List.mem_cons_of_mem _ (List.mem_append_right _ a1), a2, ?_⟩
      rw [List.map_cons, List.sum_cons, List.map_append, List.sum_append, a3, sum_zero _ (seqT N f (i + 1) (dep + 1)) (fun y hy => by have := n1 y hy; unfold onE; rw [if_neg (by omega)])]
      have : onE N (dnT N x g m).1 (i, dep) = 0 := by unfold onE; rw [if_neg (by show ¬ _ = i; omega)]
      omega
/-- of each point, or of each node as many times as points come to it -/
theorem sum_swap (N : List TN) (φ : Row → Nat) (L : List (Nat × Nat)) : ∀ R : List Row, (R.map (fun r => (L.map (onE N (φ r))).sum)).sum = (L.map (fun x => ((R.countP (fun r => decide (φ r = x.1)) : Nat) : Int) * lfE N x)).sum
  | [] => by
    rw [sum_zero (fun x => (([].countP (fun r => decide (φ r = x.1)) : Nat) : Int) * lfE N x) L (fun x _ => by simp)]
    rfl
  | r :: R => by
    rw [List.map_cons, List.sum_cons, sum_swap N φ L R]
    rw [sum_more (fun x => (((r :: R).countP (fun r => decide (φ r = x.1)) : Nat) : Int) * lfE N x) (onE N (φ r)) (fun x => ((R.countP (fun r => decide (φ r = x.1)) : Nat) : Int) * lfE N x) L]
    intro x _
    rw [List.countP_cons]
    unfold onE
    by_cases h : φ r = x.1
    · rw [if_pos h, if_pos (by simpa using h), Int.natCast_add, Int.add_mul]
      simp
      omega
    · rw [if_neg h, if_neg (by simpa using h)]
      simp
/-- the lengths of the points -/
def sumR (N : List TN) (dm : Int) (R : List Row) : Int := (R.map (fun r => (lenT N dm r.l).1)).sum
theorem lenT_at {N : List TN} {dm : Int} (hT : isT N dm = true) {x : List Int} (hx : isV x dm = true) : lenT N dm x = (lenP ((dnT N x N.length 0).2 : Int) (N.getD (dnT N x N.length 0).1 tn0).sz, 0) := by
  unfold lenT leafT
  rw [if_pos hT, if_pos hx, if_pos rfl]
  simp
theorem weigh_all {N : List TN} {dm : Int} (hT : isT N dm = true) (R : List Row) (hR : ∀ r ∈ R, isV r.l dm = true) (hc : ∀ i, i < N.length → ((R.countP (atL N N.length i) : Nat) : Int) = if (N.getD i tn0).lf = 0 then (N.getD i tn0).sz else 0) : sumR N dm R = wtS N (allT N dm) := by
  obtain ⟨_, _, _, d0, s0, _⟩ := isT_iff.1 hT
  have hd := s0.deep
  have hlen := isT_len hT
  unfold sumR
  rw [sum_same (fun r => (lenT N dm r.l).1) (fun r => ((allT N dm).map (onE N (dnT N r.l N.length 0).1)).sum) R]
  · rw [sum_swap N (fun r => (dnT N r.l N.length 0).1) (allT N dm) R]
    unfold wtS
    refine sum_same _ _ _ (fun x hx => ?_)
    rw [allT_yes hT] at hx
    have hb := seqT_in s0 (N.length + 1) 0 (by omega) x hx
    have h := hc x.1 hb.2
    unfold atL at h
    rw [h]
    unfold lfE wtE
    by_cases hl : (N.getD x.1 tn0).lf = 0
    · rw [if_pos hl, if_pos hl, if_pos hl, Int.mul_comm]
    · rw [if_neg hl, if_neg hl, if_neg hl]; rfl
  · intro r hr
    rw [lenT_at hT (hR r hr), allT_yes hT]
    have := (at_sub s0 r.l (hR r hr) (N.length + 1) N.length 0 (by omega) (by omega)).2.2
    rw [this]
    simp
/-- of the first k points -/
theorem sumR_step (N : List TN) (dm : Int) {R : List Row} {k : Nat} (hk : k < R.length) : sumR N dm (R.take (k + 1)) = sumR N dm (R.take k) + (lenT N dm (R.getD k row0).l).1 := by
  rw [take_row hk]
  unfold sumR
  simp
theorem lenT_bd (N : List TN) (dm : Int) (x : List Int) : 0 ≤ (lenT N dm x).1 ∧ (lenT N dm x).1 ≤ 4000000000000 := by
  unfold lenT
  by_cases h : (leafT N dm x).2.2 = 0
  · rw [if_pos h]
    refine lenP_bd ?_
    unfold leafT at h ⊢
    by_cases hT : isT N dm = true
    · have := isT_len hT
      rw [if_pos hT] at h ⊢
      by_cases hx : isV x dm = true
      · rw [if_pos hx]
        have := dnT_le N x N.length 0
        simp only
        omega
      · rw [if_neg hx]; simp
    · rw [if_neg hT]; simp
  · rw [if_neg h]; simp
theorem sumR_bd (N : List TN) (dm : Int) : ∀ R : List Row, 0 ≤ sumR N dm R ∧ sumR N dm R ≤ R.length * 4000000000000
  | [] => by simp [sumR]
  | r :: R => by
    have h1 := lenT_bd N dm r.l
    have h2 := sumR_bd N dm R
    have e : sumR N dm (r :: R) = (lenT N dm r.l).1 + sumR N dm R := by simp [sumR]
    rw [e, List.length_cons]
    omega
/-- the sizes of the leaves are, together, that of the root -/
def szE (N : List TN) (x : Nat × Nat) : Int := if (N.getD x.1 tn0).lf = 0 then (N.getD x.1 tn0).sz else 0
theorem sz_sub {N : List TN} {dm : Int} {i e d : Nat} (h : Sub N dm i e d) : ∀ f dep, d < f → ((seqT N f i dep).map (szE N)).sum = (N.getD i tn0).sz := by
  induction h with
  | @leaf i hi hl =>
    intro f dep hf
    obtain ⟨f, rfl⟩ : ∃ k, f = k + 1 := ⟨f - 1, by omega⟩
    rw [seqT_leaf hl.1]
    simp only [List.map_cons, List.map_nil, List.sum_cons, List.sum_nil, szE, if_pos hl.1]
    simp
  | @inner i m e d1 d2 hi hl hr hc h1 h2 hs ih1 ih2 =>
    intro f dep hf
    have l1 := h1.lt
    obtain ⟨f, rfl⟩ : ∃ k, f = k + 1 := ⟨f - 1, by omega⟩
    rw [seqT_inner (by omega), hl, hr, show ((i : Int) + 1).toNat = i + 1 from by omega, Int.toNat_natCast, List.map_cons, List.sum_cons, List.map_append, List.sum_append, ih1 f (dep + 1) (by omega), ih2 f (dep + 1) (by omega), hs]
    have : szE N (i, dep) = 0 := by unfold szE; rw [if_neg (by show ¬ (N.getD i tn0).lf = 0; omega)]
    omega
theorem enS_le (N : List TN) : ∀ (l : List (Nat × Nat)) (p : Int × Int), (l.foldl (enE N) p).1 ≤ p.1 ∧ p.2 ≤ (l.foldl (enE N) p).2 ∧ ∀ x ∈ l, (N.getD x.1 tn0).lf = 0 → (l.foldl (enE N) p).1 ≤ lenP x.2 (N.getD x.1 tn0).sz ∧ lenP x.2 (N.getD x.1 tn0).sz ≤ (l.foldl (enE N) p).2
  | [], p => ⟨Int.le_refl _, Int.le_refl _, fun x hx => by cases hx⟩
  | y :: l, p => by
    obtain ⟨h1, h2, h3⟩ := enS_le N l (enE N p y)
    rw [List.foldl_cons]
    have hp : (enE N p y).1 ≤ p.1 ∧ p.2 ≤ (enE N p y).2 ∧ ((N.getD y.1 tn0).lf = 0 → (enE N p y).1 ≤ lenP y.2 (N.getD y.1 tn0).sz ∧ lenP y.2 (N.getD y.1 tn0).sz ≤ (enE N p y).2) := by
      unfold enE
      by_cases h : (N.getD y.1 tn0).lf = 0
      · rw [if_pos h]; simp only; omega
      · rw [if_neg h]; exact ⟨Int.le_refl _, Int.le_refl _, fun g => absurd g h⟩
    refine ⟨by omega, by omega, fun x hx hl => ?_⟩
    rcases List.mem_cons.1 hx with rfl | hx
    · have := hp.2.2 hl; omega
    · exact h3 x hx hl
/-- the length of a vector is between the ends -/
theorem ends_at {N : List TN} {dm : Int} (hT : isT N dm = true) {x : List Int} (hx : isV x dm = true) : (enS N (allT N dm)).1 ≤ (lenT N dm x).1 ∧ (lenT N dm x).1 ≤ (enS N (allT N dm)).2 := by
  obtain ⟨_, _, _, d0, s0, _⟩ := isT_iff.1 hT
  have hd := s0.deep
  obtain ⟨a1, a2, _⟩ := at_sub s0 x hx (N.length + 1) N.length 0 (by omega) (by omega)
  rw [lenT_at hT hx, allT_yes hT]
  have := (enS_le N (seqT N (N.length + 1) 0 0) (274877906944, 0)).2.2 _ a1 a2
  rw [Nat.zero_add] at this
  exact this
theorem wt_le (N : List TN) (lo hi : Int) : ∀ l : List (Nat × Nat), (∀ x ∈ l, (N.getD x.1 tn0).lf = 0 → lo ≤ lenP x.2 (N.getD x.1 tn0).sz ∧ lenP x.2 (N.getD x.1 tn0).sz ≤ hi ∧ 0 ≤ (N.getD x.1 tn0).sz) → lo * (l.map (szE N)).sum ≤ wtS N l ∧ wtS N l ≤ hi * (l.map (szE N)).sum
  | [], _ => by simp [wtS]
  | x :: l, h => by
    have ih := wt_le N lo hi l (fun y hy => h y (List.mem_cons_of_mem _ hy))
    have e : wtS N (x :: l) = wtE N x + wtS N l := by simp [wtS]
    rw [e, List.map_cons, List.sum_cons, Int.mul_add, Int.mul_add]
    have h1 : lo * szE N x ≤ wtE N x ∧ wtE N x ≤ hi * szE N x := by
      unfold szE wtE
      by_cases hl : (N.getD x.1 tn0).lf = 0
      · obtain ⟨g1, g2, g3⟩ := h x (List.mem_cons_self ..) hl
        rw [if_pos hl, if_pos hl]
        exact ⟨Int.mul_le_mul_of_nonneg_right g1 g3, Int.mul_le_mul_of_nonneg_right g2 g3⟩
      · rw [if_neg hl, if_neg hl]; simp
    omega
/-- the weight is between the ends, times the points -/
theorem ends_wt {N : List TN} {dm : Int} (hT : isT N dm = true) : (enS N (allT N dm)).1 * (N.getD 0 tn0).sz ≤ wtS N (allT N dm) ∧ wtS N (allT N dm) ≤ (enS N (allT N dm)).2 * (N.getD 0 tn0).sz := by
  obtain ⟨_, _, _, d0, s0, _⟩ := isT_iff.1 hT
  have hd := s0.deep
  rw [allT_yes hT]
  have hs := sz_sub s0 (N.length + 1) 0 (by omega)
  rw [← hs]
  refine wt_le N _ _ _ (fun x hx hl => ?_)
  have h1 := (enS_le N (seqT N (N.length + 1) 0 0) (274877906944, 0)).2.2 x hx hl
  have h2 := seqT_in s0 (N.length + 1) 0 (by omega) x hx
  have h3 := leaves_ok hT x.1 h2.2 hl
  exact ⟨h1.1, h1.2, by omega⟩
end Go.Proofs.Yteenemdiokajbaa
/-! Layer 12: the lengths of a vector in trees, together. -/
namespace Go.Proofs.Yteenemdiokajbaa
open Go.RowKit
set_option linter.unusedVariables false
set_option linter.unusedSimpArgs false

/-- the sum of the lengths, and the error -/
def sumV (T : List TT) (x : List Int) : Int × Int :=
  if 16 < T.length then (0, 3) else if alkV T = 0 then (if isV x (T.getD 0 tt0).dim = true then (sumK T x T.length, 0) else (0, 80)) else (0, 100)
theorem sumK_bd (T : List TT) (x : List Int) : ∀ k : Nat, 0 ≤ sumK T x k ∧ sumK T x k ≤ k * 4000000000000
  | 0 => by simp [sumK]
  | k + 1 => by
    have h1 := sumK_bd T x k
    have h2 := lenT_bd (T.getD k tt0).n (T.getD k tt0).dim x
    rw [sumK]
    omega
theorem alkV_zero {T : List TT} (h : alkV T = 0) : 0 < T.length ∧ alkK T T.length = true := by
  unfold alkV at h
  by_cases h0 : T.length = 0
  · rw [if_pos h0] at h; omega
  · rw [if_neg h0] at h
    refine ⟨by omega, ?_⟩
    cases hk : alkK T T.length with
    | true => rfl
    | false => rw [hk] at h; simp at h
theorem alkV_not {T : List TT} (h : ¬ alkV T = 0) : alkV T = 100 := by
  unfold alkV at h ⊢
  split
  · rfl
  · rename_i h0
    rw [if_neg h0] at h
    split
    · rename_i h1
      rw [if_pos h1] at h
      exact absurd rfl h
    · rfl
theorem lenT_no {N : List TN} {dm : Int} (hT : isT N dm = true) {x : List Int} (hx : ¬ isV x dm = true) : lenT N dm x = (0, 80) := by
  unfold lenT leafT
  rw [if_pos hT, if_neg hx]
  rfl
theorem lenT_yes {N : List TN} {dm : Int} (hT : isT N dm = true) {x : List Int} (hx : isV x dm = true) : (lenT N dm x).2 = 0 := by rw [lenT_at hT hx]
theorem tt_zero {W : World} {ad : Addr} {v : Value} {m : Nat} (h : W.cell? (ad.add (0 * m)) = some v) : W.cell? ad = some v := by
  have e2 : ad.add (0 * m) = ad := by cases ad; simp [Addr.add]
  rw [e2] at h
  exact h
set_option maxRecDepth 100000 in
set_option maxHeartbeats 8000000 in
theorem path_Sum (T : List TT) (A A2 : Option Addr) (x : List Int) (c c2 B : Nat) (w : World) (hl : T.length ≤ 1000000) (ho : okTs T) (hA : LiesTs w B A T) (hx : Lies w B A2 x) (hxl : (x.length : Int) ≤ 9223372036854775807) (hxc : x.length ≤ c2) (hB : B ≤ w.heap.size) :
    Calls Try.prog 25 #[.slice A T.length c, .slice A2 x.length c2] w fun e w' => e = .returned (.tuple #[.int .i64 (sumV T x).1, .int .i64 (sumV T x).2]) ∧ Below w.heap.size w w' := by
  have KA := Lib.hid (path_alike T A c B w hl ho hA hB)
  by_cases h16 : 16 < T.length
  · have hv : sumV T x = (0, 3) := by unfold sumV; rw [if_pos h16]
    rw [hv]
    have h16' : (16 : Int) < (T.length : Int) := by omega
    clear hv hl ho hA hx h16 KA
    generalize T.length = M at *
    generalize x.length = LX at *
    go_enter Try.func25, Try.ntmps25
    go_wp2
    go_ret2
    exact ⟨by simp, Below.refl _ _⟩
  · have h16' : (T.length : Int) ≤ 16 := by omega
    by_cases h0 : alkV T = 0
    · obtain ⟨hM0, hAlk⟩ := alkV_zero h0
      have KL : Hid (∀ k (hk : k < T.length) W (h : Below w.heap.size w W), Calls Try.prog 54 #[.agg #[.int .i64 (T.getD k tt0).dim, .slice (T.getD k tt0).a (T.getD k tt0).n.length (T.getD k tt0).c], .slice A2 x.length c2] W fun e w' => e = .returned (.tuple #[.int .i64 (lenT (T.getD k tt0).n (T.getD k tt0).dim x).1, .int .i64 (lenT (T.getD k tt0).n (T.getD k tt0).dim x).2]) ∧ Below W.heap.size W w') := fun k hk W h =>
        path_Length (T.getD k tt0).n (T.getD k tt0).dim (T.getD k tt0).a A2 x (T.getD k tt0).c c2 B W (by have := (ho _ (mem_tt hk)).2; omega) (ho _ (mem_tt hk)).1 ((hA.2 _ (mem_tt hk)).below (h.mono hB)) (hx.below (h.mono hB)) hxl hxc (Nat.le_trans hB h.size)
      have HA := Lib.hid (fun W (h : Below w.heap.size w W) => hA.below (h.mono hB))
      have HAT := Lib.hid (fun k (hk : k < T.length) => alkK_at hk hAlk)
      rw [h0] at KA
      by_cases hx0 : isV x (T.getD 0 tt0).dim = true
      · have hv : sumV T x = (sumK T x T.length, 0) := by unfold sumV; rw [if_neg h16, if_pos h0, if_pos hx0]
        rw [hv]
        have HE : Hid (∀ k, k < T.length → (lenT (T.getD k tt0).n (T.getD k tt0).dim x).2 = 0) := fun k hk => lenT_yes (HAT.out k hk).1 (by rw [(HAT.out k hk).2]; exact hx0)
        have HSB := Lib.hid (sumK_bd T x)
        have HLB := Lib.hid (fun k => lenT_bd (T.getD k tt0).n (T.getD k tt0).dim x)
        have HSK : Hid (∀ k, sumK T x (k + 1) = sumK T x k + (lenT (T.getD k tt0).n (T.getD k tt0).dim x).1) := fun k => rfl
        have HS0 : Hid (sumK T x 0 = 0) := rfl
        clear hv hl ho hA hx hx0 hAlk HAT h0
        obtain ⟨M, hM⟩ : ∃ M, M = T.length := ⟨_, rfl⟩
        have HM := Lib.hid hM
        rw [← hM] at h16 h16' hM0 KA ⊢
        clear hM
        generalize sumK T x = sk at *
        generalize x.length = LX at *
        simp only
        go_enter Try.func25, Try.ntmps25
        go_wp2_with fail
        refine KA.out.mono ?_
        rintro e w1 ⟨rfl, b1⟩
        have HB1 := Lib.hid b1
        clear b1
        go_wp2
        go_loopw [7, 22] (fun s i wr => ∃ k : Nat, k ≤ M ∧ i = .int .i64 k ∧ s = .int .i64 (sk k) ∧ Hid (Below w.heap.size w wr)) (fun _ i _ => M - (intOf i).toNat)
        case atStart => exact ⟨0, by omega, rfl, by rw [HS0.out], HB1.out⟩
        case round =>
          obtain ⟨k, hk, rfl, rfl, HB⟩ := hrel
          by_cases hlt : k < M
          · have hlg : (k : Int) < (M : Int) := by omega
            have hkT : k < T.length := by have := HM.out; omega
            obtain ⟨ad, eA, hab, ⟨c0, c1⟩, _⟩ := (HA.out wr HB.out).at hkT
            subst eA
            have KK := Lib.hid (fun W (h : Below w.heap.size w W) => KL.out k hkT W h)
            have he := HE.out k hkT
            rw [he] at KK
            have hs := HSB.out k
            have hv := HLB.out k
            have hst := HSK.out k
            have HX : Hid (Kpc w.heap.size w [(wr.heap.size, #[.int .i64 (T.getD k tt0).dim, .slice (T.getD k tt0).a (T.getD k tt0).n.length (T.getD k tt0).c], 24)] (wr.alloc (.cells #[.int .i64 (T.getD k tt0).dim, .slice (T.getD k tt0).a (T.getD k tt0).n.length (T.getD k tt0).c] 24))) := (show Kpc w.heap.size w [] wr from ⟨(fun x hx => absurd hx (by simp)), HB.out, HB.out.size⟩).alloc _ _
            obtain ⟨y0, y1⟩ := box_cut HX.out.head
            have HST := Lib.hid hst
            clear he hst hkT
            generalize (lenT (T.getD k tt0).n (T.getD k tt0).dim x).1 = v at *
            generalize T.getD k tt0 = t at *
            obtain ⟨td, ta, tc, tn⟩ := t
            simp only at *
            generalize tn.length = L at *
            generalize hS : sk k = s at *
            obtain ⟨hs1, hs2⟩ := hs
            obtain ⟨hv1, hv2⟩ := hv
            clear hS
            go_wp2_with fail
            refine (KK.out _ HX.out.2.1).mono ?_
            rintro e w3 ⟨rfl, b3⟩
            have J := Lib.hid (HX.out.below b3)
            clear b3 y0 y1
            go_wp2
            exact ⟨⟨k + 1, by omega, by go_num, by rw [HST.out], J.out.2.1⟩, by first | (simp [intOf]; done) | (simp [intOf]; omega)⟩
          · obtain rfl : k = M := by omega
            go_wp2
            go_ret2
            exact ⟨rfl, HB.out⟩
      · have hv : sumV T x = (0, 80) := by unfold sumV; rw [if_neg h16, if_pos h0, if_neg hx0]
        rw [hv]
        have KK : Hid (∀ W (h : Below w.heap.size w W), Calls Try.prog 54 #[.agg #[.int .i64 (T.getD 0 tt0).dim, .slice (T.getD 0 tt0).a (T.getD 0 tt0).n.length (T.getD 0 tt0).c], .slice A2 x.length c2] W fun e w' => e = .returned (.tuple #[.int .i64 0, .int .i64 80]) ∧ Below W.heap.size W w') := fun W h => by
          have := KL.out 0 hM0 W h
          rw [lenT_no (HAT.out 0 hM0).1 hx0] at this
          exact this
        have HAZ : Hid (∀ W (h : Below w.heap.size w W), ∃ ad : Addr, A = some ad ∧ W.cell? ad = some (.int .i64 (T.getD 0 tt0).dim) ∧ W.cell? ⟨ad.block, ad.off + 1, none⟩ = some (.slice (T.getD 0 tt0).a (T.getD 0 tt0).n.length (T.getD 0 tt0).c)) := fun W h => by
          obtain ⟨ad, e, _, ⟨c0, c1⟩, _⟩ := (HA.out W h).at hM0
          have e2 : ad.add (0 * 2) = ad := by cases ad; simp [Addr.add]
          rw [e2] at c0 c1
          exact ⟨ad, e, c0, c1⟩
        clear hv hl ho hA hx hx0 hAlk HAT h0 KL HA
        obtain ⟨M, hM⟩ : ∃ M, M = T.length := ⟨_, rfl⟩
        rw [← hM] at h16 h16' hM0 KA ⊢
        clear hM
        generalize x.length = LX at *
        generalize T.getD 0 tt0 = t at *
        obtain ⟨td, ta, tc, tn⟩ := t
        simp only at *
        generalize tn.length = L at *
        go_enter Try.func25, Try.ntmps25
        go_wp2_with fail
        refine KA.out.mono ?_
        rintro e w1 ⟨rfl, b1⟩
        have HB1 := Lib.hid b1
        clear b1
        go_wp2
        go_loopw [7, 22] (fun s i wr => i = .int .i64 0 ∧ s = .int .i64 0 ∧ Hid (Below w.heap.size w wr)) (fun _ i _ => 0)
        case atStart => exact ⟨rfl, rfl, HB1.out⟩
        case round =>
          obtain ⟨rfl, rfl, HB⟩ := hrel
          have hlg : (0 : Int) < (M : Int) := by omega
          obtain ⟨ad, eA, c0, c1⟩ := HAZ.out wr HB.out
          subst eA
          have HX : Hid (Kpc w.heap.size w [(wr.heap.size, #[.int .i64 td, .slice ta L tc], 24)] (wr.alloc (.cells #[.int .i64 td, .slice ta L tc] 24))) := (show Kpc w.heap.size w [] wr from ⟨(fun x hx => absurd hx (by simp)), HB.out, HB.out.size⟩).alloc _ _
          obtain ⟨y0, y1⟩ := box_cut HX.out.head
          go_wp2_with fail
          refine (KK.out _ HX.out.2.1).mono ?_
          rintro e w3 ⟨rfl, b3⟩
          have J := Lib.hid (HX.out.below b3)
          clear b3 y0 y1
          go_wp2
          go_ret2
          exact ⟨by simp, J.out.2.1⟩
    · have hv : sumV T x = (0, 100) := by unfold sumV; rw [if_neg h16, if_neg h0]
      rw [hv]
      rw [alkV_not h0] at KA
      clear hv hl ho hA hx h16 h0
      generalize T.length = M at *
      generalize x.length = LX at *
      go_enter Try.func25, Try.ntmps25
      go_wp2_with fail
      refine KA.out.mono ?_
      rintro e w1 ⟨rfl, b1⟩
      have HB1 := Lib.hid b1
      clear b1
      go_wp2
      go_ret2
      exact ⟨by simp, HB1.out⟩
end Go.Proofs.Yteenemdiokajbaa
/-! Layer 12: the way of a vector in a tree. -/
namespace Go.Proofs.Yteenemdiokajbaa
open Go.RowKit
set_option linter.unusedVariables false
set_option linter.unusedSimpArgs false

/-- the nodes on the way of x from node i, in at most so many steps -/
def wayT (N : List TN) (x : List Int) : Nat → Nat → List Int
  | 0, i => [(i : Int)]
  | f + 1, i => if (N.getD i tn0).lf = 0 then [(i : Int)] else (i : Int) :: wayT N x f (toT (N.getD i tn0) x).toNat
theorem wayT_leaf {N : List TN} {x : List Int} {i : Nat} (h : (N.getD i tn0).lf = 0) : ∀ f, wayT N x f i = [(i : Int)]
  | 0 => rfl
  | f + 1 => by rw [wayT, if_pos h]
theorem wayT_step {N : List TN} {x : List Int} {i f : Nat} (h : ¬ (N.getD i tn0).lf = 0) : wayT N x (f + 1) i = (i : Int) :: wayT N x f (toT (N.getD i tn0) x).toNat := by rw [wayT, if_neg h]
/-- the answer of Trail: the nodes, the error -/
def trailV (N : List TN) (dim : Int) (x : List Int) : List Int × Int :=
  if isT N dim = true then (if isV x dim = true then (wayT N x N.length 0, 0) else ([], 80)) else ([], 100)
/-- it gives a row of these numbers, and that error -/
def GivesTr (r : List Int × Int) (w : World) (e : Ending) (w' : World) : Prop :=
  ∃ A c, e = .returned (.tuple #[.slice A r.1.length c, .int .i64 r.2]) ∧ r.1.length ≤ c ∧ c ≤ maxLen ∧ Lies w' w'.heap.size A r.1 ∧ Below w.heap.size w w'
/-- the same, and the row is a new one -/
def GivesTrN (r : List Int × Int) (w : World) (e : Ending) (w' : World) : Prop :=
  ∃ A c, e = .returned (.tuple #[.slice A r.1.length c, .int .i64 r.2]) ∧ r.1.length ≤ c ∧ c ≤ maxLen ∧ Lies w' w'.heap.size A r.1 ∧ Below w.heap.size w w' ∧ New w A
theorem givesTrN_nil {w w' : World} {z : Int} (h : Below w.heap.size w w') : GivesTrN ([], z) w (.returned (.tuple #[.slice none 0 0, .int .i64 z])) w' :=
  ⟨none, 0, rfl, Nat.le_refl _, by unfold maxLen; omega, (fun h1 => absurd h1 (by simp)), h, fun _ e => by cases e⟩
theorem givesTr_nil {w w' : World} {z : Int} (h : Below w.heap.size w w') : GivesTr ([], z) w (.returned (.tuple #[.slice none 0 0, .int .i64 z])) w' :=
  ⟨none, 0, rfl, Nat.le_refl _, by unfold maxLen; omega, fun h1 => absurd h1 (by simp), h⟩
def slLen : Value → Nat
  | .slice _ n _ => n
  | _ => 0
theorem own_slLen {w : World} {B : Nat} {v : Value} {l : List Int} (h : w.ownsRow B 3 1 v l.length (litI l)) : slLen v = l.length := by
  obtain ⟨A, c, rfl, _⟩ := lies_ownI h
  rfl
/-- the last number of a row of the call's own -/
theorem own_lastP {w : World} {B : Nat} {v : Value} {acc : List Int} {x : Int} {k : Nat} (h : w.ownsRow B 3 1 v (acc ++ [x]).length (litI (acc ++ [x]))) (hk : acc.length = k) :
    ∃ g c, v = .slice (some ⟨g, 0, none⟩) (k + 1) c ∧ w.cell? ⟨g, k, none⟩ = some (.int .i64 x) ∧ (k : Int) < ((k + 1 : Nat) : Int) := by
  obtain ⟨g, c, e, hB, hc, hO⟩ := own_to h (by simp)
  refine ⟨g, c, by rw [e, List.length_append, List.length_singleton, hk], ?_, by omega⟩
  have := hO.cell (k := k) (by simp; omega)
  rw [this]
  subst hk
  simp [List.getD]
theorem ownI_one (w : World) (z : Int) {B : Nat} (hB : B ≤ w.heap.size) : (w.alloc (.cells #[.int .i64 z] 3)).ownsRow B 3 1 (.slice (some ⟨w.heap.size, 0, none⟩) 1 1) [z].length (litI [z]) :=
  World.ownsRow_lit w #[.int .i64 z] 1 hB (by unfold maxLen; omega) rfl
theorem Sub.pos {N : List TN} {dm : Int} {i e d : Nat} (h : Sub N dm i e d) (hl : ¬ (N.getD i tn0).lf = 0) : 0 < (N.getD i tn0).lf := by
  cases h with
  | leaf hi h1 => exact absurd h1.1 hl
  | inner hi h1 hr hc h1' h2' hs => omega
set_option maxRecDepth 100000 in
set_option maxHeartbeats 8000000 in
theorem path_TrailN (N : List TN) (dim : Int) (A A2 : Option Addr) (x : List Int) (c c2 B : Nat) (w : World) (hl : N.length ≤ 100000) (ho : okT N) (hA : LiesT w B A N) (hx : Lies w B A2 x) (hxl : (x.length : Int) ≤ 9223372036854775807) (hxc : x.length ≤ c2) (hB : B ≤ w.heap.size) :
    Calls Try.prog 49 #[.agg #[.int .i64 dim, .slice A N.length c], .slice A2 x.length c2] w (GivesTrN (trailV N dim x) w) := by
  have HX := Lib.hid ((Kpc.start w).alloc #[.int .i64 dim, .slice A N.length c] 24)
  obtain ⟨y0, y1⟩ := box_cut HX.out.head
  have KT : Hid (∀ W (h : Below w.heap.size w W), Calls Try.prog 66 #[.agg #[.int .i64 dim, .slice A N.length c]] W fun e w' => e = .returned (.bool (isT N dim)) ∧ Below W.heap.size W w') := fun W h => tree_isT N dim A c B W hl ho (hA.below (h.mono hB)) (Nat.le_trans hB h.size)
  have KV : Hid (∀ W (h : Below w.heap.size w W), Calls Try.prog 67 #[.slice A2 x.length c2, .int .i64 dim] W fun e w' => e = .returned (.bool (isV x dim)) ∧ Below W.heap.size W w') := fun W h => (vec_is A2 x c2 B dim W (hx.below (h.mono hB)) hxl hxc).mono fun e w' h => ⟨h.1, qdb h.2⟩
  by_cases h1 : isT N dim = true
  · by_cases h2 : isV x dim = true
    · have hlen := isT_len h1
      have hv : trailV N dim x = (wayT N x N.length 0, 0) := by unfold trailV; rw [if_pos h1, if_pos h2]
      rw [hv]
      obtain ⟨WT, hZ⟩ : ∃ WT, WT = wayT N x N.length 0 := ⟨_, rfl⟩
      rw [← hZ]
      have HZ := Lib.hid hZ
      obtain ⟨_, _, _, d0, s0, _⟩ := isT_iff.1 h1
      have hd0 := s0.deep
      have HS0 := Lib.hid s0
      have HGO : Hid (∀ i e d, Sub N dim i e d → ¬ (N.getD i tn0).lf = 0 → ∃ t e' d' : Nat, toT (N.getD i tn0) x = (t : Int) ∧ Sub N dim t e' d' ∧ d' < d ∧ t < N.length ∧ lefC (N.getD i tn0).co (N.getD i tn0).lv x = 0) := fun i e d h hlf => h.go x h2 hlf
      rw [h1] at KT
      rw [h2] at KV
      obtain ⟨ad, e0, hab, -, -⟩ := hA.at (k := 0) (by omega)
      subst e0
      have HC : Hid (∀ W (h : Below w.heap.size w W) k (hk : k < N.length), W.cell? (ad.add (k * 5)) = some (.slice (N.getD k tn0).a (N.getD k tn0).co.length (N.getD k tn0).c) ∧ W.cell? ⟨(ad.add (k * 5)).block, (ad.add (k * 5)).off + 1, none⟩ = some (.int .i64 (N.getD k tn0).lv) ∧ W.cell? ⟨(ad.add (k * 5)).block, (ad.add (k * 5)).off + 2, none⟩ = some (.int .i64 (N.getD k tn0).lf) ∧ W.cell? ⟨(ad.add (k * 5)).block, (ad.add (k * 5)).off + 3, none⟩ = some (.int .i64 (N.getD k tn0).rt) ∧ W.cell? ⟨(ad.add (k * 5)).block, (ad.add (k * 5)).off + 4, none⟩ = some (.int .i64 (N.getD k tn0).sz)) := fun W h k hk => by
        obtain ⟨ad', e, _, hc, _⟩ := (hA.below (h.mono hB)).at hk
        cases e; exact hc
      have HC0 : Hid (∀ W (h : Below w.heap.size w W), W.cell? ad = some (.slice (N.getD 0 tn0).a (N.getD 0 tn0).co.length (N.getD 0 tn0).c) ∧ W.cell? ⟨ad.block, ad.off + 1, none⟩ = some (.int .i64 (N.getD 0 tn0).lv) ∧ W.cell? ⟨ad.block, ad.off + 2, none⟩ = some (.int .i64 (N.getD 0 tn0).lf) ∧ W.cell? ⟨ad.block, ad.off + 3, none⟩ = some (.int .i64 (N.getD 0 tn0).rt) ∧ W.cell? ⟨ad.block, ad.off + 4, none⟩ = some (.int .i64 (N.getD 0 tn0).sz)) := fun W h => by
        have hc := HC.out W h 0 (by omega)
        have e2 : ad.add (0 * 5) = ad := by cases ad; simp [Addr.add]
        rw [e2] at hc
        exact hc
      have KL : Hid (∀ k (hk : k < N.length) W (h : Below w.heap.size w W), Calls Try.prog 68 #[.agg #[.slice (N.getD k tn0).a (N.getD k tn0).co.length (N.getD k tn0).c, .int .i64 (N.getD k tn0).lv], .slice A2 x.length c2] W fun e w' => e = .returned (.tuple #[.bool (lefB (N.getD k tn0).co (N.getD k tn0).lv x), .int .i64 (lefC (N.getD k tn0).co (N.getD k tn0).lv x)]) ∧ Below W.heap.size W w') := fun k hk W h =>
        cut_Left (N.getD k tn0).a A2 (N.getD k tn0).co x (N.getD k tn0).c c2 B (N.getD k tn0).lv W ((hA.2 _ (mem_tn hk)).below (h.mono hB)) (hx.below (h.mono hB)) (Nat.le_trans hB h.size) (by have := ho _ (mem_tn hk); omega) hxl (ho _ (mem_tn hk)).1 hxc
      clear hZ hv s0 h1 h2 hA ho hx
      generalize hM : N.length = M at *
      clear hM
      generalize x.length = LX at *
      have hM0 : (0 : Int) < (M : Int) := by omega
      go_enter Try.func49, Try.ntmps49
      go_wp2_with fail
      refine (KT.out _ HX.out.2.1).mono ?_
      rintro e w1 ⟨rfl, b1⟩
      have J := Lib.hid (HX.out.below b1)
      clear b1 y0 y1
      obtain ⟨y0, y1⟩ := box_cut J.out.head
      go_wp2_with fail
      refine (KV.out _ J.out.2.1).mono ?_
      rintro e w2 ⟨rfl, b2⟩
      have J2 := Lib.hid (J.out.below b2)
      clear b2 y0 y1
      have hsz2 := J2.out.2.2
      have HO2 := Lib.hid (ownI_one w2 0 hsz2)
      have J3 := Lib.hid (J2.out.alloc #[.int .i64 0] 3)
      obtain ⟨y0, y1⟩ := box_cut J3.out.tail.head
      obtain ⟨c0, c1, c2', c3, c4⟩ := HC0.out _ J3.out.2.1
      have J4 := Lib.hid (J3.out.alloc (ndC (N.getD 0 tn0)) 81)
      have HO4 := Lib.hid (ownI_below HO2.out ((Below.refl _ _).alloc (Nat.le_refl _) (.cells (ndC (N.getD 0 tn0)) 81)))
      rw [alloc_size'] at J4
      unfold ndC at J4 HO4
      go_wp2
      go_loopw [6, 7] (fun v p wr => ∃ (i f e d b : Nat) (q : List Int), i < M ∧ d < f ∧ q.length + 1 + d ≤ M ∧ p = .pointer (some ⟨b, 0, none⟩) ∧ Hid (Sub N dim i e d) ∧ Hid (WT = q ++ wayT N x f i) ∧ Hid (wr.ownsRow w.heap.size 3 1 v (q ++ [(i : Int)]).length (litI (q ++ [(i : Int)]))) ∧ Hid (Kpc w.heap.size w [(b, ndC (N.getD i tn0), 81), (w.heap.size, #[.int .i64 dim, .slice (some ad) M c], 24)] wr)) (fun v _ _ => M - slLen v)
      case atStart =>
        refine ⟨0, M, M, d0, w2.heap.size + 1, [], by omega, by omega, by simp; omega, rfl, HS0.out, HZ.out, HO4.out, ?_⟩
        show Kpc _ _ _ _
        unfold ndC
        exact ⟨fun x hx => J4.out.1 x (by simp at hx ⊢; rcases hx with rfl | rfl <;> simp), J4.out.2⟩
      case round =>
        obtain ⟨i, f, e, d, b, q, hi, hd, hq, rfl, HS, HQ, HO, HK⟩ := hrel
        obtain ⟨z0, z1, z2, z3, z4⟩ := box5' HK.out.head
        obtain ⟨y0, y1⟩ := box_cut HK.out.tail.head
        by_cases hlf : (N.getD i tn0).lf = 0
        · have HW : Hid (WT = q ++ [(i : Int)]) := by
            show _ = _
            rw [HQ.out, wayT_leaf hlf]
          rw [hlf] at z2
          obtain ⟨g9, c9, rfl, hB9, _, _⟩ := own_to HO.out (by simp)
          obtain ⟨A', c', e', g1, g2, g3⟩ := lies_ownI HO.out
          cases e'
          clear hlf
          generalize N.getD i tn0 = n at *
          go_wp2
          go_ret2
          rw [HW.out]
          exact ⟨_, _, by simp, g1, g2, g3, HK.out.2.1, fun ad e => by cases e; exact hB9⟩
        · obtain ⟨t, e', d', hT, hS', hd', ht, hE⟩ := HGO.out i e d HS.out hlf
          have hpos := HS.out.pos hlf
          obtain ⟨f, rfl⟩ : ∃ g, f = g + 1 := ⟨f - 1, by omega⟩
          have HQ2 : Hid (WT = (q ++ [(i : Int)]) ++ wayT N x f t) := by
            show _ = _
            rw [HQ.out, wayT_step hlf, hT, Int.toNat_natCast]
            simp
          have HS2 := Lib.hid hS'
          have hSL := Lib.hid (own_slLen HO.out)
          have K := Lib.hid (fun W h => KL.out i hi W h)
          rw [hE] at K
          unfold toT at hT
          have hll : (q ++ [(i : Int)]).length + 1 ≤ 1000000000 := by simp; omega
          have hq2 : (q ++ [(i : Int)]).length = q.length + 1 := by simp
          have HKK : Hid (∀ (W W' : World), Kpc w.heap.size w [(b, ndC (N.getD i tn0), 81), (w.heap.size, #[.int .i64 dim, .slice (some ad) M c], 24)] W → Below w.heap.size W W' → (∀ (g : Nat) (cs : Array Value) (T : TypeId), T ≠ 3 → Box W g cs T → Box W' g cs T) → Kpc w.heap.size w [(b, ndC (N.getD i tn0), 81), (w.heap.size, #[.int .i64 dim, .slice (some ad) M c], 24)] W') := fun W W' h hb hk => by
            refine ⟨fun x hx => ?_, h.2.1.trans hb, Nat.le_trans h.2.2 hb.size⟩
            refine hk _ _ _ ?_ (h.1 x hx)
            simp at hx
            rcases hx with rfl | rfl
            · show ¬ 81 = 3; decide
            · show ¬ 24 = 3; decide
          have hn0 : ((N.getD i tn0).lf != 0) = true := by simpa using hlf
          clear hS' hE HQ HS
          unfold ndC at HK HKK
          generalize hN : N.getD i tn0 = n at *
          clear hN
          obtain ⟨na, nc, nco, nlv, nlf, nrt, nsz⟩ := n
          simp only at *
          by_cases hb : lefB nco nlv x = true
          · rw [if_pos hb] at hT
            rw [hb] at K
            subst hT
            clear hb
            go_wp2_with fail
            refine (K.out _ HK.out.2.1).mono ?_
            rintro r w3 ⟨rfl, b3⟩
            have J3 := Lib.hid (HK.out.below b3)
            have HO3 := Lib.hid (ownI_below HO.out b3)
            clear b3 y0 y1 z0 z1 z2 z3 z4
            obtain ⟨z0, z1, z2, z3, z4⟩ := box5' J3.out.head
            have hsz := J3.out.2.2
            have HSTEP : Hid (∀ v' w4, w4.ownsRow w.heap.size 3 1 v' (q ++ [(i : Int)] ++ [(t : Int)]).length (litI (q ++ [(i : Int)] ++ [(t : Int)])) → Below w.heap.size w3 w4 → (∀ (g : Nat) (cs : Array Value) (T : TypeId), T ≠ 3 → Box w3 g cs T → Box w4 g cs T) →
                ∃ g6 c6, v' = .slice (some ⟨g6, 0, none⟩) (q.length + 1 + 1) c6 ∧ Hid (Kpc w.heap.size w [(b, #[.slice na nco.length nc, .int .i64 nlv, .int .i64 t, .int .i64 nrt, .int .i64 nsz], 81), (w.heap.size, #[.int .i64 dim, .slice (some ad) M c], 24)] w4) ∧ Hid (Kpc w.heap.size w [(w4.heap.size, #[.slice na nco.length nc, .int .i64 nlv, .int .i64 t, .int .i64 nrt, .int .i64 nsz], 81), (b, #[.slice na nco.length nc, .int .i64 nlv, .int .i64 t, .int .i64 nrt, .int .i64 nsz], 81), (w.heap.size, #[.int .i64 dim, .slice (some ad) M c], 24)] (w4.alloc (.cells #[.slice na nco.length nc, .int .i64 nlv, .int .i64 t, .int .i64 nrt, .int .i64 nsz] 81))) ∧ Hid ((w4.alloc (.cells #[.slice na nco.length nc, .int .i64 nlv, .int .i64 t, .int .i64 nrt, .int .i64 nsz] 81)).ownsRow w.heap.size 3 1 v' (q ++ [(i : Int)] ++ [(t : Int)]).length (litI (q ++ [(i : Int)] ++ [(t : Int)]))) ∧ (w4.alloc (.cells #[.slice na nco.length nc, .int .i64 nlv, .int .i64 t, .int .i64 nrt, .int .i64 nsz] 81)).cell? ⟨g6, q.length + 1, none⟩ = some (.int .i64 t)) := fun v' w4 h1 h2 h3 => by
              have k1 := HKK.out w3 w4 J3.out h2 h3
              have k2 := k1.alloc #[.slice na nco.length nc, .int .i64 nlv, .int .i64 t, .int .i64 nrt, .int .i64 nsz] 81
              have k3 := ownI_below h1 ((Below.refl _ _).alloc (Nat.le_refl _) (.cells #[.slice na nco.length nc, .int .i64 nlv, .int .i64 t, .int .i64 nrt, .int .i64 nsz] 81))
              obtain ⟨g6, c6, e6, u6, _⟩ := own_lastP k3 hq2
              exact ⟨g6, c6, e6, k1, k2, k3, u6⟩
            go_wp2_with (at_builtin; refine app_int rfl (.tmp 54) (.tmp 57) rfl _ (q ++ [(i : Int)]) (t : Int) rfl HO3.out rfl hsz hll ?_; intro v' w4 hown4 hb4 hk4; obtain ⟨g6, c6, rfl, J4, J5, HO5, u6⟩ := HSTEP.out v' w4 hown4 hb4 hk4; obtain ⟨m0, m1, m2, m3, m4⟩ := box5' J4.out.head; obtain ⟨l0, l1⟩ := box_cut J5.out.tail.tail.head; obtain ⟨n0, n1, n2, n3, n4⟩ := HC.out _ J5.out.2.1 t ht)
            go_region
            go_wp2
            refine ⟨⟨t, f, e', d', w4.heap.size, q ++ [(i : Int)], ht, by omega, by omega, rfl, HS2.out, HQ2.out, ownI_below hown4 (((Below.refl _ _).alloc (Nat.le_refl _) _).drew), ?_⟩, by rw [hSL.out]; simp [slLen]; omega⟩
            have k2 := J4.out.alloc (ndC (N.getD t tn0)) 81
            exact ⟨fun x hx => k2.1 x (by simp at hx ⊢; rcases hx with rfl | rfl <;> simp), k2.2.1.drew, k2.2.2⟩
          · have hb' : lefB nco nlv x = false := by simpa using hb
            rw [if_neg hb] at hT
            rw [hb'] at K
            subst hT
            clear hb hb'
            go_wp2_with fail
            refine (K.out _ HK.out.2.1).mono ?_
            rintro r w3 ⟨rfl, b3⟩
            have J3 := Lib.hid (HK.out.below b3)
            have HO3 := Lib.hid (ownI_below HO.out b3)
            clear b3 y0 y1 z0 z1 z2 z3 z4
            obtain ⟨z0, z1, z2, z3, z4⟩ := box5' J3.out.head
            have hsz := J3.out.2.2
            have HSTEP : Hid (∀ v' w4, w4.ownsRow w.heap.size 3 1 v' (q ++ [(i : Int)] ++ [(t : Int)]).length (litI (q ++ [(i : Int)] ++ [(t : Int)])) → Below w.heap.size w3 w4 → (∀ (g : Nat) (cs : Array Value) (T : TypeId), T ≠ 3 → Box w3 g cs T → Box w4 g cs T) →
                ∃ g6 c6, v' = .slice (some ⟨g6, 0, none⟩) (q.length + 1 + 1) c6 ∧ Hid (Kpc w.heap.size w [(b, #[.slice na nco.length nc, .int .i64 nlv, .int .i64 nlf, .int .i64 t, .int .i64 nsz], 81), (w.heap.size, #[.int .i64 dim, .slice (some ad) M c], 24)] w4) ∧ Hid (Kpc w.heap.size w [(w4.heap.size, #[.slice na nco.length nc, .int .i64 nlv, .int .i64 nlf, .int .i64 t, .int .i64 nsz], 81), (b, #[.slice na nco.length nc, .int .i64 nlv, .int .i64 nlf, .int .i64 t, .int .i64 nsz], 81), (w.heap.size, #[.int .i64 dim, .slice (some ad) M c], 24)] (w4.alloc (.cells #[.slice na nco.length nc, .int .i64 nlv, .int .i64 nlf, .int .i64 t, .int .i64 nsz] 81))) ∧ Hid ((w4.alloc (.cells #[.slice na nco.length nc, .int .i64 nlv, .int .i64 nlf, .int .i64 t, .int .i64 nsz] 81)).ownsRow w.heap.size 3 1 v' (q ++ [(i : Int)] ++ [(t : Int)]).length (litI (q ++ [(i : Int)] ++ [(t : Int)]))) ∧ (w4.alloc (.cells #[.slice na nco.length nc, .int .i64 nlv, .int .i64 nlf, .int .i64 t, .int .i64 nsz] 81)).cell? ⟨g6, q.length + 1, none⟩ = some (.int .i64 t)) := fun v' w4 h1 h2 h3 => by
              have k1 := HKK.out w3 w4 J3.out h2 h3
              have k2 := k1.alloc #[.slice na nco.length nc, .int .i64 nlv, .int .i64 nlf, .int .i64 t, .int .i64 nsz] 81
              have k3 := ownI_below h1 ((Below.refl _ _).alloc (Nat.le_refl _) (.cells #[.slice na nco.length nc, .int .i64 nlv, .int .i64 nlf, .int .i64 t, .int .i64 nsz] 81))
              obtain ⟨g6, c6, e6, u6, _⟩ := own_lastP k3 hq2
              exact ⟨g6, c6, e6, k1, k2, k3, u6⟩
            go_wp2_with (at_builtin; refine app_int rfl (.tmp 43) (.tmp 46) rfl _ (q ++ [(i : Int)]) (t : Int) rfl HO3.out rfl hsz hll ?_; intro v' w4 hown4 hb4 hk4; obtain ⟨g6, c6, rfl, J4, J5, HO5, u6⟩ := HSTEP.out v' w4 hown4 hb4 hk4; obtain ⟨m0, m1, m2, m3, m4⟩ := box5' J4.out.head; obtain ⟨l0, l1⟩ := box_cut J5.out.tail.tail.head; obtain ⟨n0, n1, n2, n3, n4⟩ := HC.out _ J5.out.2.1 t ht)
            go_region
            go_wp2
            refine ⟨⟨t, f, e', d', w4.heap.size, q ++ [(i : Int)], ht, by omega, by omega, rfl, HS2.out, HQ2.out, ownI_below hown4 (((Below.refl _ _).alloc (Nat.le_refl _) _).drew), ?_⟩, by rw [hSL.out]; simp [slLen]; omega⟩
            have k2 := J4.out.alloc (ndC (N.getD t tn0)) 81
            exact ⟨fun x hx => k2.1 x (by simp at hx ⊢; rcases hx with rfl | rfl <;> simp), k2.2.1.drew, k2.2.2⟩
    · have hv : trailV N dim x = ([], 80) := by unfold trailV; rw [if_pos h1, if_neg h2]
      rw [hv]
      rw [h1] at KT
      have hb : isV x dim = false := by simpa using h2
      rw [hb] at KV
      clear hA hx ho h1 h2 hb hv
      generalize N.length = M at *
      generalize x.length = LX at *
      go_enter Try.func49, Try.ntmps49
      go_wp2_with fail
      refine (KT.out _ HX.out.2.1).mono ?_
      rintro e w1 ⟨rfl, b1⟩
      have J := Lib.hid (HX.out.below b1)
      clear b1 y0 y1
      obtain ⟨y0, y1⟩ := box_cut J.out.head
      go_wp2_with fail
      refine (KV.out _ J.out.2.1).mono ?_
      rintro e w2 ⟨rfl, b2⟩
      have J2 := Lib.hid (J.out.below b2)
      clear b2 y0 y1
      go_wp2
      go_ret2
      exact givesTrN_nil J2.out.2.1
  · have hv : trailV N dim x = ([], 100) := by unfold trailV; rw [if_neg h1]
    have hb : isT N dim = false := by simpa using h1
    rw [hv]
    rw [hb] at KT
    clear hA hx ho h1 hb hv
    generalize N.length = M at *
    generalize x.length = LX at *
    go_enter Try.func49, Try.ntmps49
    go_wp2_with fail
    refine (KT.out _ HX.out.2.1).mono ?_
    rintro e w1 ⟨rfl, b1⟩
    have J := Lib.hid (HX.out.below b1)
    clear b1 y0 y1
    go_wp2
    go_ret2
    exact givesTrN_nil J.out.2.1
theorem path_Trail (N : List TN) (dim : Int) (A A2 : Option Addr) (x : List Int) (c c2 B : Nat) (w : World) (hl : N.length ≤ 100000) (ho : okT N) (hA : LiesT w B A N) (hx : Lies w B A2 x) (hxl : (x.length : Int) ≤ 9223372036854775807) (hxc : x.length ≤ c2) (hB : B ≤ w.heap.size) :
    Calls Try.prog 49 #[.agg #[.int .i64 dim, .slice A N.length c], .slice A2 x.length c2] w (GivesTr (trailV N dim x) w) :=
  (path_TrailN N dim A A2 x c c2 B w hl ho hA hx hxl hxc hB).mono fun e w' ⟨A', c', h1, h2, h3, h4, h5, _⟩ => ⟨A', c', h1, h2, h3, h4, h5⟩
end Go.Proofs.Yteenemdiokajbaa
/-! Layer 12: what lives. -/
namespace Go.Proofs.Yteenemdiokajbaa
open Go.RowKit
set_option linter.unusedVariables false
set_option linter.unusedSimpArgs false

abbrev N3 (a : Option Addr) : List TN := [⟨a, 1, [1], 3, 1, 2, 3⟩, ⟨none, 0, [], 0, 0, 0, 2⟩, ⟨none, 0, [], 0, 0, 0, 1⟩]
theorem n3_is (a : Option Addr) : isT (N3 a) 1 = true := by kernel_rfl
theorem nm2 : normN (heldN 2) = 1073741824 := by decide +kernel
theorem nm1 : normN (heldN 1) = 0 := by decide +kernel
theorem lp2 : lenP 1 2 = 2147483648 := by unfold lenP; rw [nm2]; rfl
theorem lp1 : lenP 1 1 = 1073741824 := by unfold lenP; rw [nm1]; rfl
theorem n3_len (a : Option Addr) : lenT (N3 a) 1 [2] = (2147483648, 0) := by
  unfold lenT
  rw [show leafT (N3 a) 1 [2] = (1, 1, 0) from by kernel_rfl, if_pos rfl]
  show (lenP 1 2, (0 : Int)) = _
  rw [lp2]
theorem n3_len3 (a : Option Addr) : lenT (N3 a) 1 [3] = (1073741824, 0) := by
  unfold lenT
  rw [show leafT (N3 a) 1 [3] = (2, 1, 0) from by kernel_rfl, if_pos rfl]
  show (lenP 1 1, (0 : Int)) = _
  rw [lp1]
theorem n3_trail (a : Option Addr) : trailV (N3 a) 1 [3] = ([0, 2], 0) := by kernel_rfl
theorem n3_all (a : Option Addr) : allT (N3 a) 1 = [(0, 0), (1, 1), (2, 1)] := by kernel_rfl
theorem n3_ends (a : Option Addr) : enS (N3 a) (allT (N3 a) 1) = (1073741824, 2147483648) := by
  rw [n3_all]
  have e1 : ∀ p, enE (N3 a) p (0, 0) = p := fun p => if_neg (show ¬ (1 : Int) = 0 by omega)
  have e2 : ∀ p, enE (N3 a) p (1, 1) = (min p.1 (lenP 1 2), max p.2 (lenP 1 2)) := fun p => if_pos rfl
  have e3 : ∀ p, enE (N3 a) p (2, 1) = (min p.1 (lenP 1 1), max p.2 (lenP 1 1)) := fun p => if_pos rfl
  unfold enS
  simp only [List.foldl_cons, List.foldl_nil]
  rw [e1, e2, e3, lp1, lp2]
  decide +kernel
theorem n3_wt (a : Option Addr) : wtS (N3 a) (allT (N3 a) 1) = 5368709120 := by
  rw [n3_all]
  have e1 : wtE (N3 a) (0, 0) = 0 := if_neg (show ¬ (1 : Int) = 0 by omega)
  have e2 : wtE (N3 a) (1, 1) = lenP 1 2 * 2 := if_pos rfl
  have e3 : wtE (N3 a) (2, 1) = lenP 1 1 * 1 := if_pos rfl
  unfold wtS
  simp only [List.map_cons, List.map_nil, List.sum_cons, List.sum_nil]
  rw [e1, e2, e3, lp1, lp2]
  decide +kernel
theorem n3_sum (a b : Option Addr) : sumV [⟨1, b, 3, N3 a⟩, ⟨1, b, 3, N3 a⟩] [3] = (2147483648, 0) := by
  have e1 : alkV [⟨1, b, 3, N3 a⟩, ⟨1, b, 3, N3 a⟩] = 0 := by kernel_rfl
  have e2 : sumK [⟨1, b, 3, N3 a⟩, ⟨1, b, 3, N3 a⟩] [3] 2 = 0 + (lenT (N3 a) 1 [3]).1 + (lenT (N3 a) 1 [3]).1 := rfl
  unfold sumV
  rw [if_neg (show ¬ 16 < [(⟨1, b, 3, N3 a⟩ : TT), ⟨1, b, 3, N3 a⟩].length by simp), if_pos e1, if_pos (show isV [3] ([(⟨1, b, 3, N3 a⟩ : TT), ⟨1, b, 3, N3 a⟩].getD 0 tt0).dim = true by kernel_rfl)]
  show (sumK [⟨1, b, 3, N3 a⟩, ⟨1, b, 3, N3 a⟩] [3] 2, (0 : Int)) = _
  rw [e2, n3_len3]
  rfl
theorem n0_sum : sumV [] [] = (0, 100) := by kernel_rfl
theorem n3_ok (a : Option Addr) : okT (N3 a) := by
  intro n hn
  simp at hn
  rcases hn with rfl | rfl | rfl <;> simp [I64]
theorem n3_lies {w : World} {g1 g3 : Nat} {cs : Array Value} (h1 : Box w g1 #[.int .i64 1] 3) (h3 : Box w g3 cs 81) (hc : cs = (ndL (N3 (some ⟨g1, 0, none⟩))).toArray) : LiesT w w.heap.size (some ⟨g3, 0, none⟩) (N3 (some ⟨g1, 0, none⟩)) := by
  subst hc
  refine ⟨fun _ => ⟨⟨g3, 0, none⟩, rfl, h3.lt, fun k hk => ?_⟩, fun n hn => ?_⟩
  · have hk2 : (N3 (some ⟨g1, 0, none⟩))[k]? = some ((N3 (some ⟨g1, 0, none⟩)).getD k tn0) := by rw [List.getD_eq_getElem?_getD, List.getElem?_eq_getElem hk]; rfl
    have key : ∀ j, j < 5 → w.cell? ((⟨g3, 0, none⟩ : Addr).add (k * 5 + j)) = (ndC ((N3 (some ⟨g1, 0, none⟩)).getD k tn0)).toList[j]? := fun j hj => by
      rw [cell_add, h3.cell, ← flat_get _ 5 ndC_len j hj (N3 (some ⟨g1, 0, none⟩)) k _ hk2]
      simp [ndL]
    exact ⟨key 0 (by omega), key 1 (by omega), key 2 (by omega), key 3 (by omega), key 4 (by omega)⟩
  · simp at hn
    rcases hn with rfl | rfl | rfl
    · exact boxLies h1 rfl
    · exact fun h0 => absurd h0 (by simp)
    · exact fun h0 => absurd h0 (by simp)
theorem below_self {w w' : World} (h : Below w.heap.size w w') {o : Obj} : Below w.heap.size w (w'.alloc o) := h.alloc h.size o
/-- two trees, side by side -/
theorem two_tt {W : World} {g : Nat} {A : Option Addr} {N : List TN} (h : Box W g #[.int .i64 1, .slice A 3 3, .int .i64 1, .slice A 3 3] 24) (hN : N.length = 3) (hl : LiesT W W.heap.size A N) : LiesTs W W.heap.size (some ⟨g, 0, none⟩) [⟨1, A, 3, N⟩, ⟨1, A, 3, N⟩] := by
  refine ⟨fun _ => ⟨⟨g, 0, none⟩, rfl, h.lt, fun j hj => ?_⟩, fun t ht => ?_⟩
  · have e1 : ∀ m, (⟨g, 0, none⟩ : Addr).add m = ⟨g, m, none⟩ := fun m => by unfold Addr.add; split <;> simp_all
    rw [e1]
    match j, hj with
    | 0, _ => exact ⟨by rw [h.cell]; simp, by rw [h.cell]; simp [hN]⟩
    | 1, _ => exact ⟨by rw [h.cell]; simp, by rw [h.cell]; simp [hN]⟩
    | k + 2, hj => exact absurd hj (by simp)
  · simp at ht
    subst ht
    exact hl
end Go.Proofs.Yteenemdiokajbaa
