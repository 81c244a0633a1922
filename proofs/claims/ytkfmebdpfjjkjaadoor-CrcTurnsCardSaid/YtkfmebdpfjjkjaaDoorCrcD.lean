/- Layer 24 (crc): Open in the code; the reference's Seal and Open. -/
import Derived.Test.YtkfmebdpfjjkjaaDoorCrcC
import Derived.Deep.RegionWith
namespace Go.Proofs.YtkfmebdpfjjkjaaDoor
open Go.RowKit
set_option linter.unusedVariables false
set_option linter.unusedSimpArgs false

theorem lies_of_ownC {w : World} {B n : Nat} {A : Option Addr} {c : Nat} {l : List Int} (h : OwnsY w B (.slice A n c) l) : LiesY w w.heap.size A l := by
  obtain ⟨A1, c1, e1, -, -, g3, -, -⟩ := h.lies
  cases e1
  exact g3
/-- what sealed bytes hold, or why not -/
def opnC (b : List Int) : List Int × Int :=
  if b.length < 4 then ([], 210) else if b.drop (b.length - 4) = le4 (sumC (b.take (b.length - 4))) then (b.take (b.length - 4), 0) else ([], 240)
set_option maxRecDepth 100000 in
set_option maxHeartbeats 4000000 in
theorem crc_Open (b : List Int) (A : Option Addr) (c : Nat) (w : World) (hT : TabW w) (hA : LiesY w w.heap.size A b) (hb : byt b) (hl : b.length ≤ 100000) (hbc : b.length ≤ c) (hc : c ≤ 9223372036854775807) : Calls Tryd.prog 8 #[.slice A b.length c] w fun e w' => (∃ v, e = .returned (.tuple #[v, .int .i64 (opnC b).2]) ∧ OwnsY w' w.heap.size v (opnC b).1) ∧ Below w.heap.size w w' := by
  unfold opnC
  by_cases h4 : b.length < 4
  · rw [if_pos h4]
    have hg : (b.length : Int) - 4 < 0 := by omega
    clear hT hA hb
    generalize b.length = N at *
    go_enter Tryd.func8, Tryd.ntmps8
    go_wp2
    refine bodyPost_ret (v := .tuple #[.slice none 0 0, .int .i64 210]) (by simp [results, Tryd.results8, go_sem]) rfl ?_
    exact ⟨⟨_, rfl, OwnsY.nil _ _⟩, Below.refl _ _⟩
  rw [if_neg h4]
  obtain ⟨m, hm⟩ : ∃ m, m = b.length - 4 := ⟨_, rfl⟩
  rw [← hm]
  obtain ⟨ad, eA, -⟩ := hA (by omega)
  subst eA
  have hN : b.length = m + 4 := by omega
  have hlt : (b.take m).length = m := by rw [List.length_take]; omega
  have hld : (b.drop m).length = 4 := by rw [List.length_drop]; omega
  have KM : Hid (∀ W, Below w.heap.size w W → Calls Tryd.prog 19 #[.slice (some ad) m c] W fun e w' => (∃ g, e = .returned (.slice (some ⟨g, 0, none⟩) 4 4) ∧ OwnsY w' W.heap.size (.slice (some ⟨g, 0, none⟩) 4 4) (le4 (sumC (b.take m)))) ∧ Below W.heap.size W w') := fun W h => by
    have := crc_mark (b.take m) (some ad) c w.heap.size W (hT.up h) ((hA.below h).takeC m) (hb.take m) (by omega)
    rw [hlt] at this
    exact this
  have KE : Hid (∀ W g, Below w.heap.size w W → LiesY W W.heap.size (some ⟨g, 0, none⟩) (le4 (sumC (b.take m))) → Calls Tryd.prog 18 #[.slice (some ⟨g, 0, none⟩) 4 4, .slice (some (ad.add m)) 4 (c - m)] W fun e w' => e = .returned (.bool (decide (b.drop m = le4 (sumC (b.take m))))) ∧ W = w') := fun W g h h2 => by
    have := by_Equal (le4 (sumC (b.take m))) (b.drop m) (byt_le4 _) (hb.drop m) (some ⟨g, 0, none⟩) (some (ad.add m)) 4 (c - m) W.heap.size W h2 (((hA.below h).mono h.size).dropC m)
    rw [hld, le4_length] at this
    rw [show decide (b.drop m = le4 (sumC (b.take m))) = decide (le4 (sumC (b.take m)) = b.drop m) from decide_eq_decide.mpr ⟨Eq.symm, Eq.symm⟩]
    exact this
  have HT : Hid (∀ W, Below w.heap.size w W → LiesY W w.heap.size (some ad) (b.take m)) := fun W h => (hA.below h).takeC m
  have HTL := Lib.hid hlt
  have hs1 : ∀ W : World, (Instr.slice 22 (.slice (some ad) (m + 4) c) none (some (.int .i64 (m : Int))) none).run Tryd.prog W = .ok (.slice (some ad) m c) W := by
    intro W
    have : (m : Int) ≤ (c : Int) := by omega
    have hc0 : ¬ c = 0 := by omega
    simp [go_sem, Tryd.underlying22, this, hc0]
    try omega
  have hs2 : ∀ W : World, (Instr.slice 22 (.slice (some ad) (m + 4) c) (some (.int .i64 (m : Int))) none none).run Tryd.prog W = .ok (.slice (some (ad.add m)) 4 (c - m)) W := by
    intro W
    have h1 : (m : Int) ≤ (m : Int) + 4 := by omega
    have h2 : m + 4 - m = 4 := by omega
    have h3 : ¬ c - m = 0 := by omega
    have h5 : (m : Int) ≤ (c : Int) := by omega
    simp [go_sem, Tryd.underlying22, h1, h2, h3, h5]
    try omega
  have hg : ¬ (((m + 4 : Nat) : Int) - 4 < 0) := by omega
  have hms : ((m + 4 : Nat) : Int) - 4 = (m : Int) := by omega
  rw [hN]
  have hml : m ≤ 100000 := by omega
  clear hT hA hb hlt hld h4 hm hl hbc hN
  by_cases hq : b.drop m = le4 (sumC (b.take m))
  · rw [if_pos hq]
    rw [decide_eq_true hq] at KE
    clear hq
    generalize le4 (sumC (b.take m)) = M at *
    generalize b.take m = T at *
    go_enter Tryd.func8, Tryd.ntmps8
    go_wp2
    go_region_with (first | (go_at_call 19; refine Calls.mono (KM.out _ (Below.refl _ _).drew) ?_; rintro e w2 ⟨⟨g, rfl, g1⟩, g2⟩; have HB2 := Lib.hid ((Below.refl w.heap.size w).drew.trans g2); have KE2 := Lib.hid (KE.out w2 g HB2.out (lies_of_ownC g1)); clear g1 g2) | (go_at_call 18; refine Calls.mono KE2.out ?_; rintro e w3 ⟨rfl, rfl⟩))
    all_goals
      go_wp2_with (at_builtin; refine app_own (B := w.heap.size) rfl (.const (.slice none 0 0)) (.tmp 21) rfl _ [] T (some ad) c m rfl rfl HTL.out (fun h => by cases h) (OwnsY.nil _ _) (HT.out _ HB2.out) HB2.out.size (by simp; omega) ?_; intro v3 w3 g1 g2; have HO3 := Lib.hid g1; have HB3 := Lib.hid (HB2.out.trans g2); clear g1 g2)
      refine bodyPost_ret (v := .tuple #[v3, .int .i64 0]) (by simp [results, Tryd.results8, go_sem]) rfl ?_
      exact ⟨⟨_, rfl, HO3.out⟩, HB3.out⟩
  · rw [if_neg hq]
    rw [decide_eq_false hq] at KE
    clear hq
    generalize le4 (sumC (b.take m)) = M at *
    generalize b.take m = T at *
    go_enter Tryd.func8, Tryd.ntmps8
    go_wp2
    go_region_with (first | (go_at_call 19; refine Calls.mono (KM.out _ (Below.refl _ _).drew) ?_; rintro e w2 ⟨⟨g, rfl, g1⟩, g2⟩; have HB2 := Lib.hid ((Below.refl w.heap.size w).drew.trans g2); have KE2 := Lib.hid (KE.out w2 g HB2.out (lies_of_ownC g1)); clear g1 g2) | (go_at_call 18; refine Calls.mono KE2.out ?_; rintro e w3 ⟨rfl, rfl⟩))
    all_goals
      go_wp2
      refine bodyPost_ret (v := .tuple #[.slice none 0 0, .int .i64 240]) (by simp [results, Tryd.results8, go_sem]) rfl ?_
      exact ⟨⟨_, rfl, OwnsY.nil _ _⟩, HB2.out⟩
end Go.Proofs.YtkfmebdpfjjkjaaDoor
