/- Layer 4: what play gives, for the law of texts; rows of steps; Error; Steps of nil. -/
import Derived.Test.YtndofhcnjmbfeaaDoorPlyT
import Derived.Test.YtndofhcnjmbfeaaDoorFauZ
namespace Go.Proofs.YtndofhcnjmbfeaaDoor
open Go.RowKit Go.Extern.Stop Go.Stop Go.Extern
set_option linter.unusedVariables false
set_option linter.unusedSimpArgs false
set_option maxRecDepth 100000

abbrev sp0 : ByteArray × Int := (⟨#[]⟩, 0)
theorem litS_at : ∀ (l : List (ByteArray × Int)) (j : Nat), j < l.length → (litS l)[j * 2]? = some (.string (l.getD j sp0).1) ∧ (litS l)[j * 2 + 1]? = some (.int .i64 (l.getD j sp0).2)
  | [], j, h => absurd h (by simp)
  | x :: l, 0, h => ⟨rfl, rfl⟩
  | x :: l, j + 1, h => by
    have ih := litS_at l j (by simpa using h)
    have e : litS (x :: l) = [.string x.1, .int .i64 x.2] ++ litS l := rfl
    rw [e, show (j + 1) * 2 = 2 + j * 2 by omega]
    constructor
    · rw [List.getElem?_append_right (by simp), show 2 + j * 2 - [Value.string x.1, .int .i64 x.2].length = j * 2 by simp]
      simpa using ih.1
    · rw [List.getElem?_append_right (by simp; omega), show 2 + j * 2 + 1 - [Value.string x.1, .int .i64 x.2].length = j * 2 + 1 by simp; omega]
      simpa using ih.2
/-- a row of steps in the memory -/
def RowT (w : World) (v : Value) (l : List (ByteArray × Int)) (n : Nat) : Prop := ∃ ad c, v = .slice (some ad) n c ∧ ad.block < w.heap.size ∧ ∀ j, j < n → w.cell? (ad.add (j * 2)) = some (.string (l.getD j sp0).1) ∧ w.cell? ⟨(ad.add (j * 2)).block, (ad.add (j * 2)).off + 1, none⟩ = some (.int .i64 (l.getD j sp0).2)
theorem rowT_of {w : World} {B : Nat} {v : Value} {l : List (ByteArray × Int)} (h : w.ownsRow B 40 2 v l.length (litS l)) (h0 : 0 < l.length) : RowT w v l l.length := by
  obtain ⟨g, c, e, hg, hc⟩ := own_in h h0
  refine ⟨⟨g, 0, none⟩, c, e, hg, fun j hj => ?_⟩
  obtain ⟨k0, k1⟩ := litS_at l j hj
  rw [fld _ _ _ (by omega)]
  exact ⟨hc _ _ k0, hc _ _ k1⟩
theorem fau_steps_nil (w : World) : Calls Tryd.prog 12 #[.pointer none] w fun e w' => e = .returned (.slice none 0 0) ∧ w = w' := by
  go_enter Tryd.func12, Tryd.ntmps12
  go_wp2
  refine wp_loop_rounds 1 ?_
  rw [rounds_succ]
  go_wp2
  go_ret
  exact ⟨rfl, rfl⟩
theorem fau_error (t0 : FT) (b0 : Nat) (w : World) (hf : IsFault w t0 b0) (hT : Tab4 w) (h1 : 1 < w.heap.size) (hsz : size t0 ≤ 1000000) (hts : (textF t0).size ≤ 1099511627776) (hok : okT t0) :
    Calls Tryd.prog 11 #[ptr b0 0] w fun e w' => e = .returned (.string (textF t0)) ∧ Below w.heap.size w w' := by
  have K := Lib.hid (fau_text t0 b0 w hf hT h1 hsz hts hok)
  clear hf hok
  generalize textF t0 = R at *
  go_enter Tryd.func11, Tryd.ntmps11
  go_wp2_with fail
  refine K.out.mono ?_
  rintro e w1 ⟨rfl, b⟩
  go_wp2
  go_ret
  exact ⟨rfl, b⟩
theorem play_out3 {B : Nat} {W w : World} {vm vn vp : Value} {T : List FT} {bs : List Nat} {N : List Nd} {P : List Int} (h : PL B W vm vn vp T bs N P w) (hf : Fit T N P) (hl : bs.length = T.length) (h12 : T.length ≤ 12) (hG : G4 w) :
    ∃ (M : Nat) (Am : Option Addr) (cm : Nat) (An : Option Addr) (cn : Nat) (b : Nat → Nat), vm = .slice Am M cm ∧ vn = .slice An M cn ∧ M ≤ 12 ∧
      (∀ i, i < M → ∃ ad, Am = some ad ∧ ∀ W', Below w.heap.size w W' → W'.cell? (ad.add i) = some (ptr (b i) 0)) ∧
      (∀ i W', i < M → Below w.heap.size w W' → IsFault W' (T.getD i tD) (b i)) ∧
      (∀ i, i < M → size (T.getD i tD) ≤ 100000 ∧ (textF (T.getD i tD)).size ≤ 1073741824 ∧ okT (T.getD i tD)) ∧
      (∀ i W', i < M → Below w.heap.size w W' → Calls Tryd.prog 8 #[.slice An M cn, .int .i64 i] W' fun e w' => e = .returned (.int .i64 (codeF (T.getD i tD))) ∧ ∃ m, w' = W'.drewN m) ∧
      (∀ i W', i < M → Below w.heap.size w W' → Calls Tryd.prog 10 #[.slice An M cn, .int .i64 i] W' fun e w' => e = .returned (.string (textF (T.getD i tD))) ∧ Below W'.heap.size W' w') ∧
      (∀ i W', i < M → Below w.heap.size w W' → Calls Tryd.prog 13 #[.slice An M cn, .int .i64 i] W' (GivesS (stepsF (T.getD i tD)) W')) := by
  have hsz : ∀ i, i < T.length → size (T.getD i tD) ≤ 100000 ∧ (textF (T.getD i tD)).size ≤ 1073741824 ∧ okT (T.getD i tD) := fun i hi => by
    obtain ⟨h1, h3, h4⟩ := hf.2.2.2.1 i hi
    have h2 := two_pow_12 (show i < 12 by omega)
    exact ⟨by omega, by omega, h4⟩
  obtain ⟨An, cn, rfl, hN⟩ := own_liesN h.2.1
  obtain ⟨Am, cm, rfl⟩ := pc_shape h.1
  have hB := h.1
  have hF := h.2.2.2.1
  refine ⟨T.length, Am, cm, An, cn, fun i => bs.getD i 0, by rw [hl], by rw [hf.1], h12, fun i hi => ?_, fun i W' hi hb => (hF i hi).below hb, hsz, fun i W' hi hb => ?_, fun i W' hi hb => ?_, fun i W' hi hb => ?_⟩
  · obtain ⟨g, c, e, hg, hcell⟩ := own_in hB (by omega)
    simp only [Value.slice.injEq] at e
    refine ⟨⟨g, 0, none⟩, e.1, fun W' hb => (hb.cell (by rw [add_block]; exact hg)).trans (hcell i _ (litB_get bs i (by omega)))⟩
  · have := ref_code (fun i hi => (hf.2.2.1 i hi).1) hf.1 An cn w.heap.size (i + 1) i (by omega) hi W' (hN.below hb)
    rw [hf.1] at this
    exact this
  · exact ref_text (fun i hi => (hf.2.2.1 i hi).1) (fun i hi => (hf.2.2.1 i hi).2) (fun i hi => (hsz i hi).2.1) An cn T.length rfl hf.1 (i + 1) i (by omega) hi W' ((hN.below hb).mono hb.size)
  · exact ref_steps (fun i hi => (hf.2.2.1 i hi).1) (fun i hi => (hsz i hi).1) An cn T.length rfl hf.1 (i + 1) i (by omega) hi W' ((hN.below hb).mono hb.size)
end Go.Proofs.YtndofhcnjmbfeaaDoor
