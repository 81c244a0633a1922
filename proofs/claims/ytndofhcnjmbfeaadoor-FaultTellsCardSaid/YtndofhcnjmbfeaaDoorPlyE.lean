/- The reference of layer 4: Code, Codes. -/
import Derived.Test.YtndofhcnjmbfeaaDoorPlyD
namespace Go.Proofs.YtndofhcnjmbfeaaDoor
open Go.RowKit Go.Extern.Stop Go.Stop Go.Extern
set_option linter.unusedVariables false
set_option linter.unusedSimpArgs false

/-- the nodes lie in the memory, six cells each -/
def LiesN (w : World) (B : Nat) (A : Option Addr) (N : List Nd) : Prop :=
  0 < N.length → ∃ ad : Addr, A = some ad ∧ ad.block < B ∧ ∀ j, j < N.length → w.cell? (ad.add (j * 6)) = some (.int .i64 (N.getD j nd0).doo) ∧ w.cell? (ad.add (j * 6 + 1)) = some (.string (N.getD j nd0).op) ∧ w.cell? (ad.add (j * 6 + 2)) = some (.int .i64 (N.getD j nd0).at_) ∧
    w.cell? (ad.add (j * 6 + 3)) = some (.int .i64 (N.getD j nd0).code) ∧ w.cell? (ad.add (j * 6 + 4)) = some (.int .i64 (N.getD j nd0).a) ∧ w.cell? (ad.add (j * 6 + 5)) = some (.int .i64 (N.getD j nd0).b)
theorem LiesN.below {w w' : World} {B : Nat} {A : Option Addr} {N : List Nd} (h : LiesN w B A N) (hb : Below B w w') : LiesN w' B A N := fun h0 => by
  obtain ⟨ad, e, hB, hc⟩ := h h0
  refine ⟨ad, e, hB, fun j hj => ?_⟩
  obtain ⟨c0, c1, c2, c3, c4, c5⟩ := hc j hj
  have k : ∀ i, w'.cell? (ad.add i) = w.cell? (ad.add i) := fun i => hb.cell (by rw [add_block]; exact hB)
  rw [k, k, k, k, k, k]
  exact ⟨c0, c1, c2, c3, c4, c5⟩
theorem LiesN.mono {w : World} {B B' : Nat} {A : Option Addr} {N : List Nd} (h : LiesN w B A N) (hB : B ≤ B') : LiesN w B' A N := fun h0 => by
  obtain ⟨ad, e, h1, hc⟩ := h h0
  exact ⟨ad, e, Nat.lt_of_lt_of_le h1 hB, hc⟩
theorem own_liesN {w : World} {B : Nat} {v : Value} {N : List Nd} (h : w.ownsRow B 52 6 v N.length (litN N)) : ∃ A c, v = .slice A N.length c ∧ LiesN w w.heap.size A N := by
  rcases Nat.eq_zero_or_pos N.length with h0 | h0
  · obtain ⟨A, c, rfl⟩ := pc_shape h
    exact ⟨A, c, rfl, fun h1 => absurd h1 (by omega)⟩
  · have hh := h
    obtain ⟨g, c, rfl, hc, hcell⟩ := own_cells h h0
    refine ⟨_, c, rfl, fun _ => ⟨⟨g, 0, none⟩, rfl, ?_, fun j hj => ?_⟩⟩
    · rcases hh.2 with ⟨h1, _⟩ | ⟨g', cap, cur, h1, hb, hx, _⟩
      · cases h1
      · cases h1; exact (Array.getElem?_eq_some_iff.1 hx).1
    · have k := fun i (hi : i < 6) => hcell (j * 6 + i) ((ndV (N.getD j nd0))[i]'(by simp [ndV]; omega)) (by rw [litN_get N j i hj hi]; simp [ndV])
      exact ⟨k 0 (by omega), k 1 (by omega), k 2 (by omega), k 3 (by omega), k 4 (by omega), k 5 (by omega)⟩
theorem ref_code_nil (A : Option Addr) (M c : Nat) (i : Int) (hi : i < 0) (w : World) : Calls Tryd.prog 8 #[.slice A M c, .int .i64 i] w fun e w' => e = .returned (.int .i64 0) ∧ w = w' := by
  go_enter Tryd.func8, Tryd.ntmps8
  go_wp2
  go_ret
  exact ⟨rfl, rfl⟩
set_option maxRecDepth 100000 in
set_option maxHeartbeats 2000000 in
theorem ref_code {T : List FT} {N : List Nd} (hn : ∀ i, i < T.length → NdIs T i (N.getD i nd0)) (hl : N.length = T.length) (A : Option Addr) (c B : Nat) : ∀ (n : Nat) (i : Nat), i < n → i < T.length → ∀ w : World, LiesN w B A N →
    Calls Tryd.prog 8 #[.slice A N.length c, .int .i64 i] w fun e w' => e = .returned (.int .i64 (codeF (T.getD i tD))) ∧ ∃ m, w' = w.drewN m
  | 0, i, h, _, _, _ => absurd h (by omega)
  | n + 1, i, h, hi, w, hA => by
    have IH := Lib.hid (fun (j : Nat) (hj : j < i) W (hW : LiesN W B A N) => ref_code hn hl A c B n j (by omega) (by omega) W hW)
    have HA := Lib.hid hA
    obtain ⟨ad, rfl, _, hcell⟩ := hA (by omega)
    obtain ⟨c0, _, _, c3, c4, _⟩ := hcell i (by omega)
    rw [← fld ad (i * 6) _ (by omega)] at c3 c4
    have hg : (i : Int) < (N.length : Int) := by omega
    have hi0 : ¬ (i : Int) < 0 := by omega
    have hnd := hn i hi
    clear hA hcell hn hl
    generalize N.getD i nd0 = x at *
    obtain ⟨xd, xo, xt, xc, xa, xb⟩ := x
    simp only at c0 c3 c4
    rcases hnd with ⟨e1, e2, e3⟩ | ⟨e1, j, e2, e3, e4⟩ | ⟨e1, e1', j, k, e2, e2', e3, e3', e4⟩
    · simp only at e1 e3
      subst e1
      rw [e3]
      go_enter Tryd.func8, Tryd.ntmps8
      go_wp2
      go_ret
      exact ⟨rfl, 0, rfl⟩
    · simp only at e1 e3 e4
      subst e1
      subst e3
      rw [e4]
      go_enter Tryd.func8, Tryd.ntmps8
      go_wp2_with fail
      refine (IH.out j e2 _ HA.out).mono ?_
      rintro e w1 ⟨rfl, m, rfl⟩
      go_wp2
      go_ret
      exact ⟨rfl, m, rfl⟩
    · simp only at e1 e1' e3 e4
      subst e3
      rw [e4]
      have f1 : (xd == 0) = false := by simpa using e1
      go_enter Tryd.func8, Tryd.ntmps8
      go_wp2_with fail
      refine (IH.out j e2 _ HA.out).mono ?_
      rintro e w1 ⟨rfl, m, rfl⟩
      go_wp2
      go_ret
      exact ⟨rfl, m, rfl⟩

/-! ### Codes -/
def codesF : FT → List Int
  | .code _ _ c => [c]
  | .wrap _ _ t => codesF t
  | .both x y => codesF x ++ codesF y
theorem codesF_pos : ∀ t : FT, 0 < (codesF t).length
  | .code _ _ c => by simp [codesF]
  | .wrap _ _ t => codesF_pos t
  | .both x y => by have := codesF_pos x; simp only [codesF, List.length_append]; omega
theorem codesF_len : ∀ t : FT, (codesF t).length ≤ size t + 1
  | .code _ _ c => by simp [codesF, size]
  | .wrap _ _ t => by have := codesF_len t; simp only [codesF, size]; omega
  | .both x y => by have := codesF_len x; have := codesF_len y; simp only [codesF, size, List.length_append]; omega
theorem info_er : (Tryd.prog.info? 29).map (fun i => (i.zero, i.size, i.bytes)) = some (some (.int .i64 0), 1, 8) := by kernel_rfl
/-- it gives a row of codes, of the call's own -/
def GivesK (l : List Int) (w : World) (e : Ending) (w' : World) : Prop := ∃ v, e = .returned v ∧ w'.ownsRow w.heap.size 29 1 v l.length (litJ l) ∧ Below w.heap.size w w'
theorem ownsK_mono {w : World} {B B' n : Nat} {e : TypeId} {v : Value} {xs : List Value} (h : w.ownsRow B e 1 v n xs) (hB : B' ≤ B) : w.ownsRow B' e 1 v n xs := by
  refine ⟨h.1, ?_⟩
  rcases h.2 with h0 | ⟨g, cap, cur, e1, hb, hr⟩
  · exact .inl h0
  · exact .inr ⟨g, cap, cur, e1, Nat.le_trans hB hb, hr⟩
end Go.Proofs.YtndofhcnjmbfeaaDoor
