import Derived.Test.YtkkeejbgaaodeaaTreeI

/-! Layer 10: the points with these indices. -/
namespace Go.Proofs.Ytkkeejbgaaodeaa
open Go.RowKit
set_option linter.unusedVariables false
set_option linter.unusedSimpArgs false

theorem lies_atT {w : World} {B : Nat} {A : Option Addr} {l : List Int} (h : Lies w B A l) {k : Nat} (hk : k < l.length) :
    ∃ ad : Addr, A = some ad ∧ ad.block < B ∧ w.cell? (ad.add k) = some (.int .i64 (l.getD k 0)) := by
  obtain ⟨ad, e, hb, hc⟩ := h (by omega)
  exact ⟨ad, e, hb, hc k hk⟩
/-- the rows at these indices -/
def selR (R : List Row) (I : List Int) : List Row := I.map fun i => R.getD i.toNat row0
theorem selR_len (R : List Row) (I : List Int) : (selR R I).length = I.length := by simp [selR]
theorem selR_at (R : List Row) (I : List Int) {j : Nat} (h : j < I.length) : (selR R I).getD j row0 = R.getD (I.getD j 0).toNat row0 := by
  simp [selR, List.getD, List.getElem?_map, h]
theorem selR_of {R : List Row} {I : List Int} {S : List Row} (h1 : S.length = I.length) (h2 : ∀ j, j < I.length → S.getD j row0 = R.getD (I.getD j 0).toNat row0) : S = selR R I := by
  apply List.ext_getElem (by rw [h1, selR_len])
  intro j g1 g2
  have h3 := h2 j (by omega)
  rw [← selR_at R I (by omega)] at h3
  simpa [List.getD, g1, g2] using h3
/-- block g holds these rows -/
def OwnR (w : World) (g : Nat) (S : List Row) : Prop := Box w g (S.map rowV).toArray 35
theorem OwnR.at {w : World} {g : Nat} {S : List Row} (h : OwnR w g S) {k : Nat} (hk : k < S.length) : w.cell? ⟨g, k, none⟩ = some (rowV (S.getD k row0)) := by
  refine (Box.cell h k).trans ?_
  simp [List.getD, hk]
theorem OwnR.set {w : World} {g : Nat} {S : List Row} (h : OwnR w g S) (k : Nat) (r : Row) : OwnR (w.setCell ⟨g, k, none⟩ (rowV r)) g (S.set k r) := by
  have := Box.set h k (rowV r)
  simp only [List.setIfInBounds_toArray] at this
  rw [← List.map_set] at this
  exact this
theorem OwnR.free {w : World} {g : Nat} {S : List Row} (h : OwnR w g S) (i : Nat) : w.frozen? ⟨g, i, none⟩ = false := Box.free h i
theorem OwnR.below {w w' : World} {g : Nat} {S : List Row} (h : OwnR w g S) (hb : Below w.heap.size w w') : OwnR w' g S := Box.below h hb h.lt
theorem info_row : (Try.prog.info? 35).map (fun i => (i.zero, i.size, i.bytes)) = some (some (.slice none 0 0), 1, 24) := by kernel_rfl
/-- a new row of nil rows -/
theorem make_rows {wr : World} {ops : Array Oper} {rest : List Oper} {o : Oper} {a : Act} {Q : Exit → Act → World → Prop} (hgd : o.guard = none) (l c : Operand)
    (ho : o.op = Op.makeSlice 28 l c) (n : Nat) (hl : a.eval l = .int .i64 n) (hc : a.eval c = .int .i64 n) (hn : n ≤ 1000000)
    (h : ∀ w', OwnR w' wr.heap.size (List.replicate n row0) → Below wr.heap.size wr w' → wpList Try.prog ops Q rest (a.put o.dst (.slice (some ⟨wr.heap.size, 0, none⟩) n n)) w') :
    wpList Try.prog ops Q (o :: rest) a wr := by
  obtain ⟨i0, hi, hz0, hz1, hz2⟩ := info_parts5 info_row
  refine wpList_make_full wr hgd l c 28 ho wr.heap.size 35 i0 (.slice none 0 0) 1 Try.underlying28 hi hz0 hz1 .i64 .i64 n n n hl hc rfl rfl (by rw [hz2]; omega) (by unfold maxLen; omega) (Nat.le_refl _) ?_
  intro w' h1 h2
  refine h w' ?_ ((Below.refl _ _).grown h2 (Nat.le_refl _) (fun k hk => by cases hk))
  have hm : (madeCells (Value.slice none 0 0).cells (n * 1)).toList = (List.replicate n row0).map rowV := by
    rw [Nat.mul_one]
    refine (toList_madeCells_one _ n).trans ?_
    simp [rowV]
  rw [hm] at h1
  rcases h1.2 with ⟨e, _⟩ | ⟨g, cap, cur, e, hb, hh, hnc, hm, hsz, hx⟩
  · cases e
  · cases e
    have : cur = ((List.replicate n row0).map rowV).toArray := by
      rw [← hx]
      apply Array.ext'
      simp only [List.toList_toArray]
      rw [List.take_of_length_le (by simp [hsz])]
    subst this
    exact hh
set_option maxRecDepth 100000 in
set_option maxHeartbeats 2000000 in
theorem tree_chosen (R : List Row) (I : List Int) (A AI : Option Addr) (c cI B : Nat) (w : World) (hA : LiesR w B A R) (hI : Lies w B AI I) (hB : B ≤ w.heap.size) (hin : ∀ j, j < I.length → 0 ≤ I.getD j 0 ∧ I.getD j 0 < R.length) (hl : I.length ≤ 100000) :
    Calls Try.prog 78 #[.slice A R.length c, .slice AI I.length cI] w fun e w' => e = .returned (.slice (some ⟨w.heap.size, 0, none⟩) I.length I.length) ∧ OwnR w' w.heap.size (selR R I) ∧ Below w.heap.size w w' := by
  have HA := Lib.hid (fun W (h : Below w.heap.size w W) k (hk : k < R.length) => (hA.below (h.mono hB)).at (k := k) hk)
  have HI := Lib.hid (fun W (h : Below w.heap.size w W) k (hk : k < I.length) => lies_atT (hI.below (h.mono hB)) (k := k) hk)
  have HIN := Lib.hid hin
  have HSEL : Hid (∀ S : List Row, S.length = I.length → (∀ j, j < I.length → S.getD j row0 = R.getD (I.getD j 0).toNat row0) → S = selR R I) := fun S h1 h2 => selR_of h1 h2
  generalize selR R I = T at *
  clear hA hI hin
  generalize I.length = n at *
  generalize R.length = M at *
  go_enter Try.func78, Try.ntmps78
  go_wp2_with (at_make; refine make_rows rfl (.tmp 9) (.tmp 9) rfl n rfl rfl (by omega) ?_; intro w1 ho1 hb1)
  have HO1 := Lib.hid ho1
  have HB1 := Lib.hid hb1
  clear ho1 hb1
  go_wp2
  go_loopw [13] (fun iv wr => ∃ (k : Nat) (S : List Row), k ≤ n ∧ iv = .int .i64 k ∧ Hid (S.length = n) ∧ Hid (∀ j, j < k → S.getD j row0 = R.getD (I.getD j 0).toNat row0) ∧ Hid (OwnR wr w.heap.size S) ∧ Hid (Below w.heap.size w wr)) (fun iv _ => n - (intOf iv).toNat)
  case atStart => exact ⟨0, List.replicate n row0, by omega, rfl, by show _ = _; simp, fun j h => absurd h (by omega), HO1.out, HB1.out⟩
  case round =>
    obtain ⟨k, S, hk, rfl, HL, HQ, HO, HB⟩ := hrel
    by_cases hlt : k < n
    · have hlg : (k : Int) < (n : Int) := by omega
      obtain ⟨adI, eI, _, hcI⟩ := HI.out wr HB.out k hlt
      subst eI
      obtain ⟨i0, i1⟩ := HIN.out k hlt
      have HQ2 : Hid (∀ j, j < k + 1 → (S.set k (R.getD (I.getD k 0).toNat row0)).getD j row0 = R.getD (I.getD j 0).toNat row0) := fun j hj => by
        rw [getD_set' _ _ _ _ _ (by have := HL.out; omega)]
        by_cases h : j = k
        · rw [if_pos h, h]
        · rw [if_neg h]; exact HQ.out j (by omega)
      generalize hx : I.getD k 0 = x at *
      clear hx
      obtain ⟨m, rfl⟩ : ∃ m : Nat, x = m := ⟨x.toNat, by omega⟩
      rw [Int.toNat_natCast] at HQ2
      obtain ⟨ad, eA, _, hcA, _⟩ := HA.out wr HB.out m (by omega)
      subst eA
      have HO2 := Lib.hid (HO.out.set k (R.getD m row0))
      unfold rowV at HO2
      have hfr := HO.out.free k
      have hcl := HO.out.at (k := k) (by have := HL.out; omega)
      generalize R.getD m row0 = r at *
      obtain ⟨ra, rl, rc⟩ := r
      simp only at HO2 hcA
      go_wp2
      refine ⟨⟨k + 1, S.set k ⟨ra, rl, rc⟩, by omega, by go_num, (by show _ = _; rw [List.length_set]; exact HL.out), HQ2.out, HO2.out, HB.out.setCell (p := ⟨w.heap.size, k, none⟩) (Nat.le_refl _) _⟩, by first | (simp [intOf]; done) | (simp [intOf]; omega)⟩
    · obtain rfl : k = n := by omega
      go_wp2
      go_ret
      have hS := HSEL.out S HL.out HQ.out
      subst hS
      exact ⟨rfl, HO.out, HB.out⟩
end Go.Proofs.Ytkkeejbgaaodeaa
