/- Layer 21 (bin): what a reader that ended well has read; the bytes that a caller passes. -/
import Derived.Test.YtpoemflclbhekaaGreatBinRd
import Derived.OpenShut
namespace Go.Proofs.YtpoemflclbhekaaGreat
open Go.RowKit Go.WideShapes Go.ChangeShapes Go.Joins Go.Deep
set_option linter.unusedVariables false
set_option linter.unusedSimpArgs false

theorem take_two (b : List Int) {k k1 k2 : Nat} (h1 : k ≤ k1) (h2 : k1 ≤ k2) : (b.drop k).take (k2 - k) = (b.drop k).take (k1 - k) ++ (b.drop k1).take (k2 - k1) := by
  have e : k2 - k = (k1 - k) + (k2 - k1) := by omega
  rw [e, List.take_add, List.drop_drop, show k + (k1 - k) = k1 from by omega]
theorem one_U {b : List Int} (hb : byt b) (h : (rU b 0 0).1.2 = 0) : 0 < (rU b 0 0).1.1 ∧ (rU b 0 0).1.1 ≤ b.length ∧ uB (rU b 0 0).2 = b.take (rU b 0 0).1.1 := by
  obtain ⟨h1, h2, h3⟩ := rU_ok hb h
  exact ⟨h1, h2, by rw [h3]; simp⟩
theorem one_I {b : List Int} (hb : byt b) (h : (rU b 0 0).1.2 = 0) : iB (unfoldI (rU b 0 0).2) = b.take (rU b 0 0).1.1 := by
  unfold iB
  rw [fold_unfold]
  exact (one_U hb h).2.2
theorem one_T {b : List Int} (hb : byt b) (most : Int) (h : (rT b 0 0 most).1.2 = 0) : 0 < (rT b 0 0 most).1.1 ∧ (rT b 0 0 most).1.1 ≤ b.length ∧ tB (rT b 0 0 most).2 = b.take (rT b 0 0 most).1.1 := by
  unfold rT at h ⊢
  by_cases h1 : (rN b 0 0 most).1.2 ≠ 0
  · rw [if_pos h1] at h; exact absurd h h1
  rw [if_neg h1] at h ⊢
  by_cases h2 : b.length - (rN b 0 0 most).1.1 < (rN b 0 0 most).2
  · rw [if_pos h2] at h; simp at h
  rw [if_neg h2]
  have h1 : (rN b 0 0 most).1.2 = 0 := Decidable.not_not.1 h1
  have e1 := (rN_bd h1).2.2
  rw [e1] at h1 h2 ⊢
  obtain ⟨g1, g2, g3⟩ := one_U hb h1
  generalize (rU b 0 0).1.1 = k1 at *
  generalize (rU b 0 0).2 = n at *
  refine ⟨by show 0 < k1 + n; omega, by show k1 + n ≤ _; omega, ?_⟩
  have hl : ((b.drop k1).take n).length = n := by rw [List.length_take, List.length_drop]; omega
  show tB ((b.drop k1).take n) = b.take (k1 + n)
  unfold tB
  rw [hl, g3, List.take_add]
theorem one_Tle {b : List Int} (most : Int) : (rT b 0 0 most).2.length ≤ b.length := by
  unfold rT
  split
  · simp
  split
  · simp
  · show ((b.drop _).take _).length ≤ _
    rw [List.length_take, List.length_drop]; omega
theorem rdL_ok {b : List Int} (hb : byt b) : ∀ (j k : Nat) (L : List Int), k ≤ b.length → (rdL b j (k, 0) L).1.2 = 0 → ∃ (M : List Int) (k' : Nat), rdL b j (k, 0) L = ((k', 0), L ++ M) ∧ M.length = j ∧ k ≤ k' ∧ k' ≤ b.length ∧ M.flatMap iB = (b.drop k).take (k' - k) ∧ ∀ x ∈ M, I64 x := by
  intro j
  induction j with
  | zero => intro k L hk h; exact ⟨[], k, by simp [rdL], rfl, Nat.le_refl _, hk, by simp, fun x hx => by cases hx⟩
  | succ j ih =>
    intro k L hk h
    rw [rdL_step] at h ⊢
    by_cases he : (rU b k 0).1.2 = 0
    · obtain ⟨g1, g2, g3⟩ := rU_ok hb he
      have hbd := rU_bd hb k 0
      have es : (rU b k 0).1 = ((rU b k 0).1.1, 0) := Prod.ext rfl he
      rw [es] at h ⊢
      obtain ⟨M, k', e1, e2, e3, e4, e5, e6⟩ := ih _ _ g2 h
      refine ⟨unfoldI (rU b k 0).2 :: M, k', by rw [e1, List.append_assoc]; rfl, by rw [List.length_cons, e2], by omega, e4, ?_, ?_⟩
      · rw [List.flatMap_cons, e5, take_two b (Nat.le_of_lt g1) e3]
        unfold iB
        rw [fold_unfold, g3]
      · intro x hx
        rcases List.mem_cons.1 hx with rfl | hx
        · exact unfold_bd hbd
        · exact e6 x hx
    · rw [rdL_end (.inr he)] at h
      exact absurd h he
theorem one_L {b : List Int} (hb : byt b) (most : Int) (h : (rL b 0 0 most).1.2 = 0) : 0 < (rL b 0 0 most).1.1 ∧ (rL b 0 0 most).1.1 ≤ b.length ∧ lB (rL b 0 0 most).2 = b.take (rL b 0 0 most).1.1 ∧ (∀ x ∈ (rL b 0 0 most).2, I64 x) ∧ ((rL b 0 0 most).2.length : Int) ≤ most := by
  unfold rL at h ⊢
  by_cases h1 : (rdL b (rN b 0 0 most).2 (rN b 0 0 most).1 []).1.2 ≠ 0
  · rw [if_pos h1] at h; exact absurd h h1
  rw [if_neg h1]
  have h1 : (rdL b (rN b 0 0 most).2 (rN b 0 0 most).1 []).1.2 = 0 := Decidable.not_not.1 h1
  have h2 : (rN b 0 0 most).1.2 = 0 := by
    by_cases h3 : (rN b 0 0 most).1.2 = 0
    · exact h3
    · rw [rdL_end (.inr h3)] at h1; exact h1
  obtain ⟨hbd, -, e1⟩ := rN_bd h2
  have hbd2 : ((rN b 0 0 most).2 : Int) ≤ most := by exact hbd
  rw [e1] at h1 h2 hbd2 ⊢
  obtain ⟨g1, g2, g3⟩ := one_U hb h2
  have es : (rU b 0 0).1 = ((rU b 0 0).1.1, 0) := Prod.ext rfl h2
  rw [es] at h1 ⊢
  obtain ⟨M, k', q1, q2, q3, q4, q5, q6⟩ := rdL_ok hb _ _ _ g2 h1
  rw [q1]
  refine ⟨by show 0 < k'; omega, q4, ?_, q6, by show (M.length : Int) ≤ most; rw [q2]; exact hbd2⟩
  show lB M = b.take k'
  unfold lB
  rw [q2, g3, q5, ← List.take_add, show (rU b 0 0).1.1 + (k' - (rU b 0 0).1.1) = k' from by omega]
theorem LiesY.take {w : World} {B : Nat} {A : Option Addr} {l : List Int} (h : LiesY w B A l) (k : Nat) : LiesY w B A (l.take k) := fun h0 => by
  rw [List.length_take] at h0
  obtain ⟨ad, e, hb, hc⟩ := h (by omega)
  refine ⟨ad, e, hb, fun j hj => ?_⟩
  rw [List.length_take] at hj
  rw [hc j (by omega), List.getD_eq_getElem?_getD, List.getD_eq_getElem?_getD, List.getElem?_take, if_pos (by omega)]
section
variable {H : Type} {enc : TypeId × Value → H}
theorem cells_u8 : Tryz.prog.cellsOf 5 = 1 := by kernel_rfl
theorem open_bytes {P : Program} {W : World} {base : Nat} {t e : TypeId} {v : Value} {d : DataW H} {p : List MemPlace} (ht : P.underlying t = some (.slice e)) (he : P.underlying e = some (.int .u8)) (hc : P.cellsOf e = 1)
    (hv : Value.okWide P W .any base t v) (h : DataW.Trod enc P W 0 (fun _ => true) true t v d p) :
    ∃ A l c, v = .slice A l.length c ∧ LiesY W W.heap.size A l ∧ byt l ∧ l.length ≤ c ∧ c ≤ 9223372036854775807 ∧ (A = none → c = 0) := by
  obtain ⟨a0, len, cap, rfl⟩ := okWide_slice ht hv
  obtain ⟨fuel, hf⟩ := h
  rcases open_ints ht he hc hf with ⟨hcs, _⟩ | ⟨a, len', cap', zs, hcs, _, hle, hm, hz, _, hcell, hwz⟩
  · simp [Value.cells] at hcs
    obtain ⟨rfl, rfl, rfl⟩ := hcs
    exact ⟨none, [], 0, rfl, LiesY.nil, (fun x hx => by cases hx), by simp, by simp, fun _ => rfl⟩
  · simp [Value.cells] at hcs
    obtain ⟨rfl, rfl, rfl⟩ := hcs
    simp only [if_true] at hz
    unfold maxLen at hm
    have hlen : (zs.take len).length = len := by rw [List.length_take]; omega
    refine ⟨some a, zs.take len, cap, by rw [hlen], fun h0 => ⟨a, rfl, ?_, fun j hj => ?_⟩, fun x hx => ?_, by omega, by omega, fun e => by cases e⟩
    · have h1 := hcell 0 (by omega)
      have h2 := World.block_lt_of_cell? W (a.add 0) h1
      rw [add_block] at h2
      exact h2
    · rw [hlen] at hj
      rw [hcell j (by omega), List.getD_eq_getElem?_getD, List.getD_eq_getElem?_getD, List.getElem?_take, if_pos hj]
    · have := hwz x (List.mem_of_mem_take hx)
      simp [Lit.wf, IntKind.min, IntKind.max, IntKind.signed, IntKind.bits] at this
      omega
end
end Go.Proofs.YtpoemflclbhekaaGreat
