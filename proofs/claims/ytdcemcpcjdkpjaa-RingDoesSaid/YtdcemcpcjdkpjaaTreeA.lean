import Derived.Test.YtdcemcpcjdkpjaaTreeM
import Derived.Test.YtdcemcpcjdkpjaaCutG
import Derived.Test.YtdcemcpcjdkpjaaPickT

/-! Layer 10: nodes in the memory; which node is a leaf. -/
namespace Go.Proofs.Ytdcemcpcjdkpjaa
open Go.RowKit
set_option linter.unusedVariables false
set_option linter.unusedSimpArgs false

theorem fldT (ad : Addr) (n m : Nat) (h : 0 < m) : (⟨(ad.add n).block, (ad.add n).off + m, none⟩ : Addr) = ad.add (n + m) := by
  unfold Addr.add
  by_cases g : n = 0
  · subst g
    simp
    omega
  · simp [g, show ¬ n + m = 0 from by omega]
    omega
def ndC (n : TN) : Array Value := #[.slice n.a n.co.length n.c, .int .i64 n.lv, .int .i64 n.lf, .int .i64 n.rt, .int .i64 n.sz]
def ndV (n : TN) : Value := .agg (ndC n)
/-- the five cells of a node -/
def Nd5 (w : World) (ad : Addr) (j : Nat) (n : TN) : Prop :=
  w.cell? (ad.add (j * 5)) = some (.slice n.a n.co.length n.c) ∧ w.cell? (ad.add (j * 5 + 1)) = some (.int .i64 n.lv) ∧ w.cell? (ad.add (j * 5 + 2)) = some (.int .i64 n.lf) ∧ w.cell? (ad.add (j * 5 + 3)) = some (.int .i64 n.rt) ∧ w.cell? (ad.add (j * 5 + 4)) = some (.int .i64 n.sz)
/-- the nodes lie in the memory, five cells each, and their cuts' parts -/
def LiesT (w : World) (B : Nat) (A : Option Addr) (N : List TN) : Prop :=
  (0 < N.length → ∃ ad : Addr, A = some ad ∧ ad.block < B ∧ ∀ j, j < N.length → Nd5 w ad j (N.getD j tn0)) ∧ ∀ n ∈ N, Lies w B n.a n.co
theorem Nd5.below {w w' : World} {B : Nat} {ad : Addr} {j : Nat} {n : TN} (h : Nd5 w ad j n) (hb : Below B w w') (hB : ad.block < B) : Nd5 w' ad j n := by
  obtain ⟨c0, c1, c2, c3, c4⟩ := h
  have k : ∀ i, w'.cell? (ad.add i) = w.cell? (ad.add i) := fun i => hb.cell (by rw [add_block]; exact hB)
  unfold Nd5
  rw [k, k, k, k, k]
  exact ⟨c0, c1, c2, c3, c4⟩
theorem LiesT.below {w w' : World} {B : Nat} {A : Option Addr} {N : List TN} (h : LiesT w B A N) (hb : Below B w w') : LiesT w' B A N := by
  refine ⟨fun h0 => ?_, fun n hn => (h.2 n hn).below hb⟩
  obtain ⟨ad, e, hB, hc⟩ := h.1 h0
  exact ⟨ad, e, hB, fun j hj => (hc j hj).below hb hB⟩
theorem LiesT.mono {w : World} {B B' : Nat} {A : Option Addr} {N : List TN} (h : LiesT w B A N) (hB : B ≤ B') : LiesT w B' A N := by
  refine ⟨fun h0 => ?_, fun n hn => (h.2 n hn).mono hB⟩
  obtain ⟨ad, e, h1, hc⟩ := h.1 h0
  exact ⟨ad, e, Nat.lt_of_lt_of_le h1 hB, hc⟩
theorem mem_tn {N : List TN} {k : Nat} (h : k < N.length) : N.getD k tn0 ∈ N := by
  rw [List.getD_eq_getElem?_getD, List.getElem?_eq_getElem h]; exact List.getElem_mem h
/-- a node at its place, in the walk's own spelling -/
theorem LiesT.at {w : World} {B : Nat} {A : Option Addr} {N : List TN} (h : LiesT w B A N) {k : Nat} (hk : k < N.length) :
    ∃ ad : Addr, A = some ad ∧ ad.block < B ∧ (w.cell? (ad.add (k * 5)) = some (.slice (N.getD k tn0).a (N.getD k tn0).co.length (N.getD k tn0).c) ∧ w.cell? ⟨(ad.add (k * 5)).block, (ad.add (k * 5)).off + 1, none⟩ = some (.int .i64 (N.getD k tn0).lv) ∧ w.cell? ⟨(ad.add (k * 5)).block, (ad.add (k * 5)).off + 2, none⟩ = some (.int .i64 (N.getD k tn0).lf) ∧
      w.cell? ⟨(ad.add (k * 5)).block, (ad.add (k * 5)).off + 3, none⟩ = some (.int .i64 (N.getD k tn0).rt) ∧ w.cell? ⟨(ad.add (k * 5)).block, (ad.add (k * 5)).off + 4, none⟩ = some (.int .i64 (N.getD k tn0).sz)) ∧ Lies w B (N.getD k tn0).a (N.getD k tn0).co := by
  obtain ⟨ad, e, hB, hc⟩ := h.1 (by omega)
  obtain ⟨c0, c1, c2, c3, c4⟩ := hc k hk
  refine ⟨ad, e, hB, ⟨c0, ?_, ?_, ?_, ?_⟩, h.2 _ (mem_tn hk)⟩
  · rw [fldT _ _ _ (by omega)]; exact c1
  · rw [fldT _ _ _ (by omega)]; exact c2
  · rw [fldT _ _ _ (by omega)]; exact c3
  · rw [fldT _ _ _ (by omega)]; exact c4
/-- what an argument's nodes keep -/
def okT (N : List TN) : Prop := ∀ n ∈ N, n.co.length ≤ n.c ∧ (n.c : Int) ≤ 9223372036854775807 ∧ (∀ x ∈ n.co, I64 x) ∧ I64 n.lv ∧ I64 n.lf ∧ I64 n.rt ∧ I64 n.sz
end Go.Proofs.Ytdcemcpcjdkpjaa
