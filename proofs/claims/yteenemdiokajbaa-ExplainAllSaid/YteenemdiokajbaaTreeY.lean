import Derived.Test.YteenemdiokajbaaTreeX
import Derived.Outline

/-! Layer 10: the reference's grow. -/
namespace Go.Proofs.Yteenemdiokajbaa
open Go.RowKit
set_option linter.unusedVariables false
set_option linter.unusedSimpArgs false

/-- nodes, the place of the next draw, an error -/
def GivesGN (G : GT) (w : World) (e : Ending) (w' : World) : Prop :=
  ∃ A N c, e = .returned (.tuple #[.slice A N.length c, .int .i64 G.2.1, .int .i64 G.2.2]) ∧ N.map cnt = G.1 ∧ LiesT w' w'.heap.size A N ∧ okT N ∧ (New w A ∧ ∀ n ∈ N, New w n.a) ∧ Below w.heap.size w w'
theorem givesGN_no {w w' : World} {x : Int} (h : Below w.heap.size w w') : GivesGN ([], 0, x) w (.returned (.tuple #[.slice none 0 0, .int .i64 0, .int .i64 x])) w' :=
  ⟨none, [], 0, rfl, rfl, ⟨fun h0 => absurd h0 (by simp), fun n hn => by cases hn⟩, (fun n hn => by cases hn), ⟨(fun _ e => by cases e), (fun n hn => by cases hn)⟩, h⟩
theorem leaf_box {w : World} {g n : Nat} (h : Box w g #[.slice none 0 0, .int .i64 0, .int .i64 0, .int .i64 0, .int .i64 n] 81) (hn : n ≤ 1000) : LiesT w w.heap.size (some ⟨g, 0, none⟩) [lfN n] ∧ okT [lfN n] := by
  refine ⟨⟨fun _ => ⟨⟨g, 0, none⟩, rfl, h.lt, fun j hj => ?_⟩, fun m hm => ?_⟩, fun m hm => ?_⟩
  · obtain rfl : j = 0 := by simp at hj; omega
    unfold Nd5
    rw [cell_add, cell_add, cell_add, cell_add, cell_add]
    exact ⟨h.cell 0, h.cell 1, h.cell 2, h.cell 3, h.cell 4⟩
  · rw [List.mem_singleton.1 hm]
    exact fun h0 => absurd h0 (by simp [lfN])
  · rw [List.mem_singleton.1 hm]
    refine ⟨by show (0 : Nat) ≤ 0; omega, by show ((0 : Nat) : Int) ≤ _; omega, fun x hx => absurd hx (by simp [lfN]), ?_, ?_, ?_, ?_⟩ <;> (show I64 _; unfold lfN I64; simp only; omega)
theorem givesGN_leaf {w w' : World} {g n : Nat} {a : Int} (hb : Box w' g #[.slice none 0 0, .int .i64 0, .int .i64 0, .int .i64 0, .int .i64 n] 81) (hn : n ≤ 1000) (hg : w.heap.size ≤ g) (h : Below w.heap.size w w') : GivesGN ([lfN n], a, 0) w (.returned (.tuple #[.slice (some ⟨g, 0, none⟩) 1 1, .int .i64 a, .int .i64 0])) w' :=
  ⟨_, [lfN n], 1, rfl, rfl, (leaf_box hb hn).1, (leaf_box hb hn).2, ⟨(fun ad e => by cases e; exact hg), (fun m hm ad e => by rw [List.mem_singleton.1 hm] at e; cases e)⟩, h⟩
theorem OwnA.liesR {w : World} {B : Nat} {v : Value} {S : List Row} (h : OwnA w B v S) (hr : ∀ r ∈ S, Lies w w.heap.size r.a r.l) : ∃ A c, v = .slice A S.length c ∧ S.length ≤ c ∧ LiesR w w.heap.size A S := by
  obtain ⟨A, c, e, hc, h1⟩ := h.lies
  refine ⟨A, c, e, hc, fun h0 => ?_, hr⟩
  obtain ⟨g, eA, _, hlt, hcell⟩ := h1 h0
  exact ⟨⟨g, 0, none⟩, eA, hlt, fun j hj => by rw [cell_add]; exact hcell j hj⟩
theorem own_newN {w w' : World} {B : Nat} {v : Value} {N : List TN} (h : OwnN w' B v N) (hB : w.heap.size ≤ B) : ∀ A n c, v = .slice A n c → New w A := fun A n c e ad eA => by
  subst eA
  have := (h.lt ad.block (by rw [e]; rfl)).1
  omega
theorem grN_pos {k t : Int} {l : List Int} (s : Nat) (R : List Row) (a : Int) : (grN k l t s R a).2.2 = 0 → 0 < (grN k l t s R a).1.length := by
  refine grN_ind (fun s R a G => G.2.2 = 0 → 0 < G.1.length) ?_ ?_ ?_ s R a
  · intro s R a _ _; simp
  · intro s R a x hx h; exact absurd h hx
  · intro s R a Z X Y _ _ _ _ _ _ _ _ _ _ _; simp
theorem shN_a (b : Nat) (n : TN) : (shN b n).a = n.a ∧ (shN b n).co = n.co ∧ (shN b n).c = n.c ∧ (shN b n).lv = n.lv ∧ (shN b n).sz = n.sz := by
  unfold shN
  split <;> exact ⟨rfl, rfl, rfl, rfl, rfl⟩
theorem shL_cnt (b : Nat) (N : List TN) : (shL b N).map cnt = shL b (N.map cnt) := by
  unfold shL
  rw [List.map_map, List.map_map]
  refine List.map_congr_left fun n _ => ?_
  show cnt (shN b n) = shN b (cnt n)
  unfold shN cnt
  simp only
  split <;> rfl
theorem okT_sh {N : List TN} (h : okT N) (hb : ∀ n ∈ N, bdT 100000 n) {b : Nat} (hb2 : b ≤ 100000) : okT (shL b N) := fun m hm => by
  obtain ⟨n, hn, rfl⟩ := List.mem_map.1 hm
  obtain ⟨o1, o2, o3, o4, o5, o6, o7⟩ := h n hn
  have hB := hb n hn
  unfold bdT at hB
  unfold shN
  split
  · refine ⟨o1, o2, o3, o4, ?_, ?_, o7⟩ <;> (unfold I64; simp only; omega)
  · exact ⟨o1, o2, o3, o4, o5, o6, o7⟩
theorem lies_sh {w : World} {N : List TN} {b : Nat} (h : ∀ n ∈ N, Lies w w.heap.size n.a n.co) : ∀ n ∈ shL b N, Lies w w.heap.size n.a n.co := fun m hm => by
  obtain ⟨n, hn, rfl⟩ := List.mem_map.1 hm
  obtain ⟨e1, e2, _⟩ := shN_a b n
  rw [e1, e2]
  exact h n hn
theorem own_new {w : World} (n : TN) : OwnN (w.alloc (.cells (ndC n) 81)) w.heap.size (.slice (some ⟨w.heap.size, 0, none⟩) 1 1) [n] :=
  ⟨by rfl, .inr ⟨w.heap.size, 1, ndC n, rfl, Nat.le_refl _, heap_alloc_new w _, Nat.le_refl _, by unfold maxLen; omega, rfl, by simp [ndL, ndC]⟩⟩
end Go.Proofs.Yteenemdiokajbaa
