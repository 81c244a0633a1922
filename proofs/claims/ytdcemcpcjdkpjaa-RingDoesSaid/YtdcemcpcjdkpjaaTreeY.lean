import Derived.Test.YtdcemcpcjdkpjaaTreeX
import Derived.Outline

/-! Layer 10: the reference's grow. -/
namespace Go.Proofs.Ytdcemcpcjdkpjaa
open Go.RowKit
set_option linter.unusedVariables false
set_option linter.unusedSimpArgs false

/-- nodes, the place of the next draw, an error -/
def GivesGN (G : GT) (w : World) (e : Ending) (w' : World) : Prop :=
  ∃ A N c, e = .returned (.tuple #[.slice A N.length c, .int .i64 G.2.1, .int .i64 G.2.2]) ∧ N.map cnt = G.1 ∧ LiesT w' w'.heap.size A N ∧ okT N ∧ (New w A ∧ ∀ n ∈ N, New w n.a) ∧ Below w.heap.size w w'
theorem givesGN_no {w w' : World} {x : Int} (h : Below w.heap.size w w') : GivesGN ([], 0, x) w (.returned (.tuple #[.slice none 0 0, .int .i64 0, .int .i64 x])) w' :=
  ⟨none, [], 0, rfl, rfl, ⟨fun h0 => absurd h0 (by simp), fun n hn => by cases hn⟩, (fun n hn => by cases hn), ⟨(fun _ e => by cases e), (fun n hn => by cases hn)⟩, h⟩
theorem OwnA.liesR {w : World} {B : Nat} {v : Value} {S : List Row} (h : OwnA w B v S) (hr : ∀ r ∈ S, Lies w w.heap.size r.a r.l) : ∃ A c, v = .slice A S.length c ∧ S.length ≤ c ∧ LiesR w w.heap.size A S := by
  obtain ⟨A, c, e, hc, h1⟩ := h.lies
  refine ⟨A, c, e, hc, fun h0 => ?_, hr⟩
  obtain ⟨g, eA, _, hlt, hcell⟩ := h1 h0
  exact ⟨⟨g, 0, none⟩, eA, hlt, fun j hj => by rw [cell_add]; exact hcell j hj⟩
theorem grN_pos {k t : Int} {l : List Int} (s : Nat) (R : List Row) (a : Int) : (grN k l t s R a).2.2 = 0 → 0 < (grN k l t s R a).1.length := by
  refine grN_ind (fun s R a G => G.2.2 = 0 → 0 < G.1.length) ?_ ?_ ?_ s R a
  · intro s R a _ _; simp
  · intro s R a x hx h; exact absurd h hx
  · intro s R a Z X Y _ _ _ _ _ _ _ _ _ _ _; simp
theorem shN_a (b : Nat) (n : TN) : (shN b n).a = n.a ∧ (shN b n).co = n.co ∧ (shN b n).c = n.c ∧ (shN b n).lv = n.lv ∧ (shN b n).sz = n.sz := by
  unfold shN
  split <;> exact ⟨rfl, rfl, rfl, rfl, rfl⟩
theorem shL_cnt (b : Nat) (N : List TN) : (shL b N).map cnt = shL b (N.map cnt) := by
  unfold shL
  rw [List.map_map, List.map_map]
  refine List.map_congr_left fun n _ => ?_
  show cnt (shN b n) = shN b (cnt n)
  unfold shN cnt
  simp only
  split <;> rfl
theorem okT_sh {N : List TN} (h : okT N) (hb : ∀ n ∈ N, bdT 100000 n) {b : Nat} (hb2 : b ≤ 100000) : okT (shL b N) := fun m hm => by
  obtain ⟨n, hn, rfl⟩ := List.mem_map.1 hm
  obtain ⟨o1, o2, o3, o4, o5, o6, o7⟩ := h n hn
  have hB := hb n hn
  unfold bdT at hB
  unfold shN
  split
  · refine ⟨o1, o2, o3, o4, ?_, ?_, o7⟩ <;> (unfold I64; simp only; omega)
  · exact ⟨o1, o2, o3, o4, o5, o6, o7⟩
theorem lies_sh {w : World} {N : List TN} {b : Nat} (h : ∀ n ∈ N, Lies w w.heap.size n.a n.co) : ∀ n ∈ shL b N, Lies w w.heap.size n.a n.co := fun m hm => by
  obtain ⟨n, hn, rfl⟩ := List.mem_map.1 hm
  obtain ⟨e1, e2, _⟩ := shN_a b n
  rw [e1, e2]
  exact h n hn
end Go.Proofs.Ytdcemcpcjdkpjaa
