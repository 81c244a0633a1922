/- The reference's big numbers, by their values alone: contracts over 'IsBig'. And what stays as it was while calls are made. -/
import Derived.Test.YtaeodkpkgbjaeaaWideB
import Derived.Test.YtaeodkpkgbjaeaaWideK
import Derived.Test.YtaeodkpkgbjaeaaBigs
import Derived.Test.YtaeodkpkgbjaeaaBase
namespace Go.Proofs.Ytaeodkpkgbjaeaa
open Go.RowKit

/-- v is the row of digits of n -/
def IsBig (w : World) (n : Int) (v : Value) : Prop := 0 ≤ n ∧ ∃ A c, v = .slice A (digs n).length c ∧ Lies w w.heap.size A (digs n)
theorem IsBig.below {w w' : World} {n : Int} {v : Value} (h : IsBig w n v) (hb : Below w.heap.size w w') : IsBig w' n v := by
  obtain ⟨h0, A, c, e, hL⟩ := h
  exact ⟨h0, A, c, e, (hL.below hb).mono hb.size⟩
theorem IsBig.drew {w : World} {n : Int} {v : Value} (h : IsBig w n v) : IsBig w.drew n v := h
def GivesBg (n : Int) (w : World) (e : Ending) (w' : World) : Prop := ∃ v, e = .returned v ∧ IsBig w' n v ∧ Below w.heap.size w w'
theorem givesB {n : Int} {w w' : World} {e : Ending} (hn : 0 ≤ n) (h : Gives n w e w') : GivesBg n w e w' := by
  obtain ⟨A, c, he, _, _, hL, hb⟩ := h
  exact ⟨_, he, ⟨hn, A, c, rfl, hL⟩, hb⟩
theorem big_of (n : Int) (hn : U64 n) (w : World) : Calls Try.prog 222 #[.int .u64 n] w (GivesBg n w) :=
  (ref_of n hn w).mono fun _ _ h => givesB (by unfold U64 at hn; omega) h
theorem big_plus {a b : Int} {va vb : Value} {w : World} (ha : IsBig w a va) (hb : IsBig w b vb) (la : a < pw 40) (lb : b < pw 40) : Calls Try.prog 224 #[va, vb] w (GivesBg (a + b) w) := by
  obtain ⟨a0, A, c, rfl, LA⟩ := ha
  obtain ⟨b0, B, d, rfl, LB⟩ := hb
  have h := ref_plus A B (digs a) (digs b) c d w LA LB (dig_digs _) (dig_digs _) (by have := digs_len a 40 la; have := digs_len b 40 lb; omega)
  rw [val_digs a a0, val_digs b b0] at h
  exact h.mono fun _ _ g => givesB (by omega) g
theorem big_minus {a b : Int} {va vb : Value} {w : World} (ha : IsBig w a va) (hb : IsBig w b vb) (la : a < pw 40) (hle : b ≤ a) : Calls Try.prog 225 #[va, vb] w (GivesBg (a - b) w) := by
  obtain ⟨a0, A, c, rfl, LA⟩ := ha
  obtain ⟨b0, B, d, rfl, LB⟩ := hb
  have h := ref_minus A B (digs a) (digs b) c d w LA LB (dig_digs _) (dig_digs _) (by have := digs_len a 40 la; omega) (by rw [val_digs a a0, val_digs b b0]; exact hle)
  rw [val_digs a a0, val_digs b b0] at h
  exact h.mono fun _ _ g => givesB (by omega) g
theorem big_order {a b : Int} {va vb : Value} {w : World} (ha : IsBig w a va) (hb : IsBig w b vb) (la : a < pw 40) : Calls Try.prog 223 #[va, vb] w fun e w' => e = .returned (.int .i64 (cmpI a b)) ∧ Below w.heap.size w w' := by
  obtain ⟨a0, A, c, rfl, LA⟩ := ha
  obtain ⟨b0, B, d, rfl, LB⟩ := hb
  refine (ref_order A B a b c d _ w a0 b0 LA LB (by have := digs_len a 40 la; omega)).mono fun e w' h => ?_
  obtain ⟨he, n, rfl⟩ := h
  exact ⟨he, ⟨rfl, rfl, rfl, Nat.le_refl _, fun _ _ => rfl⟩⟩
theorem is_one (w : World) : IsBig (w.alloc (.cells #[.int .i64 1] 3)) 1 (.slice (some ⟨w.heap.size, 0, none⟩) 1 1) := by
  have e : digs 1 = [1] := by
    have h : val [1] = 1 := by simp [val]
    have := digs_val (l := [1]) (by intro d hd; simp only [List.mem_cons, List.not_mem_nil, or_false] at hd; omega) (.inr (by simp))
    rw [h] at this; exact this
  refine ⟨by omega, some ⟨w.heap.size, 0, none⟩, 1, by rw [e]; rfl, ?_⟩
  rw [e]
  intro _
  refine ⟨⟨w.heap.size, 0, none⟩, rfl, by rw [alloc_size']; exact Nat.lt_succ_self _, fun j hj => ?_⟩
  obtain rfl : j = 0 := by simp at hj; omega
  exact (Box.new w _ _).cell 0

/-- these blocks stay as they are, and so does all that was there -/
def Keeps (B : Nat) (W : World) (l : List (Nat × Array Value × TypeId)) (w : World) : Prop := (∀ x ∈ l, Box w x.1 x.2.1 x.2.2) ∧ Below B W w ∧ B ≤ w.heap.size
theorem Keeps.below {B : Nat} {W w w' : World} {l : List (Nat × Array Value × TypeId)} (h : Keeps B W l w) (hb : Below w.heap.size w w') : Keeps B W l w' :=
  ⟨fun x hx => (h.1 x hx).below hb (h.1 x hx).lt, h.2.1.trans (hb.mono h.2.2), Nat.le_trans h.2.2 hb.size⟩
theorem Keeps.alloc {B : Nat} {W w : World} {l : List (Nat × Array Value × TypeId)} (h : Keeps B W l w) (cs : Array Value) (t : TypeId) : Keeps B W ((w.heap.size, cs, t) :: l) (w.alloc (.cells cs t)) := by
  refine ⟨fun x hx => ?_, h.2.1.alloc h.2.2 _, by rw [alloc_size']; exact Nat.le_succ_of_le h.2.2⟩
  rcases List.mem_cons.1 hx with rfl | hx
  · exact Box.new w cs t
  · exact (h.1 x hx).alloc _
theorem Keeps.drew {B : Nat} {W w : World} {l : List (Nat × Array Value × TypeId)} (h : Keeps B W l w) : Keeps B W l w.drew := ⟨fun x hx => (h.1 x hx).drew, h.2.1.drew, h.2.2⟩
theorem Keeps.start (w : World) : Keeps w.heap.size w [] w := ⟨fun x hx => (by cases hx), Below.refl _ _, Nat.le_refl _⟩
theorem Keeps.head {B : Nat} {W w : World} {x : Nat × Array Value × TypeId} {l : List (Nat × Array Value × TypeId)} (h : Keeps B W (x :: l) w) : Box w x.1 x.2.1 x.2.2 := h.1 x List.mem_cons_self
theorem Keeps.tail {B : Nat} {W w : World} {x : Nat × Array Value × TypeId} {l : List (Nat × Array Value × TypeId)} (h : Keeps B W (x :: l) w) : Keeps B W l w := ⟨fun y hy => h.1 y (List.mem_cons_of_mem _ hy), h.2⟩
end Go.Proofs.Ytaeodkpkgbjaeaa
