/- The contract of copseref02.Parse. -/
import Derived.Test.YtiepfkhbebdkeaaDoorWideA
import Derived.Test.YtiepfkhbebdkeaaDoorWideF
import Derived.Test.YtiepfkhbebdkeaaDoorBigC
import Derived.Outline
namespace Go.Proofs.YtiepfkhbebdkeaaDoor
open Go.RowKit

theorem fits_is {n : Int} (h0 : 0 ≤ n) {w w' : World} {e : Ending} (h : FitsW n w e w') : e = .returned (wfV n) ∧ Below w.heap.size w w' := by
  by_cases h1 : n < 340282366920938463463374607431768211456
  · obtain ⟨he, hb⟩ := wfits_of h1 h
    exact ⟨he.trans (wfV_in ⟨h0, h1⟩ rfl rfl), hb⟩
  · obtain ⟨he, hb⟩ := wfits_over (by omega) h
    exact ⟨he.trans (wfV_out (by omega)), hb⟩
theorem is_small (w : World) (d : Int) (h : 0 < d ∧ d < 65536) : IsBig (w.alloc (.cells #[.int .i64 d] 3)) d (.slice (some ⟨w.heap.size, 0, none⟩) 1 1) := by
  have e : digs d = [d] := by
    have hv : val [d] = d := by simp [val]
    have := digs_val (l := [d]) (by intro x hx; simp only [List.mem_cons, List.not_mem_nil, or_false] at hx; omega) (.inr (by simp; omega))
    rw [hv] at this; exact this
  refine ⟨by omega, some ⟨w.heap.size, 0, none⟩, 1, by rw [e]; rfl, ?_⟩
  rw [e]
  intro _
  refine ⟨⟨w.heap.size, 0, none⟩, rfl, by rw [alloc_size']; exact Nat.lt_succ_self _, fun j hj => ?_⟩
  obtain rfl : j = 0 := by simp at hj; omega
  exact (Box.new w _ _).cell 0
theorem is_nil (w : World) : IsBig w 0 (.slice none 0 0) := by
  have e : digs 0 = [] := digs_0 (by omega)
  refine ⟨Int.le_refl 0, none, 0, by rw [e]; rfl, ?_⟩
  rw [e]; exact Lies.nil
theorem dec_lt (s : ByteArray) (h : s.data.toList.all digB = true) (k : Nat) (hk : k ≤ s.size) : dec (s.data.toList.take k) < 10 ^ k := by
  induction k with
  | zero => rw [List.take_zero]; decide
  | succ k ih =>
    have := ih (by omega)
    have hd := digB_at h k (by omega)
    rw [dec_take s k (by omega), Int.pow_succ]; omega
theorem ten_mono {a b : Nat} (h : a ≤ b) : (10 : Int) ^ a ≤ 10 ^ b := by
  obtain ⟨n, rfl⟩ := Nat.exists_eq_add_of_le h
  induction n with
  | zero => exact Int.le_refl _
  | succ n ih =>
    have := ih (by omega)
    have h1 : (0 : Int) < 10 ^ (a + n) := Int.pow_pos (by omega)
    rw [show a + (n + 1) = a + n + 1 by omega, Int.pow_succ]; omega
theorem dec_pw (s : ByteArray) (h : s.data.toList.all digB = true) (hs : s.size ≤ 39) (k : Nat) (hk : k ≤ s.size) : dec (s.data.toList.take k) < pw 40 := by
  have h1 := dec_lt s h k hk
  have h2 := ten_mono (show k ≤ 39 by omega)
  have h3 := pw_mono (show 9 ≤ 40 by omega)
  have h4 : pw 9 = 22300745198530623141535718272648361505980416 := by unfold pw; rfl
  have h5 : (10 : Int) ^ 39 = 1000000000000000000000000000000000000000 := by rfl
  omega

end Go.Proofs.YtiepfkhbebdkeaaDoor
