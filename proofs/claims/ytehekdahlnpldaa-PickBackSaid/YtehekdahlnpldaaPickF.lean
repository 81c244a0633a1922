import Derived.Test.YtehekdahlnpldaaPickD
import Derived.Test.YtehekdahlnpldaaPickC

/-! Layer 7: the reference's row, Sample, Play. -/
namespace Go.Proofs.Ytehekdahlnpldaa
open Go.RowKit
set_option linter.unusedVariables false
set_option linter.unusedSimpArgs false

/-- the first numbers of a row -/
def upF (f : Int → Int) (k : Nat) : List Int := (List.range k).map (fun (i : Nat) => f i)
theorem upF_len (f : Int → Int) (k : Nat) : (upF f k).length = k := by simp [upF]
theorem upF_succ (f : Int → Int) (k : Nat) : upF f (k + 1) = upF f k ++ [f k] := by simp [upF, List.range_succ]
theorem upF_get (f : Int → Int) {j k : Nat} (h : j < k) : (upF f k).getD j 0 = f j := by simp [upF, List.getD, h]
theorem upF_swap (f : Int → Int) {n i j : Nat} (hi : i < n) (hj : j < n) : ((upF f n).set j (f i)).set i (f j) = upF (swp f i j) n := by
  apply List.ext_getElem (by simp [upF])
  intro x h1 h2
  simp only [upF, List.getElem_set, List.getElem_map, List.getElem_range]
  unfold swp
  by_cases e1 : i = x
  · subst e1
    by_cases e2 : i = j
    · subst e2; simp
    · rw [if_pos rfl, if_neg (by omega), if_pos rfl]
  · rw [if_neg e1]
    by_cases e2 : j = x
    · subst e2; simp
    · rw [if_neg e2, if_neg (by omega), if_neg (by omega)]
theorem upF_take (f : Int → Int) {k n : Nat} (h : k ≤ n) : (upF f n).take k = upF f k := by
  apply List.ext_getElem (by simp [upF]; omega)
  intro x h1 h2
  simp [upF]
theorem plyV_up (p : List Int) {k : Nat} (h : p.length = k) : plyV p = upF (ply p k) k := by subst h; rfl
theorem ply_congr {p q : List Int} : ∀ k, (∀ j, j < k → p.getD j 0 = q.getD j 0) → ply p k = ply q k
  | 0, _ => rfl
  | k + 1, h => by
    show swp _ _ _ = swp _ _ _
    rw [ply_congr k (fun j hj => h j (by omega)), h k (by omega)]
theorem ply_snoc {p : List Int} {k : Nat} (h : p.length = k) (x : Int) : ply (p ++ [x]) (k + 1) = swp (ply p k) k (k + x) := by
  subst h
  show swp _ _ _ = _
  rw [ply_congr (q := p) p.length (fun j hj => by rw [List.getD_eq_getElem?_getD, List.getElem?_append_left hj, ← List.getD_eq_getElem?_getD])]
  congr 2
  simp [List.getD]
theorem picks_snoc {n : Int} {p : List Int} {k : Nat} (h : p.length = k) (hp : picksOk n p) {x : Int} (h0 : 0 ≤ x) (h1 : x ≤ n - k - 1) : picksOk n (p ++ [x]) := by
  intro j hj
  rw [List.length_append, List.length_singleton] at hj
  by_cases e : j < p.length
  · rw [List.getD_eq_getElem?_getD, List.getElem?_append_left e, ← List.getD_eq_getElem?_getD]
    exact hp j e
  · have hje : j = p.length := by omega
    rw [List.getD_eq_getElem?_getD, List.getElem?_append_right (by omega), hje]
    simp only [Nat.sub_self, List.getElem?_cons_zero, Option.getD_some]
    omega
theorem smp_step {l : List Int} {t n : Int} {k i : Nat} {a : Int} {acc : List Int} (h : (bnd l a (n - i) t).2.2 = 0) : smp l t n (k + 1) i a acc = smp l t n k (i + 1) (bnd l a (n - i) t).2.1 (acc ++ [(bnd l a (n - i) t).1]) := by rw [smp, if_pos h]
theorem smp_fail {l : List Int} {t n : Int} {k i : Nat} {a : Int} {acc : List Int} (h : ¬ (bnd l a (n - i) t).2.2 = 0) : smp l t n (k + 1) i a acc = ([], 0, (bnd l a (n - i) t).2.2) := by rw [smp, if_neg h]
theorem bnd_at {l : List Int} {a n t : Int} (hl : (l.length : Int) ≤ 9223372036854775807) (h : (bnd l a n t).2.2 = 0) (ha : 0 ≤ a) : 0 ≤ (bnd l a n t).2.1 ∧ (bnd l a n t).2.1 ≤ 9223372036854775807 := by
  have := bnd_pos h; omega
/-- it gives a new row of these numbers -/
def GivesN (l : List Int) (w : World) (e : Ending) (w' : World) : Prop := ∃ A c, e = .returned (.slice A l.length c) ∧ l.length ≤ c ∧ c ≤ maxLen ∧ Lies w' w'.heap.size A l ∧ New w A ∧ Below w.heap.size w w'
/-- a row, and whether there is one -/
def GivesP (r : List Int × Bool) (w : World) (e : Ending) (w' : World) : Prop :=
  ∃ A c, e = .returned (.tuple #[.slice A r.1.length c, .bool r.2]) ∧ r.1.length ≤ c ∧ c ≤ maxLen ∧ Lies w' w'.heap.size A r.1 ∧ New w A ∧ Below w.heap.size w w'
theorem givesP_nil {w w' : World} {b : Bool} (h : Below w.heap.size w w') : GivesP ([], b) w (.returned (.tuple #[.slice none 0 0, .bool b])) w' :=
  ⟨none, 0, rfl, Nat.le_refl _, by unfold maxLen; omega, fun h1 => absurd h1 (by simp), (fun _ e => by cases e), h⟩
instance (n : Int) (p : List Int) : Decidable (picksOk n p) := by unfold picksOk; exact inferInstance
instance (n : Int) (p : List Int) : Decidable (playOk n p) := by unfold playOk; exact inferInstance
instance (s : List Int) (n : Int) : Decidable (diffV s n) := by unfold diffV; exact inferInstance
instance (n : Int) (s : List Int) : Decidable (backOk n s) := by unfold backOk; exact inferInstance
def playV (n : Int) (p : List Int) : List Int × Bool := if playOk n p then (plyV p, true) else ([], false)
def backV (n : Int) (s : List Int) : List Int × Bool := if backOk n s then (bckV s, true) else ([], false)

/-- the row of the call's own, if it has places -/
def Own7 (w0 : World) (A : Option Addr) (N : Nat) (f : Int → Int) (w : World) : Prop := 0 < N → ∃ g, A = some ⟨g, 0, none⟩ ∧ w0.heap.size ≤ g ∧ OwnI w g (upF f N)
theorem Own7.below {w0 : World} {A : Option Addr} {N : Nat} {f : Int → Int} {w w' : World} (h : Own7 w0 A N f w) (hb : Below w.heap.size w w') : Own7 w0 A N f w' := fun h0 => by
  obtain ⟨g, e, h1, h2⟩ := h h0
  exact ⟨g, e, h1, h2.below hb h2.lt⟩
theorem Own7.lies {w0 : World} {A : Option Addr} {N : Nat} {f : Int → Int} {w : World} (h : Own7 w0 A N f w) {k : Nat} (hk : k ≤ N) : Lies w w.heap.size A (upF f k) := fun h0 => by
  rw [upF_len] at h0
  obtain ⟨g, rfl, h1, h2⟩ := h (by omega)
  obtain ⟨ad, e, hb, hc⟩ := h2.lies (by rw [upF_len]; omega)
  refine ⟨ad, e, hb, fun j hj => ?_⟩
  rw [upF_len] at hj
  rw [hc j (by rw [upF_len]; omega), upF_get f hj, upF_get f (by omega)]
theorem Own7.new {w0 : World} {A : Option Addr} {N : Nat} {f : Int → Int} {w : World} (h : Own7 w0 A N f w) (h0 : 0 < N) : New w0 A := fun ad e => by
  obtain ⟨g, rfl, h1, _⟩ := h h0
  cases e; exact h1

/-- it gives a row of so many places, each with its own number -/
def GivesR (N : Nat) (w : World) (e : Ending) (w' : World) : Prop := ∃ A c, e = .returned (.slice A N c) ∧ N ≤ c ∧ c ≤ maxLen ∧ Own7 w A N (fun x => x) w' ∧ Below w.heap.size w w'
set_option maxHeartbeats 1000000 in
theorem ref_row (N : Nat) (hN : N ≤ 256) (w : World) : Calls Try.prog 61 #[.int .i64 N] w (GivesR N w) := by
  go_enter Try.func61, Try.ntmps61
  go_wp2
  go_loopw [3, 4] (fun v i wr => ∃ (k : Nat) (l : List Int), k ≤ N ∧ i = .int .i64 k ∧ Hid (l = upF (fun x => x) k) ∧ Hid (wr.ownsRow w.heap.size 3 1 v l.length (litI l)) ∧ Hid (Below w.heap.size w wr)) (fun _ i _ => N - (intOf i).toNat)
  case atStart => exact ⟨0, [], by omega, rfl, rfl, World.ownsRow_nil _ _ _ _, Below.refl _ _⟩
  case round =>
    obtain ⟨k, l, hk, rfl, HL, HO, HB⟩ := hrel
    by_cases hlt : k < N
    · have hlg : (k : Int) < (N : Int) := by omega
      have hll : l.length + 1 ≤ 1000000000 := by rw [HL.out, upF_len]; omega
      have hsz := HB.out.size
      go_wp2_with (at_builtin; refine app_int rfl (.tmp 10) (.tmp 12) rfl _ l k rfl HO.out rfl hsz hll ?_; intro v' w4 hown4 hb4 _)
      refine ⟨⟨k + 1, l ++ [(k : Int)], by omega, by go_num, by show _ = _; rw [HL.out, upF_succ], hown4, HB.out.trans hb4⟩, by first | (simp [intOf]; done) | (simp [intOf]; omega)⟩
    · obtain rfl : k = N := by omega
      have hl := HL.out
      have ho := HO.out
      rw [hl] at ho
      obtain ⟨A, c, rfl, g1, g2, _⟩ := lies_ownI ho
      rw [upF_len] at g1
      have HQ : Hid (Own7 w A k (fun x => x) wr) := fun h0 => by
        obtain ⟨g, c', hv, hg, hc, hO⟩ := own_to ho (by rw [upF_len]; exact h0)
        cases hv
        exact ⟨g, rfl, hg, hO⟩
      have HL2 : Hid ((upF (fun x => x) k).length = k) := upF_len _ _
      clear ho hl
      rw [HL2.out]
      go_wp2
      go_ret
      exact ⟨A, c, rfl, g1, g2, HQ.out, HB.out⟩
end Go.Proofs.Ytehekdahlnpldaa
