/- The contract of copseref02.Text. -/
import Derived.Test.YtiepfkhbebdkeaaDoorWideT
import Derived.Test.YtiepfkhbebdkeaaDoorWideQ
import Derived.Laws.AppendOwnNone
namespace Go.Proofs.YtiepfkhbebdkeaaDoor
open Go.RowKit

theorem txt_len (k : Nat) : ∀ n : Nat, n < 10 ^ (k + 1) → (txt n).length ≤ k + 1 := by
  induction k with
  | zero => intro n h; rw [txt_small (by simpa using h)]; simp
  | succ k ih =>
    intro n h
    by_cases hs : n < 10
    · rw [txt_small hs]; simp
    · rw [txt_big hs, List.length_append]
      have := ih (n / 10) (by rw [Nat.pow_succ] at h; omega)
      simp only [List.length_cons, List.length_nil]; omega
theorem txt_ne (n : Nat) : txt n ≠ [] := by
  by_cases hs : n < 10
  · rw [txt_small hs]; simp
  · rw [txt_big hs]; simp
/-- what is still to be told, and what is told already, of n -/
def TextInv (N V : Int) (suf : List UInt8) : Prop := 0 ≤ V ∧ V < pw 40 ∧ (N = 0 → V = 0 ∧ suf = []) ∧ (0 < N → txt N.toNat = (if V = 0 then [] else txt V.toNat) ++ suf)
theorem textInv_step {N V : Int} {suf : List UInt8} (h : TextInv N V suf) (hV : 0 < V) (c : UInt8) (hc : (c.toNat : Int) = 48 + V % 10) : TextInv N (V / 10) (c :: suf) := by
  obtain ⟨h0, h1, h2, h3⟩ := h
  have hN : N ≠ 0 := fun hc => by have := (h2 hc).1; omega
  refine ⟨by omega, by omega, fun h => absurd h hN, fun hp => ?_⟩
  rw [h3 hp, if_neg (by omega)]
  have ec : c = UInt8.ofNat (48 + V.toNat % 10) := by
    apply UInt8.toNat_inj.1
    rw [UInt8.toNat_ofNat_of_lt' (by show _ < 256; omega)]; omega
  by_cases hs : V < 10
  · rw [if_pos (by omega), txt_small (by omega), ec]
    have : V.toNat % 10 = V.toNat := by omega
    rw [this]; rfl
  · rw [if_neg (by omega), txt_big (by omega), ec]
    have : (V / 10).toNat = V.toNat / 10 := by omega
    rw [this, List.append_assoc]; rfl
theorem textInv_len {N V : Int} {suf : List UInt8} (h : TextInv N V suf) (hV : 0 < V) (hN : 0 ≤ N ∧ N < 1000000000000000000000000000000000000000) : suf.length < 39 := by
  obtain ⟨h0, h1, h2, h3⟩ := h
  have hp : 0 < N := by
    rcases Int.lt_or_le 0 N with h | h
    · exact h
    · have := (h2 (by omega)).1; omega
  have h4 := h3 hp
  rw [if_neg (by omega)] at h4
  have h5 := txt_len 38 N.toNat (by show _ < 10 ^ 39; omega)
  have h6 := List.length_pos_iff.2 (txt_ne V.toNat)
  rw [h4, List.length_append] at h5
  omega
theorem textInv_end {N : Int} {suf : List UInt8} (h : TextInv N 0 suf) (hN : 0 ≤ N) : txt N.toNat = (if suf = [] then [48] else suf) := by
  obtain ⟨h0, h1, h2, h3⟩ := h
  by_cases hz : N = 0
  · rw [(h2 hz).2, if_pos rfl, hz]; exact txt_small (by decide)
  · have h4 := h3 (by omega)
    rw [if_pos rfl, List.nil_append] at h4
    have := txt_ne N.toNat
    rw [h4] at this
    rw [h4, if_neg this]

def strLen : Value → Nat | .string s => s.size | _ => 0
theorem digs_cons {Q e : Int} (he : 0 ≤ e ∧ e < 65536) (hQ : 0 ≤ Q) (h : 0 < e ∨ 0 < Q) : digs (Q * 65536 + e) = e :: digs Q := by
  rw [digs_s (by omega)]
  congr 1
  · omega
  · congr 1; omega
/-- the part of a tenth that is there -/
def NextIs (w : World) (Q : Int) (v : Value) : Prop := IsBig w Q v ∧ (Q = 0 → v = .slice none 0 0)
theorem NextIs.below {w w' : World} {Q : Int} {v : Value} (h : NextIs w Q v) (hb : Below w.heap.size w w') : NextIs w' Q v := ⟨h.1.below hb, h.2⟩
theorem own_one (B : Nat) (wr : World) (e : Int) (hB : B ≤ wr.heap.size) : (wr.alloc (.cells #[.int .i64 e] 3)).ownsRow B 3 1 (.slice (some ⟨wr.heap.size, 0, none⟩) 1 1) 1 (lits [e]) :=
  ⟨rfl, .inr ⟨wr.heap.size, 1, #[.int .i64 e], rfl, hB, heap_alloc_new wr _, by omega, by unfold maxLen; omega, rfl, rfl⟩⟩
/-- the rest of a number behind its lowest digit -/
theorem app_big {wr : World} {ops : Array Oper} {rest : List Oper} {o : Oper} {a : Act} {Q : Exit → Act → World → Prop} (hgd : o.guard = none) (s x : Operand)
    (ho : o.op = .call { callee := .builtin .append, args := #[s, x], argTypes := #[68, 68] })
    (e n : Int) (v : Value) (hn : NextIs wr n v) (he : 0 ≤ e ∧ e < 65536) (hen : 0 < e ∨ 0 < n) (hl : n < pw 40)
    (hs : a.eval s = .slice (some ⟨wr.heap.size, 0, none⟩) 1 1) (hx : a.eval x = v)
    (h : ∀ v' w', NextIs w' (n * 65536 + e) v' → Below wr.heap.size wr w' → wpList Tryd.prog ops Q rest (a.put o.dst v') w') :
    wpList Tryd.prog ops Q (o :: rest) a (wr.alloc (.cells #[.int .i64 e] 3)) := by
  obtain ⟨i0, hi, hz0, hz1, hz2⟩ := info_parts info_int
  obtain ⟨hb, hnil⟩ := hn
  have hown := own_one wr.heap.size wr e (Nat.le_refl _)
  rcases Int.lt_or_le 0 n with hp | hp
  · obtain ⟨h0, A, c, rfl, hL⟩ := hb
    have hpos : 0 < (digs n).length := by rw [digs_s hp]; simp
    obtain ⟨ad, rfl, hadb, hcell⟩ := hL hpos
    have h40 := digs_len n 40 hl
    refine wpList_append_own _ hgd s x 68 ho wr.heap.size 3 i0 (.int .i64 0) 1 8 Tryd.underlying68 hi hz0 hz1 hz2 rfl (by decide) _ 1 (lits [e]) hs hown ad (digs n).length c (lits (digs n)) hx (by rw [lits_len]; omega) ?_ ?_ ?_ ?_ ?_ ?_
    · intro j u hj
      have hjl : j < (digs n).length := by
        have := (List.getElem?_eq_some_iff.1 hj).1
        rw [lits_len] at this; exact this
      rw [lits_get _ j hjl] at hj
      rw [((Below.refl wr.heap.size wr).alloc (Nat.le_refl _) (.cells #[.int .i64 e] 3)).cell (p := ad.add j) (by rw [add_block]; exact hadb), hcell j hjl]
      exact hj
    · intro u hu
      unfold lits at hu
      obtain ⟨k, _, rfl⟩ := List.mem_map.1 hu
      rfl
    · unfold maxLen; omega
    · omega
    · simp
    · intro v' w' h1 h2 _
      have hB : Below wr.heap.size wr w' := by
        refine ((Below.refl _ _).alloc (Nat.le_refl _) _).grown h2 (by simp) fun k hk => ?_
        simp [Value.ownBlock] at hk
        omega
      refine h v' w' ⟨⟨by omega, ?_⟩, fun hc => absurd hc (by omega)⟩ hB
      have h3 : w'.ownsRow wr.heap.size 3 1 v' (digs (n * 65536 + e)).length (lits (digs (n * 65536 + e))) := by
        rw [digs_cons he h0 hen, List.length_cons, Nat.add_comm]
        exact h1
      obtain ⟨A, c2, e1, _, _, hL2⟩ := lies_own h3
      exact ⟨A, c2, e1, hL2⟩
  · obtain rfl : n = 0 := by have := hb.1; omega
    obtain rfl := hnil rfl
    refine wpList_append_own_none hgd s x 68 ho wr.heap.size 3 i0 1 Tryd.underlying68 hi _ 1 (lits [e]) hs hown hx ?_
    refine h _ _ ⟨?_, fun hc => absurd hc (by omega)⟩ ((Below.refl _ _).alloc (Nat.le_refl _) _)
    rw [show (0 : Int) * 65536 + e = e by omega]
    exact is_small wr e (by omega)
set_option maxRecDepth 100000 in
theorem slice_digit (r : Int) (hr : 0 ≤ r ∧ r ≤ 9) (W : World) : (Instr.slice 9 (.string ⟨#[48, 49, 50, 51, 52, 53, 54, 55, 56, 57]⟩) (some (.int .i64 r)) (some (.int .i64 (r + 1))) none).run Tryd.prog W = .ok (.string ⟨#[UInt8.ofNat (48 + r.toNat)]⟩) W := by
  have h : r = 0 ∨ r = 1 ∨ r = 2 ∨ r = 3 ∨ r = 4 ∨ r = 5 ∨ r = 6 ∨ r = 7 ∨ r = 8 ∨ r = 9 := by omega
  rcases h with rfl | rfl | rfl | rfl | rfl | rfl | rfl | rfl | rfl | rfl <;> rfl
theorem rets {a b : List UInt8} (h : a = b) : Ending.returned (.string ⟨a.toArray⟩) = .returned (.string ⟨b.toArray⟩) := by rw [h]
theorem IsBig.len {w : World} {n : Int} {v : Value} (h : IsBig w n v) : ∃ A c, v = .slice A (digs n).length c := by
  obtain ⟨_, A, c, e, _⟩ := h
  exact ⟨A, c, e⟩
end Go.Proofs.YtiepfkhbebdkeaaDoor
