/- BbH BbI BbJ -/
import Derived.Test.YtaeodkpkgbjaeaaBgD

/-! Layer 18 (bag): lives. -/
namespace Go.Proofs.Ytaeodkpkgbjaeaa
open Go.RowKit
set_option linter.unusedVariables false
set_option linter.unusedSimpArgs false

abbrev bagL3 : List PQ := [(3, 1), (1, 2), (1, 2)]
theorem lv_kth (w0 : World) (g : Nat) (bx : List (Nat × Array Value)) (W : World) (h : LvS w0 g bx bagL3 W) :
    Calls Try.prog 24 #[.pointer (some ⟨g, 0, none⟩), .int .i64 1] W fun e w' => e = .returned (.tuple #[.agg #[.int .i64 3, .int .i64 1], .int .i64 0]) ∧ Hid (LvS w0 g bx bagL3 w') := by
  have hL := h
  obtain ⟨O, h1, h2, h4, h5⟩ := h
  have K := bag_Kth O g bagL3 0 (by decide) W h1
  refine Calls.mono (by simpa using K) ?_
  rintro e w' ⟨rfl, hb⟩
  exact ⟨rfl, hL.below hb⟩
theorem lv_rank (w0 : World) (g : Nat) (bx : List (Nat × Array Value)) (W : World) (h : LvS w0 g bx bagL3 W) :
    Calls Try.prog 22 #[.pointer (some ⟨g, 0, none⟩), .agg #[.int .i64 1, .int .i64 2]] W fun e w' => e = .returned (.tuple #[.int .i64 1, .int .i64 2, .int .i64 0]) ∧ Hid (LvS w0 g bx bagL3 w') := by
  have hL := h
  obtain ⟨O, h1, h2, h4, h5⟩ := h
  refine (bag_Rank O g bagL3 1 2 (by unfold I64; omega) (by unfold I64; omega) W h1).mono ?_
  rintro e w' ⟨rfl, hb⟩
  refine ⟨?_, hL.below hb⟩
  unfold bagL3
  rw [lv_e5.1, lv_e5.2.1, lv_e5.2.2]; rfl
theorem lv_len (w0 : World) (g : Nat) (bx : List (Nat × Array Value)) (W : World) (h : LvS w0 g bx bagL3 W) :
    Calls Try.prog 19 #[.pointer (some ⟨g, 0, none⟩)] W fun e w' => e = .returned (.int .i64 3) ∧ W = w' := by
  obtain ⟨O, h1, h2, h4, h5⟩ := h
  exact bag_Len O g bagL3 W h1
theorem lv_all (w0 : World) (g : Nat) (bx : List (Nat × Array Value)) (W : World) (h : LvS w0 g bx bagL3 W) :
    Calls Try.prog 21 #[.pointer (some ⟨g, 0, none⟩)] W fun e w' => ∃ A c, e = .returned (.slice A 3 c) ∧ Hid (LvS w0 g bx bagL3 w') := by
  have hL := h
  obtain ⟨O, h1, h2, h4, h5⟩ := h
  refine (bag_all O g bagL3 W h1).mono ?_
  rintro e w' ⟨⟨v, rfl, hv⟩, hb⟩
  obtain ⟨A, c, rfl, -⟩ := OwnS.lies hv
  exact ⟨A, c, rfl, hL.below hb⟩
set_option maxRecDepth 100000 in
set_option maxHeartbeats 8000000 in
theorem lives18 (w : World) : Calls Try.prog 17 #[] w fun e w' => e = .returned (.bool true) ∧ Below w.heap.size w w' := by
  go_enter Try.func17, Try.ntmps17
  go_wp2_with fail
  refine (bag_new w).mono ?_
  rintro e w1 ⟨g, O, rfl, hB, hb, hlo⟩
  have H0 : Hid (LvS w g [(w1.heap.size, #[.int .i64 1, .int .i64 2])] [] (w1.alloc (.cells #[.int .i64 1, .int .i64 2] 24))) := by
    have hal : Below w1.heap.size w1 (w1.alloc (.cells #[.int .i64 1, .int .i64 2] 24)) := (Below.refl _ _).alloc (Nat.le_refl _) _
    refine ⟨O, hB.below hal, fun x hx => ?_, hlo, hb.trans (hal.mono hb.size)⟩
    rw [List.mem_singleton] at hx
    subst hx
    exact ⟨fun hx => by have := hB.lt _ hx; exact Nat.lt_irrefl _ this, Box.new _ _ _⟩
  clear hB hb hlo
  have HBX := Lib.hid (Box.new w1 #[.int .i64 0, .int .i64 0] 24)
  obtain ⟨s0, s1, f0, f1⟩ := HBX.out.two
  go_upto_region 5 with fail
  have c0 := H0.out.cells
  obtain ⟨c0, c1⟩ := c0
  generalize w1.alloc (.cells #[.int .i64 1, .int .i64 2] 24) = W0 at *
  generalize w1.heap.size = gh at *
  go_cut [3, 4, 5] from 13 to 25 (fun a b c wx => a = .int .i64 0 ∧ b = .int .i64 0 ∧ c = .int .i64 0 ∧ Hid (LvS w g [(gh, #[.int .i64 1, .int .i64 2])] bagL3 wx))
  case first =>
    go_wp2_with fail
    go_region_with (first
      | (go_at_call 25; with_reducible refine Calls.mono (lv_add w g gh (.int .i64 1) (.int .i64 2) [] [] [(1, 2)] 1 2 0 (by unfold I64; omega) (by unfold I64; omega) lv_e1.1 lv_e1.2 _ (by first | exact H0.out | exact H0.out.drew | exact H0.out.drewN _)) ?_; rintro e w2 ⟨rfl, ⟨c0, c1⟩, H1⟩)
      | (go_at_call 25; with_reducible refine Calls.mono (lv_add w g gh (.int .i64 1) (.int .i64 2) [] [(1, 2)] [(3, 1), (1, 2)] 3 1 0 (by unfold I64; omega) (by unfold I64; omega) lv_e2.1 lv_e2.2 _ (by first | exact H1.out | exact H1.out.drew | exact H1.out.drewN _)) ?_; rintro e w3 ⟨rfl, ⟨c0, c1⟩, H2⟩)
      | (go_at_call 25; with_reducible refine Calls.mono (lv_add w g gh (.int .i64 1) (.int .i64 2) [] [(3, 1), (1, 2)] [(3, 1), (1, 2), (1, 2)] 1 2 0 (by unfold I64; omega) (by unfold I64; omega) lv_e3.1 lv_e3.2 _ (by first | exact H2.out | exact H2.out.drew | exact H2.out.drewN _)) ?_; rintro e w4 ⟨rfl, ⟨c0, c1⟩, H3⟩))
    all_goals
      go_wp2_with fail
      simp only [Act.put, List.getElem_toArray, List.getElem_cons_succ, List.getElem_cons_zero, List.setIfInBounds_toArray, List.set_cons_succ, List.set_cons_zero]
      go_meet
      exact ⟨rfl, rfl, rfl, H3⟩
  case rest =>
  obtain ⟨rfl, rfl, rfl, HL⟩ := hcut
  clear H0 c0 c1 s0 s1 f0 f1 HBX
  go_wp2_with fail
  refine (lv_kth w g _ _ HL.out).mono ?_
  rintro e w2 ⟨rfl, H2⟩
  have HBX := Lib.hid (Box.new w2 #[.int .i64 0, .int .i64 0] 24)
  obtain ⟨s0, s1, f0, f1⟩ := HBX.out.two
  have H3 := Lib.hid (H2.out.more #[.int .i64 3, .int .i64 1])
  obtain ⟨c0, c1⟩ := H3.out.cells
  go_wp2_with fail
  refine (lv_rank w g _ _ H3.out).mono ?_
  rintro e w3 ⟨rfl, H4⟩
  clear s0 s1 f0 f1 c0 c1 HBX H3 H2
  go_wp2_with fail
  refine (lv_drop w g _ bagL3 bagL3 1 3 4 (by unfold I64; omega) (by unfold I64; omega) lv_e4.1 lv_e4.2 _ H4.out).mono ?_
  rintro e w4 ⟨rfl, H5⟩
  obtain ⟨c0, c1⟩ := H5.out.cells
  obtain ⟨d0, d1, _, _⟩ := (H5.out.box (gh := w2.heap.size) (cs := #[.int .i64 3, .int .i64 1]) (by simp)).two
  go_wp2_with fail
  refine (lv_len w g _ _ H5.out).mono ?_
  rintro e w5 ⟨rfl, rfl⟩
  go_wp2_with fail
  refine (lv_all w g _ _ H5.out).mono ?_
  rintro e w6 ⟨A, cc, rfl, H6⟩
  clear c0 c1 d0 d1
  obtain ⟨c0, c1⟩ := H6.out.cells
  go_wp2_with fail
  refine (bag_add0 1 2 (by unfold I64; omega) (by unfold I64; omega) _).mono ?_
  rintro e w7 ⟨rfl, b7⟩
  have H7 := Lib.hid (H6.out.below b7)
  clear b7 c0 c1
  go_wp2_with fail
  refine (bag_len0 _).mono ?_
  rintro e w8 ⟨rfl, rfl⟩
  go_wp2
  go_ret
  obtain ⟨O7, -, -, -, h7⟩ := H7.out
  exact ⟨rfl, h7⟩
end Go.Proofs.Ytaeodkpkgbjaeaa

/-! Layer 18 (bag): many scores put in; a score's places. -/
namespace Go.Proofs.Ytaeodkpkgbjaeaa
open Go.RowKit
set_option linter.unusedVariables false
set_option linter.unusedSimpArgs false

/-- the first i of them put in -/
def adds (l : List PQ) (i : Nat) : List PQ := (l.take i).foldl addL []
theorem adds_zero (l : List PQ) : adds l 0 = [] := rfl
theorem adds_succ (l : List PQ) (i : Nat) (h : i < l.length) : adds l (i + 1) = addL (adds l i) (l.getD i pq0) := by
  unfold adds
  have e : l.getD i pq0 = l[i] := by simp [List.getElem?_eq_getElem h]
  have e2 : l.take (i + 1) = l.take i ++ [l[i]] := by rw [List.take_add_one, List.getElem?_eq_getElem h]; rfl
  rw [e2, List.foldl_append, e]
  rfl
theorem posK_le (l : List PQ) (s : PQ) : posK l s ≤ l.length := List.countP_le_length
theorem addL_len (l : List PQ) (s : PQ) : (addL l s).length ≤ l.length + 1 := by
  unfold addL
  split
  · rw [insS_len _ _ _ (posK_le _ _)]; omega
  · omega
theorem adds_len (l : List PQ) : ∀ i, i ≤ l.length → (adds l i).length ≤ i
  | 0, _ => by rw [adds_zero]; simp
  | i + 1, h => by
    rw [adds_succ l i (by omega)]
    have := adds_len l i (by omega)
    have := addL_len (adds l i) (l.getD i pq0)
    omega
theorem insS_has (l : List PQ) (k : Nat) (s : PQ) : s ∈ insS l k s := by unfold insS; simp
theorem insS_old {l : List PQ} {k : Nat} {s x : PQ} (h : x ∈ l) : x ∈ insS l k s := by
  unfold insS
  rw [← List.take_append_drop k l] at h
  rcases List.mem_append.1 h with g | g
  · exact List.mem_append_left _ (List.mem_append_left _ g)
  · exact List.mem_append_right _ g
theorem addL_old {l : List PQ} {s x : PQ} (h : x ∈ l) : x ∈ addL l s := by
  unfold addL; split
  · exact insS_old h
  · exact h
theorem adds_mem (l : List PQ) (hl : l.length ≤ 4000) : ∀ k, k ≤ l.length → ∀ i, i < k → okP (l.getD i pq0) → l.getD i pq0 ∈ adds l k
  | 0, _, i, hi, _ => absurd hi (by omega)
  | k + 1, hk, i, hi, ho => by
    rw [adds_succ l k (by omega)]
    rcases Nat.lt_or_ge i k with g | g
    · exact addL_old (adds_mem l hl k (by omega) i g ho)
    · obtain rfl : i = k := by omega
      have h1 := adds_len l i (by omega)
      unfold addL
      rw [if_pos ⟨ho, by omega⟩]
      exact insS_has _ _ _
theorem MonoQ.cut {Q : PQ → Bool} : ∀ {l : List PQ}, MonoQ Q l → ∃ p, CutQ Q l p
  | [], _ => ⟨0, ⟨by simp, fun i h => absurd h (by omega), fun i _ h => absurd h (by simp)⟩⟩
  | x :: t, h => by
    cases hq : Q x with
    | true => exact ⟨0, ⟨by simp, fun i h => absurd h (by omega), fun i _ hi => h 0 i (by omega) hi (by simpa using hq)⟩⟩
    | false =>
      have ht : MonoQ Q t := fun i j hij hj hqi => by
        have := h (i + 1) (j + 1) (by omega) (by simpa using hj) (by simpa using hqi)
        simpa using this
      obtain ⟨p, hp⟩ := MonoQ.cut ht
      refine ⟨p + 1, ⟨by have := hp.le; simp; omega, fun i hi => ?_, fun i h1 h2 => ?_⟩⟩
      · cases i with
        | zero => simpa using hq
        | succ i => have := hp.no i (by omega); simpa using this
      · cases i with
        | zero => omega
        | succ i => have := hp.yes i (by omega) (by simpa using h2); simpa using this
/-- where a score's places are -/
theorem UpS.places {l : List PQ} (h : UpS l) {s : PQ} (hs : okP s) (hm : s ∈ l) : 1 ≤ sameN l s ∧ lessN l s + sameN l s ≤ l.length ∧ l.getD (lessN l s) pq0 = s ∧ l.getD (lessN l s + sameN l s - 1) pq0 = s := by
  obtain ⟨p1, c1⟩ := (h.mono1 hs).cut
  obtain ⟨p2, c2⟩ := (h.mono2 hs).cut
  have e1 : p1 = lessN l s := by rw [← h.less hs]; exact c1.count.symm
  have e2 : p2 = lessN l s + sameN l s := by rw [← h.both hs]; exact c2.count.symm
  rw [e1] at c1
  rw [e2] at c2
  obtain ⟨j, hj, e⟩ := List.getElem_of_mem hm
  have ej : l.getD j pq0 = s := by simp [List.getElem?_eq_getElem hj, e]
  have key : ∀ m, lessN l s ≤ m → m < lessN l s + sameN l s → l.getD m pq0 = s := fun m h1 h2 => by
    have y := c1.yes m h1 (by have := c2.le; omega)
    have n := c2.no m h2
    unfold upB at y
    simp only [n, Bool.or_false] at y
    exact of_decide_eq_true y
  have j1 : lessN l s ≤ j := by
    rcases Nat.lt_or_ge j (lessN l s) with g | g
    · have := c1.no j g
      rw [ej] at this
      unfold upB at this
      simp at this
    · exact g
  have j2 : j < lessN l s + sameN l s := by
    rcases Nat.lt_or_ge j (lessN l s + sameN l s) with g | g
    · exact g
    · have y := c2.yes j g hj
      rw [ej] at y
      exact absurd (by rw [leS_iff]; omega) ((byB_iff hs hs).1 y)
  exact ⟨by omega, c2.le, key _ (Nat.le_refl _) (by omega), key _ (by omega) (by omega)⟩
theorem LvS.up {w0 W : World} {g : Nat} {bx : List (Nat × Array Value)} {l : List PQ} (h : LvS w0 g bx l W) : UpS l ∧ l.length ≤ 4096 ∧ Below w0.heap.size w0 W := by
  obtain ⟨O, h1, h2, h4, h5⟩ := h
  obtain ⟨_, _, _, _, _, _, _, _, _, hU, hl⟩ := h1
  exact ⟨hU, hl, h5⟩
theorem lvx_add (w0 : World) (g : Nat) (bx : List (Nat × Array Value)) (l : List PQ) (p q : Int) (hp : I64 p) (hq : I64 q) (W : World) (h : LvS w0 g bx l W) :
    Calls Try.prog 25 #[.pointer (some ⟨g, 0, none⟩), .agg #[.int .i64 p, .int .i64 q]] W fun e w' => e = .returned (.int .i64 (addE l (p, q))) ∧ Hid (LvS w0 g bx (addL l (p, q)) w') := by
  obtain ⟨O, h1, h2, h4, h5⟩ := h
  refine (bag_Add O g l p q hp hq W h1).mono ?_
  rintro e w' hR
  obtain ⟨he, hL⟩ := LvS.of h1 h2 h4 h5 hR
  exact ⟨he, hL⟩
theorem lvx_rank (w0 : World) (g : Nat) (bx : List (Nat × Array Value)) (l : List PQ) (p q : Int) (hp : I64 p) (hq : I64 q) (W : World) (h : LvS w0 g bx l W) :
    Calls Try.prog 22 #[.pointer (some ⟨g, 0, none⟩), .agg #[.int .i64 p, .int .i64 q]] W fun e w' => e = .returned (.tuple #[.int .i64 (rkL l (p, q) : Nat), .int .i64 (rkS l (p, q) : Nat), .int .i64 (rkE (p, q))]) ∧ Hid (LvS w0 g bx l w') ∧ Hid (Below W.heap.size W w') := by
  have hL := h
  obtain ⟨O, h1, h2, h4, h5⟩ := h
  refine (bag_Rank O g l p q hp hq W h1).mono ?_
  rintro e w' ⟨rfl, hb⟩
  exact ⟨rfl, hL.below hb, hb⟩
theorem lvx_kth (w0 : World) (g : Nat) (bx : List (Nat × Array Value)) (l : List PQ) (k : Nat) (x p q : Int) (hx : x = (k : Int) + 1) (hk : k < l.length) (he : l.getD k pq0 = (p, q)) (W : World) (h : LvS w0 g bx l W) :
    Calls Try.prog 24 #[.pointer (some ⟨g, 0, none⟩), .int .i64 x] W fun e w' => e = .returned (.tuple #[.agg #[.int .i64 p, .int .i64 q], .int .i64 0]) ∧ Hid (LvS w0 g bx l w') ∧ Hid (Below W.heap.size W w') := by
  have hL := h
  obtain ⟨O, h1, h2, h4, h5⟩ := h
  subst hx
  refine (bag_Kth O g l k hk W h1).mono ?_
  rintro e w' ⟨rfl, hb⟩
  rw [he]
  exact ⟨rfl, hL.below hb, hb⟩
theorem lvx_len (w0 : World) (g : Nat) (bx : List (Nat × Array Value)) (l : List PQ) (W : World) (h : LvS w0 g bx l W) :
    Calls Try.prog 19 #[.pointer (some ⟨g, 0, none⟩)] W fun e w' => e = .returned (.int .i64 (l.length : Nat)) ∧ W = w' := by
  obtain ⟨O, h1, h2, h4, h5⟩ := h
  exact bag_Len O g l W h1
end Go.Proofs.Ytaeodkpkgbjaeaa

/-! Layer 18 (bag): two bags beside each other; in which order the scores came is of no matter. -/
namespace Go.Proofs.Ytaeodkpkgbjaeaa
open Go.RowKit
set_option linter.unusedVariables false
set_option linter.unusedSimpArgs false

theorem insS_perm (l : List PQ) (k : Nat) (s : PQ) : (insS l k s).Perm (s :: l) := by
  unfold insS
  have e : l.take k ++ l.drop k = l := List.take_append_drop k l
  rw [List.append_assoc]
  refine (List.perm_middle (l₁ := l.take k) (a := s) (l₂ := l.drop k)).trans ?_
  rw [e]
theorem erase_perm (l : List PQ) (i : Nat) (h : i < l.length) : (l[i] :: l.eraseIdx i).Perm l := by
  rw [List.eraseIdx_eq_take_drop_succ]
  have e : l = l.take i ++ l[i] :: l.drop (i + 1) := by rw [← List.drop_eq_getElem_cons h, List.take_append_drop]
  conv => rhs; rw [e]
  exact List.perm_middle.symm
theorem UpS.same {a b : List PQ} (ha : UpS a) (hb : UpS b) (h : a.Perm b) : a = b := by
  refine List.Perm.eq_of_pairwise (le := leS) ?_ ha.up hb.up h
  intro x y hx hy h1 h2
  exact leS_anti (ha.ok x hx) (hb.ok y hy) h1 h2
theorem UpS.addL {l : List PQ} (h : UpS l) (s : PQ) : UpS (addL l s) := by
  unfold Go.Proofs.Ytaeodkpkgbjaeaa.addL
  split
  · rename_i hc
    obtain ⟨p, hp⟩ := (h.mono2 hc.1).cut
    have : posK l s = p := hp.count
    rw [this]
    exact h.ins hc.1 hp
  · exact h
theorem adds_up (l : List PQ) : ∀ i, i ≤ l.length → UpS (adds l i)
  | 0, _ => by rw [adds_zero]; exact UpS.nil
  | i + 1, h => by rw [adds_succ l i (by omega)]; exact (adds_up l i (by omega)).addL _
theorem adds_perm (l : List PQ) (hl : l.length ≤ 4000) : ∀ i, i ≤ l.length → (adds l i).Perm ((l.take i).filter fun x => decide (okP x))
  | 0, _ => by rw [adds_zero]; simp
  | i + 1, h => by
    have hi : i < l.length := by omega
    have ih := adds_perm l hl i (by omega)
    have hlen := adds_len l i (by omega)
    have e : l.getD i pq0 = l[i] := by simp [List.getElem?_eq_getElem hi]
    have e2 : l.take (i + 1) = l.take i ++ [l[i]] := by rw [List.take_add_one, List.getElem?_eq_getElem hi]; rfl
    rw [adds_succ l i hi, e, e2, List.filter_append]
    unfold addL
    by_cases ho : okP l[i]
    · rw [if_pos ⟨ho, by omega⟩]
      refine (insS_perm _ _ _).trans ?_
      have e3 : [l[i]].filter (fun x => decide (okP x)) = [l[i]] := by simp [ho]
      rw [e3]
      exact (List.Perm.cons _ ih).trans (List.perm_append_singleton _ _).symm
    · rw [if_neg (fun h => ho h.1)]
      have e3 : [l[i]].filter (fun x => decide (okP x)) = [] := by simp [ho]
      rw [e3, List.append_nil]
      exact ih
/-- IN WHICH ORDER THEY CAME IS OF NO MATTER -/
theorem adds_rev (l : List PQ) (hl : l.length ≤ 4000) : adds l.reverse l.length = adds l l.length := by
  have h1 := adds_perm l hl l.length (Nat.le_refl _)
  have h2 := adds_perm l.reverse (by rw [List.length_reverse]; exact hl) l.length (by rw [List.length_reverse]; exact Nat.le_refl _)
  rw [List.take_length] at h1
  rw [List.take_of_length_le (by rw [List.length_reverse]; exact Nat.le_refl _), List.filter_reverse] at h2
  exact (adds_up _ _ (by rw [List.length_reverse]; exact Nat.le_refl _)).same (adds_up _ _ (Nat.le_refl _)) ((h2.trans (List.reverse_perm _)).trans h1.symm)
/-- what is put in and taken out again changes nothing -/
theorem drop_add {l : List PQ} (h : UpS l) (hl : l.length < 4096) (s : PQ) : dropE (addL l s) s = addE l s ∧ dropL (addL l s) s = l := by
  by_cases ho : okP s
  · have e1 : addE l s = 0 := by unfold addE; rw [if_pos ho, if_neg (by omega)]
    have e2 : addL l s = insS l (posK l s) s := by unfold addL; rw [if_pos ⟨ho, hl⟩]
    have hm : s ∈ addL l s := by rw [e2]; exact insS_has _ _ _
    have hU := h.addL s
    have e3 : dropE (addL l s) s = 0 := by unfold dropE; rw [if_pos ho, if_pos hm]
    refine ⟨by rw [e1, e3], ?_⟩
    have e4 : dropL (addL l s) s = (addL l s).eraseIdx (posK (addL l s) s - 1) := by unfold dropL; rw [if_pos ⟨ho, hm⟩]
    obtain ⟨p, hp⟩ := (hU.mono2 ho).cut
    have epk : posK (addL l s) s = p := hp.count
    obtain ⟨j, hj, e⟩ := List.getElem_of_mem hm
    have ej : (addL l s).getD j pq0 = s := by simp [List.getElem?_eq_getElem hj, e]
    obtain ⟨t1, t2⟩ := hU.there ho hp hj ej
    have hlast : (addL l s).getD (p - 1) pq0 = s := t2 (p - 1) (by omega) (Nat.le_refl _)
    have hpl : p - 1 < (addL l s).length := by have := hp.le; omega
    rw [e4, epk]
    refine (hU.del (p - 1)).same h ?_
    have q1 : (addL l s).Perm (s :: (addL l s).eraseIdx (p - 1)) := by
      have := erase_perm (addL l s) (p - 1) hpl
      have e5 : (addL l s)[p - 1] = s := by
        have : (addL l s).getD (p - 1) pq0 = (addL l s)[p - 1] := by simp [List.getElem?_eq_getElem hpl]
        rw [← this]; exact hlast
      rw [e5] at this
      exact this.symm
    have q2 : (addL l s).Perm (s :: l) := by rw [e2]; exact insS_perm _ _ _
    exact (q1.symm.trans q2).cons_inv
  · have e1 : addE l s = 130 := by unfold addE; rw [if_neg ho]
    have e2 : addL l s = l := by unfold addL; rw [if_neg (fun h => ho h.1)]
    have e3 : dropE l s = 130 := by unfold dropE; rw [if_neg ho]
    have e4 : dropL l s = l := by unfold dropL; rw [if_neg (fun h => ho h.1)]
    rw [e2, e1, e3, e4]; exact ⟨rfl, rfl⟩
/-- two bags beside boxes, in memory that is newer than w0 -/
def Lv2 (w0 : World) (g1 g2 : Nat) (bx : List (Nat × Array Value)) (l1 l2 : List PQ) (W : World) : Prop :=
  ∃ O1 O2, BagAt W O1 g1 l1 ∧ BagAt W O2 g2 l2 ∧ (∀ x ∈ O1, x ∉ O2) ∧ (∀ x ∈ bx, x.1 ∉ O1 ∧ x.1 ∉ O2 ∧ Box W x.1 x.2 24) ∧ (∀ x ∈ O1, w0.heap.size ≤ x) ∧ (∀ x ∈ O2, w0.heap.size ≤ x) ∧ Below w0.heap.size w0 W
theorem Lv2.below {w0 W W' : World} {g1 g2 : Nat} {bx : List (Nat × Array Value)} {l1 l2 : List PQ} (h : Lv2 w0 g1 g2 bx l1 l2 W) (hb : Below W.heap.size W W') : Lv2 w0 g1 g2 bx l1 l2 W' := by
  obtain ⟨O1, O2, h1, h2, h3, h4, h5, h6, h7⟩ := h
  exact ⟨O1, O2, h1.below hb, h2.below hb, h3, fun x hx => ⟨(h4 x hx).1, (h4 x hx).2.1, (h4 x hx).2.2.below hb (h4 x hx).2.2.lt⟩, h5, h6, h7.trans (hb.mono h7.size)⟩
theorem Lv2.cells {w0 W : World} {g1 g2 gh : Nat} {a b : Value} {bx : List (Nat × Array Value)} {l1 l2 : List PQ} (h : Lv2 w0 g1 g2 ((gh, #[a, b]) :: bx) l1 l2 W) : W.cell? ⟨gh, 0, none⟩ = some a ∧ W.cell? ⟨gh, 1, none⟩ = some b := by
  obtain ⟨O1, O2, h1, h2, h3, h4, h5, h6, h7⟩ := h
  have := (h4 (gh, #[a, b]) (by simp)).2.2
  exact ⟨(this.cell 0).trans rfl, (this.cell 1).trans rfl⟩
theorem Lv2.up {w0 W : World} {g1 g2 : Nat} {bx : List (Nat × Array Value)} {l1 l2 : List PQ} (h : Lv2 w0 g1 g2 bx l1 l2 W) : UpS l1 ∧ UpS l2 ∧ Below w0.heap.size w0 W := by
  obtain ⟨O1, O2, h1, h2, h3, h4, h5, h6, h7⟩ := h
  obtain ⟨_, _, _, _, _, _, _, _, _, hU1, _⟩ := h1
  obtain ⟨_, _, _, _, _, _, _, _, _, hU2, _⟩ := h2
  exact ⟨hU1, hU2, h7⟩
theorem Lv2.turn {w0 W : World} {g1 g2 : Nat} {bx : List (Nat × Array Value)} {l1 l2 : List PQ} (h : Lv2 w0 g1 g2 bx l1 l2 W) : Lv2 w0 g2 g1 bx l2 l1 W := by
  obtain ⟨O1, O2, h1, h2, h3, h4, h5, h6, h7⟩ := h
  exact ⟨O2, O1, h2, h1, fun x hx hy => h3 x hy hx, fun x hx => ⟨(h4 x hx).2.1, (h4 x hx).1, (h4 x hx).2.2⟩, h6, h5, h7⟩
theorem Lv2.of {w0 W W' : World} {g1 g2 : Nat} {bx : List (Nat × Array Value)} {l1 l2 l' : List PQ} {x : Int} {e : Ending} {O1 O2 : List Nat} (h1 : BagAt W O1 g1 l1) (h2 : BagAt W O2 g2 l2) (h3 : ∀ x ∈ O1, x ∉ O2) (h4 : ∀ x ∈ bx, x.1 ∉ O1 ∧ x.1 ∉ O2 ∧ Box W x.1 x.2 24) (h5 : ∀ x ∈ O1, w0.heap.size ≤ x) (h6 : ∀ x ∈ O2, w0.heap.size ≤ x) (h7 : Below w0.heap.size w0 W)
    (h : BgR W O1 g1 x l' e W') : e = .returned (.int .i64 x) ∧ Lv2 w0 g1 g2 bx l' l2 W' := by
  obtain ⟨he, O', k1, k2, k3⟩ := h
  refine ⟨he, O', O2, k1, h2.keep fun x hx => k2.block x (h2.lt x hx) fun hy => h3 x hy hx, fun y hy hz => ?_, fun y hy => ⟨fun hx => ?_, (h4 y hy).2.1, k2.box (h4 y hy).2.2 (h4 y hy).1⟩, fun x hx => ?_, h6, h7.trans (k2.low _ h7.size h5)⟩
  · rcases k3 _ hy with g | g
    · exact h3 y g hz
    · have := h2.lt y hz; omega
  · rcases k3 _ hx with g | g
    · exact (h4 y hy).1 g
    · have := (h4 y hy).2.2.lt; omega
  · rcases k3 _ hx with g | g
    · exact h5 x g
    · have := h7.size; omega
theorem lv2_add (w0 : World) (g1 g2 : Nat) (bx : List (Nat × Array Value)) (l1 l2 : List PQ) (p q : Int) (hp : I64 p) (hq : I64 q) (W : World) (h : Lv2 w0 g1 g2 bx l1 l2 W) :
    Calls Try.prog 25 #[.pointer (some ⟨g1, 0, none⟩), .agg #[.int .i64 p, .int .i64 q]] W fun e w' => e = .returned (.int .i64 (addE l1 (p, q))) ∧ Hid (Lv2 w0 g1 g2 bx (addL l1 (p, q)) l2 w') := by
  obtain ⟨O1, O2, h1, h2, h3, h4, h5, h6, h7⟩ := h
  refine (bag_Add O1 g1 l1 p q hp hq W h1).mono ?_
  rintro e w' hR
  obtain ⟨he, hL⟩ := Lv2.of h1 h2 h3 h4 h5 h6 h7 hR
  exact ⟨he, hL⟩
theorem lv2_drop (w0 : World) (g1 g2 : Nat) (bx : List (Nat × Array Value)) (l1 l2 : List PQ) (p q : Int) (hp : I64 p) (hq : I64 q) (W : World) (h : Lv2 w0 g1 g2 bx l1 l2 W) :
    Calls Try.prog 27 #[.pointer (some ⟨g1, 0, none⟩), .agg #[.int .i64 p, .int .i64 q]] W fun e w' => e = .returned (.int .i64 (dropE l1 (p, q))) ∧ Hid (Lv2 w0 g1 g2 bx (dropL l1 (p, q)) l2 w') := by
  obtain ⟨O1, O2, h1, h2, h3, h4, h5, h6, h7⟩ := h
  refine (bag_Drop O1 g1 l1 p q hp hq W h1).mono ?_
  rintro e w' hR
  obtain ⟨he, hL⟩ := Lv2.of h1 h2 h3 h4 h5 h6 h7 hR
  exact ⟨he, hL⟩
theorem lv2_add2 (w0 : World) (g1 g2 : Nat) (bx : List (Nat × Array Value)) (l1 l2 : List PQ) (p q : Int) (hp : I64 p) (hq : I64 q) (W : World) (h : Lv2 w0 g1 g2 bx l1 l2 W) :
    Calls Try.prog 25 #[.pointer (some ⟨g2, 0, none⟩), .agg #[.int .i64 p, .int .i64 q]] W fun e w' => e = .returned (.int .i64 (addE l2 (p, q))) ∧ Hid (Lv2 w0 g1 g2 bx l1 (addL l2 (p, q)) w') :=
  (lv2_add w0 g2 g1 bx l2 l1 p q hp hq W h.turn).mono fun e w' ⟨he, hL⟩ => ⟨he, Lv2.turn hL⟩
theorem lv2_drop2 (w0 : World) (g1 g2 : Nat) (bx : List (Nat × Array Value)) (l1 l2 : List PQ) (p q : Int) (hp : I64 p) (hq : I64 q) (W : World) (h : Lv2 w0 g1 g2 bx l1 l2 W) :
    Calls Try.prog 27 #[.pointer (some ⟨g2, 0, none⟩), .agg #[.int .i64 p, .int .i64 q]] W fun e w' => e = .returned (.int .i64 (dropE l2 (p, q))) ∧ Hid (Lv2 w0 g1 g2 bx l1 (dropL l2 (p, q)) w') :=
  (lv2_drop w0 g2 g1 bx l2 l1 p q hp hq W h.turn).mono fun e w' ⟨he, hL⟩ => ⟨he, Lv2.turn hL⟩
/-- all of a bag, in a row of its own -/
theorem lv2_all (w0 : World) (g1 g2 : Nat) (bx : List (Nat × Array Value)) (l1 l2 : List PQ) (W : World) (h : Lv2 w0 g1 g2 bx l1 l2 W) :
    Calls Try.prog 21 #[.pointer (some ⟨g1, 0, none⟩)] W fun e w' => ∃ A c, e = .returned (.slice A l1.length c) ∧ Hid (l1.length ≤ c ∧ LiesS w' w'.heap.size A l1 ∧ Below W.heap.size W w' ∧ Lv2 w0 g1 g2 bx l1 l2 w') := by
  have hL := h
  obtain ⟨O1, O2, h1, h2, h3, h4, h5, h6, h7⟩ := h
  refine (bag_all O1 g1 l1 W h1).mono ?_
  rintro e w' ⟨⟨v, rfl, hv⟩, hb⟩
  rcases hv.2 with ⟨hv1, h0⟩ | ⟨g, cap, cur, hv1, -, -, hnc, -⟩
  · have h0' : l1 = [] := List.eq_nil_of_length_eq_zero h0
    subst h0'
    exact ⟨none, 0, by rw [hv1]; rfl, by simp, LiesS.nil, hb, hL.below hb⟩
  · obtain ⟨A, c, e2, hl⟩ := OwnS.lies hv
    subst hv1
    cases e2
    exact ⟨_, cap, rfl, hnc, hl, hb, hL.below hb⟩
theorem lv2_len (w0 : World) (g1 g2 : Nat) (bx : List (Nat × Array Value)) (l1 l2 : List PQ) (W : World) (h : Lv2 w0 g1 g2 bx l1 l2 W) :
    Calls Try.prog 19 #[.pointer (some ⟨g1, 0, none⟩)] W fun e w' => e = .returned (.int .i64 (l1.length : Nat)) ∧ W = w' := by
  obtain ⟨O1, O2, h1, h2, h3, h4, h5, h6, h7⟩ := h
  exact bag_Len O1 g1 l1 W h1
end Go.Proofs.Ytaeodkpkgbjaeaa
