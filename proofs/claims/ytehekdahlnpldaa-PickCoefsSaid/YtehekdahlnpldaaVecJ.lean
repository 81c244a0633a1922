import Derived.Test.YtehekdahlnpldaaVecI

/-! Package vec: copied, the closure of Box; rows of the call's own that are stored into. -/
namespace Go.Proofs.Ytehekdahlnpldaa
open Go.RowKit
set_option linter.unusedVariables false
set_option linter.unusedSimpArgs false

/-- block g holds the numbers l at its head -/
def OwnI (w : World) (g : Nat) (l : List Int) : Prop := ∃ cs : Array Value, w.heap[g]? = some (.cells cs 3 (0, 0)) ∧ cs.toList.take l.length = litI l
theorem OwnI.lt {w : World} {g : Nat} {l : List Int} (h : OwnI w g l) : g < w.heap.size := by
  obtain ⟨cs, hh, _⟩ := h
  rcases Nat.lt_or_ge g w.heap.size with h | h
  · exact h
  · rw [Array.getElem?_eq_none h] at hh; cases hh
theorem OwnI.cell {w : World} {g : Nat} {l : List Int} (h : OwnI w g l) {k : Nat} (hk : k < l.length) : w.cell? ⟨g, k, none⟩ = some (.int .i64 (l.getD k 0)) := by
  obtain ⟨cs, hh, hx⟩ := h
  refine (cell_of_row w g k _ _ (0, 0) hh).trans ?_
  rw [← litI_get l k hk, ← hx, List.getElem?_take, if_pos hk]
  simp
theorem OwnI.free {w : World} {g : Nat} {l : List Int} (h : OwnI w g l) (k : Nat) : w.frozen? ⟨g, k, none⟩ = false := by
  obtain ⟨cs, hh, _⟩ := h
  exact Box.free (cs := cs) (t := 3) hh k
theorem OwnI.below {w w' : World} {g B : Nat} {l : List Int} (h : OwnI w g l) (hb : Below B w w') (hg : g < B) : OwnI w' g l := by
  obtain ⟨cs, hh, hx⟩ := h
  exact ⟨cs, (hb.block g hg).trans hh, hx⟩
theorem OwnI.off {w : World} {g : Nat} {l : List Int} (h : OwnI w g l) {p : Addr} (hp : p.block ≠ g) (u : Value) : OwnI (w.setCell p u) g l := by
  obtain ⟨cs, hh, hx⟩ := h
  exact ⟨cs, Box.off (t := 3) hh hp u, hx⟩
theorem OwnI.set {w : World} {g : Nat} {l : List Int} (h : OwnI w g l) {k : Nat} (hk : k < l.length) (x : Int) : OwnI (w.setCell ⟨g, k, none⟩ (.int .i64 x)) g (l.set k x) := by
  obtain ⟨cs, hh, hx⟩ := h
  refine ⟨cs.setIfInBounds k (.int .i64 x), Box.set (t := 3) hh k _, ?_⟩
  rw [List.length_set, Array.toList_setIfInBounds, List.take_set, hx]
  unfold litI
  rw [List.map_set]
theorem OwnI.drewN {w : World} {g : Nat} {l : List Int} (h : OwnI w g l) (n : Nat) : OwnI (w.drewN n) g l := h
theorem OwnI.alloc {w : World} {g : Nat} {l : List Int} (h : OwnI w g l) (o : Obj) : OwnI (w.alloc o) g l := h.below ((Below.refl _ _).alloc (Nat.le_refl _) o) h.lt
theorem OwnI.lies {w : World} {g : Nat} {l : List Int} (h : OwnI w g l) : Lies w w.heap.size (some ⟨g, 0, none⟩) l := fun _ => by
  refine ⟨⟨g, 0, none⟩, rfl, h.lt, fun j hj => ?_⟩
  have h1 : (⟨g, 0, none⟩ : Addr).add j = ⟨g, j, none⟩ := by unfold Addr.add; split <;> simp_all
  rw [h1]; exact h.cell hj
theorem own_to {w : World} {B : Nat} {v : Value} {l : List Int} (h : w.ownsRow B 3 1 v l.length (litI l)) (h0 : 0 < l.length) :
    ∃ g c, v = .slice (some ⟨g, 0, none⟩) l.length c ∧ B ≤ g ∧ l.length ≤ c ∧ OwnI w g l := by
  rcases h.2 with ⟨rfl, h1⟩ | ⟨g, cap, cur, rfl, hb, hh, hnc, hm, hsz, hx⟩
  · omega
  · exact ⟨g, cap, rfl, hb, hnc, cur, hh, by simpa using hx⟩
/-- a copy of a list, onto nothing -/
theorem app_copy {wr : World} {ops : Array Oper} {rest : List Oper} {o : Oper} {a : Act} {Q : Exit → Act → World → Prop} (hgd : o.guard = none) (s x : Operand)
    (ho : o.op = .call { callee := .builtin .append, args := #[s, x], argTypes := #[24, 24] })
    (ad0 ad : Addr) (l : List Int) (N c : Nat) (hN : l.length = N) (hs : a.eval s = .slice (some ad0) 0 0) (hx : a.eval x = .slice (some ad) N c)
    (hc : ∀ j, j < l.length → wr.cell? (ad.add j) = some (.int .i64 (l.getD j 0))) (h0 : 0 < N) (hl : N ≤ 1000)
    (h : ∀ g c' w', N ≤ c' → OwnI w' g l → wr.heap.size ≤ g → Below wr.heap.size wr w' → wpList Try.prog ops Q rest (a.put o.dst (.slice (some ⟨g, 0, none⟩) N c')) w') :
    wpList Try.prog ops Q (o :: rest) a wr := by
  subst hN
  obtain ⟨i0, hi, hz0, hz1, hz2⟩ := info_parts infoI
  refine wpList_append_grows _ hgd s x 24 ho 3 i0 (.int .i64 0) 1 8 Try.underlying24 hi hz0 hz1 hz2 rfl (by decide) (some ad0) 0 0 [] hs (fun h => by cases h) rfl (fun _ _ j u h => by simp at h) ad l.length c (litI l) hx (by rw [litI_len]; omega) ?_ ?_ (by omega) (by unfold maxLen; omega) (by omega) ?_
  · intro j u hj
    have hjl : j < l.length := by
      rcases Nat.lt_or_ge j l.length with h1 | h1
      · exact h1
      · rw [List.getElem?_eq_none (by rw [litI_len]; exact h1)] at hj; cases hj
    rw [litI_get _ _ hjl] at hj
    rw [← hj]; exact hc j hjl
  · intro u hu
    unfold litI at hu
    obtain ⟨y, _, rfl⟩ := List.mem_map.1 hu; rfl
  · intro v' w' h1 h2
    rw [Nat.zero_add, List.nil_append] at h1
    obtain ⟨g, c', rfl, hg, hc', ho'⟩ := own_to h1 h0
    exact h g c' w' hc' ho' hg ((Below.refl _ _).grown h2 (Nat.le_refl _) (fun k hk => by cases hk))
set_option maxRecDepth 100000 in
set_option maxHeartbeats 2000000 in
theorem vec_copied (A : Option Addr) (l : List Int) (c B : Nat) (w : World) (hA : Lies w B A l) (h0 : 0 < l.length) (hl : l.length ≤ 1000) (hc : l.length ≤ c) :
    Calls Try.prog 153 #[.slice A l.length c] w fun e w' => ∃ g, e = .returned (.slice (some ⟨g, 0, none⟩) l.length l.length) ∧ w.heap.size ≤ g ∧ OwnI w' g l ∧ Below w.heap.size w w' := by
  obtain ⟨ad, rfl, _, hcell⟩ := hA h0
  have HC := Lib.hid hcell
  have HL := Lib.hid hl
  have H0 := Lib.hid h0
  clear hA hcell
  have hlc : ((l.length : Nat) : Int) ≤ (c : Int) := by omega
  generalize hN : l.length = N at *
  have HN := Lib.hid hN
  clear hN
  go_enter Try.func153, Try.ntmps153
  go_wp2_with (at_builtin; refine app_copy rfl (.tmp 5) (.tmp 6) rfl _ ad l N c HN.out rfl rfl (fun j hj => HC.out j (by have := HN.out; omega)) H0.out HL.out ?_; intro g c' w1 hc' ho hg hb; have hcc : (N : Int) ≤ (c' : Int) := by omega)
  go_ret
  exact ⟨g, rfl, hg, ho, hb⟩

theorem len23 {vs : List Value} (h : vs.length = 23) : ∃ y0 y1 y2 y3 y4 y5 y6 y7 y8 y9 y10 y11 y12 y13 y14 y15 y16 y17 y18 y19 y20 y21 y22, vs = [y0, y1, y2, y3, y4, y5, y6, y7, y8, y9, y10, y11, y12, y13, y14, y15, y16, y17, y18, y19, y20, y21, y22] := by
  match vs, h with
  | [y0, y1, y2, y3, y4, y5, y6, y7, y8, y9, y10, y11, y12, y13, y14, y15, y16, y17, y18, y19, y20, y21, y22], _ => exact ⟨y0, y1, y2, y3, y4, y5, y6, y7, y8, y9, y10, y11, y12, y13, y14, y15, y16, y17, y18, y19, y20, y21, y22, rfl⟩
/-- the values of a region's operations, as far as they were carried out -/
def RegV (E : List (Option Value)) (f : Nat → Bool) (vs : List Value) : Prop := ∀ j u, f j = true → E[j]? = some (some u) → vs.getD j undef = u
theorem RegV.set {E : List (Option Value)} {f : Nat → Bool} {vs : List Value} (h : RegV E f vs) {i : Nat} (hi : i < vs.length) {v : Value} (hv : ∀ u, E[i]? = some (some u) → v = u) : RegV E (fun j => if j = i then true else f j) (vs.set i v) := by
  intro j u hj he
  by_cases g : j = i
  · subst g
    rw [List.getD_eq_getElem?_getD, List.getElem?_set_self hi]
    exact hv u he
  · dsimp only at hj
    rw [if_neg g] at hj
    rw [List.getD_eq_getElem?_getD, List.getElem?_set_ne (fun e => g e.symm), ← List.getD_eq_getElem?_getD]
    exact h j u hj he
/-- what is there in the middle of Box's exchange -/
def BoxJ (B : Nat) (W : World) (ga gb gx k : Nat) (lo lo' hi hi' : List Int) (E : List (Option Value)) (f : Nat → Bool) (vs : List Value) (w : World) : Prop :=
  RegV E f vs ∧ (Below B W w ∧ B ≤ w.heap.size) ∧ w.cell? ⟨gx, 0, none⟩ = some (.int .i64 k) ∧ OwnI w ga (cond (f 20) lo' lo) ∧ OwnI w gb (cond (f 22) hi' hi) ∧ (f 20 = true → f 7 = true) ∧ (f 22 = true → f 11 = true)
theorem BoxJ.alike {B : Nat} {W : World} {ga gb gx k : Nat} {lo lo' hi hi' : List Int} {E : List (Option Value)} (hE : E.length = 23) (f g : Nat → Bool) (vs : List Value) (w : World) (hfg : ∀ k, k < 23 → f k = g k) (hj : BoxJ B W ga gb gx k lo lo' hi hi' E f vs w) : BoxJ B W ga gb gx k lo lo' hi hi' E g vs w := by
  obtain ⟨h1, h2⟩ := hj
  unfold BoxJ
  rw [← hfg 20 (by omega), ← hfg 22 (by omega), ← hfg 7 (by omega), ← hfg 11 (by omega)]
  refine ⟨fun j u hj he => h1 j u ?_ he, h2⟩
  rw [hfg j]; exact hj
  rcases Nat.lt_or_ge j E.length with h | h
  · omega
  · rw [List.getElem?_eq_none h] at he; cases he
theorem BoxJ.step {B : Nat} {W : World} {ga gb gx k : Nat} {lo lo' hi hi' : List Int} {E : List (Option Value)} {f : Nat → Bool} {vs : List Value} {w : World} (hj : BoxJ B W ga gb gx k lo lo' hi hi' E f vs w) {i : Nat} (hi0 : i < vs.length) (h20 : ¬ 20 = i) (h22 : ¬ 22 = i) {v : Value} (hv : ∀ u, E[i]? = some (some u) → v = u) {w' : World} (hw : ∃ n, w' = w.drewN n) :
    BoxJ B W ga gb gx k lo lo' hi hi' E (fun j => if j = i then true else f j) (vs.set i v) w' := by
  obtain ⟨n, rfl⟩ := hw
  obtain ⟨h1, ⟨h2, h2'⟩, h3, h4, h5, h6, h7⟩ := hj
  refine ⟨h1.set hi0 hv, ⟨below_drewN2 h2 n, h2'⟩, h3, ?_, ?_, ?_, ?_⟩
  · simpa [h20] using h4.drewN n
  · simpa [h22] using h5.drewN n
  · simp only [h20, if_false]
    intro h
    rw [h6 h]; simp
  · simp only [h22, if_false]
    intro h
    rw [h7 h]; simp
theorem BoxJ.store1 {B : Nat} {W : World} {ga gb gx k : Nat} {lo hi hi' : List Int} {x : Int} {E : List (Option Value)} {f : Nat → Bool} {vs : List Value} {w : World} (hj : BoxJ B W ga gb gx k lo (lo.set k x) hi hi' E f vs w) (hi0 : 20 < vs.length) (hf : f 20 = false) (h7 : f 7 = true) {v : Value} (hv : ∀ u, E[20]? = some (some u) → v = u) (hk : k < lo.length) (hab : ga ≠ gb) (hax : ga ≠ gx) (hB : B ≤ ga) :
    BoxJ B W ga gb gx k lo (lo.set k x) hi hi' E (fun j => if j = 20 then true else f j) (vs.set 20 v) (w.setCell ⟨ga, k, none⟩ (.int .i64 x)) := by
  obtain ⟨h1, ⟨h2, h2'⟩, h3, h4, h5, h6, h8⟩ := hj
  rw [hf] at h4
  refine ⟨h1.set hi0 hv, ⟨h2.setCell (p := ⟨ga, k, none⟩) hB _, by simpa using h2'⟩, ?_, ?_, ?_, ?_, ?_⟩
  · rw [World.cell?_setCell_other w ⟨ga, k, none⟩ ⟨gx, 0, none⟩ _ (fun e => hax (congrArg Addr.block e))]; exact h3
  · simpa using h4.set hk x
  · simpa using h5.off (p := ⟨ga, k, none⟩) hab _
  · intro _; simpa using h7
  · simpa using h8
theorem BoxJ.store2 {B : Nat} {W : World} {ga gb gx k : Nat} {lo lo' hi : List Int} {x : Int} {E : List (Option Value)} {f : Nat → Bool} {vs : List Value} {w : World} (hj : BoxJ B W ga gb gx k lo lo' hi (hi.set k x) E f vs w) (hi0 : 22 < vs.length) (hf : f 22 = false) (h7 : f 11 = true) {v : Value} (hv : ∀ u, E[22]? = some (some u) → v = u) (hk : k < hi.length) (hab : gb ≠ ga) (hax : gb ≠ gx) (hB : B ≤ gb) :
    BoxJ B W ga gb gx k lo lo' hi (hi.set k x) E (fun j => if j = 22 then true else f j) (vs.set 22 v) (w.setCell ⟨gb, k, none⟩ (.int .i64 x)) := by
  obtain ⟨h1, ⟨h2, h2'⟩, h3, h4, h5, h6, h8⟩ := hj
  rw [hf] at h5
  refine ⟨h1.set hi0 hv, ⟨h2.setCell (p := ⟨gb, k, none⟩) hB _, by simpa using h2'⟩, ?_, ?_, ?_, ?_, ?_⟩
  · rw [World.cell?_setCell_other w ⟨gb, k, none⟩ ⟨gx, 0, none⟩ _ (fun e => hax (congrArg Addr.block e))]; exact h3
  · simpa using h4.off (p := ⟨gb, k, none⟩) hab _
  · simpa using h5.set hk x
  · simpa using h6
  · intro _; simpa using h7
end Go.Proofs.Ytehekdahlnpldaa
