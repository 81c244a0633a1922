/- Acts and what they make: rows of the call's own, acts among the arguments; low, at, small. -/
import Derived.Test.YtndofhcnjmbfeaaDoorFauY
namespace Go.Proofs.YtndofhcnjmbfeaaDoor
open Go.RowKit Go.Extern.Stop Go.Stop Go.Extern
set_option linter.unusedVariables false
set_option linter.unusedSimpArgs false

/-- elements more onto a row of the call's own, of whatever type -/
theorem app_gen {B : Nat} {wr : World} {ops : Array Oper} {rest : List Oper} {o : Oper} {a : Act} {Q : Exit → Act → World → Prop} (E S : TypeId) (sz by_ : Nat) (z : Value) (hS : Tryd.prog.underlying S = some (.slice E)) (hinfo : (Tryd.prog.info? E).map (fun i => (i.zero, i.size, i.bytes)) = some (some z, sz, by_)) (hz : z.cells.size = sz) (hsz : 0 < sz) (hby : by_ ≤ 1000)
    (hgd : o.guard = none) (s x : Operand) (ho : o.op = .call { callee := .builtin .append, args := #[s, x], argTypes := #[S, S] })
    (v : Value) (n : Nat) (xs news : List Value) (hs : a.eval s = v) (hown : wr.ownsRow B E sz v n xs) (hx : a.eval x = .slice (some ⟨wr.heap.size, 0, none⟩) 1 1) (hl : news.length = sz) (h1 : ∀ u ∈ news, u.oneCell' = true)
    (hB : B ≤ wr.heap.size) (hn : n ≤ 100000000)
    (h : ∀ v' w', w'.ownsRow B E sz v' (n + 1) (xs ++ news) → Below B wr w' → Lib.OthersKept E none wr w' → wpList Tryd.prog ops Q rest (a.put o.dst v') w') :
    wpList Tryd.prog ops Q (o :: rest) a (wr.alloc (.cells news.toArray E)) := by
  obtain ⟨i0, hi, hz0, hz1, hz2⟩ := info_parts hinfo
  refine wpList_append_own _ hgd s x S ho B E i0 z sz by_ hS hi hz0 hz1 hz2 hz hsz v n xs hs (hown.alloc _) ⟨wr.heap.size, 0, none⟩ 1 1 news hx (by omega) ?_ h1 ?_ ?_ ?_ ?_
  · intro j u hj
    have hj' : news.toArray[j]? = some u := by simpa using hj
    have hc := cell_of_row _ _ j _ _ (0, 0) (heap_alloc_new wr (.cells news.toArray E))
    have h0 : (Addr.add ⟨wr.heap.size, 0, none⟩ j : Addr) = ⟨wr.heap.size, j, none⟩ := by
      rw [Addr.add]
      split
      · rename_i hj0; rw [hj0]
      · rw [Nat.zero_add]
    rw [h0]
    exact hc.trans hj'
  · unfold maxLen; omega
  · have : (n + 1) * by_ ≤ (n + 1) * 1000 := Nat.mul_le_mul_left _ hby
    omega
  · simp; omega
  · intro v' w' h1 h2 _
    refine h v' w' h1 ?_ ?_
    · refine ((Below.refl _ _).alloc hB _).grown h2 (by simp; omega) fun k hk => ?_
      rcases hown.2 with ⟨rfl, _⟩ | ⟨g, cap, cur, rfl, hg, _⟩
      · simp [Value.ownBlock] at hk
      · simp only [Value.ownBlock, Option.some.injEq] at hk; omega
    · refine ((Lib.OthersKept.refl E none wr).alloc (.cells news.toArray E)).trans ?_
      intro k o hk _ hne
      have hlt : k < (wr.alloc (.cells news.toArray E)).heap.size := by
        rcases Nat.lt_or_ge k (wr.alloc (.cells news.toArray E)).heap.size with h | h
        · exact h
        · rw [Array.getElem?_eq_none h] at hk; cases hk
      refine (h2.block k hlt ?_).trans hk
      rcases (hown.alloc (.cells news.toArray E)).2 with ⟨rfl, _⟩ | ⟨g, cap, cur, rfl, _, hh, _⟩
      · simp [Value.ownBlock]
      · simp only [Value.ownBlock, ne_eq, Option.some.injEq]
        intro e
        subst e
        rw [hh] at hk
        exact hne _ _ (Option.some.inj hk).symm
/-- a row of the call's own of another type stays -/
theorem own_kept2 {w w' : World} {e E : TypeId} {B s n : Nat} {v : Value} {xs : List Value} (h : w.ownsRow B E s v n xs) (hk : Lib.OthersKept e none w w') (hE : E ≠ e) : w'.ownsRow B E s v n xs := by
  refine ⟨h.1, ?_⟩
  rcases h.2 with h0 | ⟨g, cap, cur, e1, hb, hh, hr⟩
  · exact .inl h0
  · exact .inr ⟨g, cap, cur, e1, hb, hk g _ hh (by simp) (fun c fz e2 => by cases e2; exact hE rfl), hr⟩
theorem same_kept {w w' : World} {e : TypeId} (hk : Lib.OthersKept e none w w') (hE : 74 ≠ e) : Same w w' := fun g cs hx => box_kept hx hk hE (by simp)
/-- the cells of a row of the call's own -/
theorem own_cells {w : World} {B s n : Nat} {E : TypeId} {v : Value} {xs : List Value} (h : w.ownsRow B E s v n xs) (h0 : 0 < n) : ∃ g c, v = .slice (some ⟨g, 0, none⟩) n c ∧ n ≤ c ∧ ∀ i u, xs[i]? = some u → w.cell? ((⟨g, 0, none⟩ : Addr).add i) = some u := by
  rcases h.2 with ⟨rfl, h1⟩ | ⟨g, cap, cur, rfl, hb, hh, hnc, hm, hsz, hx⟩
  · omega
  · refine ⟨g, cap, rfl, hnc, fun i u hu => ?_⟩
    have h1 : (⟨g, 0, none⟩ : Addr).add i = ⟨g, i, none⟩ := by unfold Addr.add; split <;> simp_all
    rw [h1]
    refine (cell_of_row w g i _ _ (0, 0) hh).trans ?_
    rw [← hx, List.getElem?_take] at hu
    split at hu
    · simpa using hu
    · cases hu
theorem low_no (v : Value) (N : Nat) (A : Option Addr) (c : Nat) (i : Int) (w : World) (h : i < 0 ∨ (N : Int) ≤ i) : Calls Tryd.prog 20 #[.slice A N c, .int .i64 i] w fun e w' => e = .returned (.int .i64 (-1)) ∧ w = w' := by
  by_cases h1 : i < 0
  · go_enter Tryd.func20, Tryd.ntmps20
    go_wp2
    go_ret
    exact ⟨rfl, rfl⟩
  · have h2 : (N : Int) ≤ i := by omega
    have h3 : ¬ i < (N : Int) := by omega
    go_enter Tryd.func20, Tryd.ntmps20
    go_wp2
    go_ret
    exact ⟨rfl, rfl⟩
theorem low_yes (A : Addr) (N c k : Nat) (x : Int) (w : World) (hk : k < N) (hc : w.cell? (A.add k) = some (.int .i64 x)) : Calls Tryd.prog 20 #[.slice (some A) N c, .int .i64 k] w fun e w' => e = .returned (.int .i64 x) ∧ w = w' := by
  have h1 : ¬ (k : Int) < 0 := by omega
  have h2 : (k : Int) < (N : Int) := by omega
  have h3 : ¬ (N : Int) ≤ (k : Int) := by omega
  go_enter Tryd.func20, Tryd.ntmps20
  go_wp2
  go_ret
  exact ⟨rfl, rfl⟩
theorem at_no (N : Nat) (A : Option Addr) (c : Nat) (i : Int) (w : World) (h : i < 0) : Calls Tryd.prog 21 #[.slice A N c, .int .i64 i] w fun e w' => e = .returned (.pointer none) ∧ w = w' := by
  go_enter Tryd.func21, Tryd.ntmps21
  go_wp2
  go_ret
  exact ⟨rfl, rfl⟩
theorem at_yes (A : Addr) (N c k : Nat) (x : Value) (w : World) (hk : k < N) (hx : ∃ p, x = .pointer p) (hc : w.cell? (A.add k) = some x) : Calls Tryd.prog 21 #[.slice (some A) N c, .int .i64 k] w fun e w' => e = .returned x ∧ w = w' := by
  obtain ⟨p, rfl⟩ := hx
  have h1 : ¬ (k : Int) < 0 := by omega
  have h2 : (k : Int) < (N : Int) := by omega
  have h3 : ¬ (N : Int) ≤ (k : Int) := by omega
  go_enter Tryd.func21, Tryd.ntmps21
  go_wp2
  go_ret
  exact ⟨rfl, rfl⟩

/-- an act among the arguments -/
structure Ac where
  doo : Int
  op : ByteArray
  at_ : Int
  code : Int
  a : Int
  b : Int
abbrev ac0 : Ac := ⟨0, ⟨#[]⟩, 0, 0, 0, 0⟩
def okAc (x : Ac) : Prop := I64 x.doo ∧ I64 x.at_ ∧ I64 x.code ∧ I64 x.a ∧ I64 x.b ∧ x.op.size ≤ 9223372036854775807
/-- the acts lie in the memory, six cells each -/
def LiesA (w : World) (B : Nat) (A : Option Addr) (l : List Ac) : Prop :=
  0 < l.length → ∃ ad : Addr, A = some ad ∧ ad.block < B ∧ ∀ j, j < l.length → w.cell? (ad.add (j * 6)) = some (.int .i64 (l.getD j ac0).doo) ∧ w.cell? (ad.add (j * 6 + 1)) = some (.string (l.getD j ac0).op) ∧ w.cell? (ad.add (j * 6 + 2)) = some (.int .i64 (l.getD j ac0).at_) ∧
    w.cell? (ad.add (j * 6 + 3)) = some (.int .i64 (l.getD j ac0).code) ∧ w.cell? (ad.add (j * 6 + 4)) = some (.int .i64 (l.getD j ac0).a) ∧ w.cell? (ad.add (j * 6 + 5)) = some (.int .i64 (l.getD j ac0).b)
theorem LiesA.below {w w' : World} {B : Nat} {A : Option Addr} {l : List Ac} (h : LiesA w B A l) (hb : Below B w w') : LiesA w' B A l := fun h0 => by
  obtain ⟨ad, e, hB, hc⟩ := h h0
  refine ⟨ad, e, hB, fun j hj => ?_⟩
  obtain ⟨c0, c1, c2, c3, c4, c5⟩ := hc j hj
  have k : ∀ i, w'.cell? (ad.add i) = w.cell? (ad.add i) := fun i => hb.cell (by rw [add_block]; exact hB)
  rw [k, k, k, k, k, k]
  exact ⟨c0, c1, c2, c3, c4, c5⟩
theorem fld (ad : Addr) (n m : Nat) (h : 0 < m) : (⟨(ad.add n).block, (ad.add n).off + m, none⟩ : Addr) = ad.add (n + m) := by
  unfold Addr.add
  by_cases g : n = 0
  · subst g
    simp
    omega
  · simp [g, show ¬ n + m = 0 from by omega]
    omega
def smallA (l : List Ac) : Bool := decide ((∀ x ∈ l, x.op.size ≤ 100) ∧ l.length ≤ 12)
theorem smallA_no {l : List Ac} {k : Nat} (hk : k < l.length) (h : 100 < (l.getD k ac0).op.size) : smallA l = false := by
  refine decide_eq_false fun g => ?_
  have := g.1 (l.getD k ac0) (by rw [List.getD_eq_getElem?_getD, List.getElem?_eq_getElem hk]; exact List.getElem_mem hk)
  omega
theorem smallA_end {l : List Ac} (h : ∀ j, j < l.length → (l.getD j ac0).op.size ≤ 100) : smallA l = decide ((l.length : Int) ≤ 12) := by
  unfold smallA
  rw [decide_eq_decide]
  constructor
  · intro g; omega
  · refine fun g => ⟨fun x hx => ?_, by omega⟩
    obtain ⟨j, hj, rfl⟩ := List.mem_iff_getElem.1 hx
    have := h j hj
    rw [List.getD_eq_getElem?_getD, List.getElem?_eq_getElem hj] at this
    exact this
theorem law_small (A : Option Addr) (l : List Ac) (c B : Nat) (w : World) (hA : LiesA w B A l) (hl : (l.length : Int) ≤ 9223372036854775807) :
    Calls Tryd.prog 4 #[.slice A l.length c] w fun e w' => e = .returned (.bool (smallA l)) ∧ ∃ n, w' = w.drewN n := by
  have HA := Lib.hid hA
  have HNO := Lib.hid (fun k (hk : k < l.length) h => smallA_no hk h)
  have HE := Lib.hid (@smallA_end l)
  generalize smallA l = R at *
  clear hA
  generalize hN : l.length = N at *
  have HN := Lib.hid hN
  clear hN
  go_enter Tryd.func4, Tryd.ntmps4
  go_wp2
  go_loopw [3] (fun i wr => ∃ k : Nat, k ≤ N ∧ i = .int .i64 k ∧ Hid (∀ j, j < k → (l.getD j ac0).op.size ≤ 100) ∧ Hid (∃ n, wr = w.drewN n)) (fun i _ => N - (intOf i).toNat)
  case atStart => exact ⟨0, by omega, rfl, fun j hj => absurd hj (by omega), ⟨0, rfl⟩⟩
  case round =>
    obtain ⟨k, hk, rfl, HS, HW⟩ := hrel
    by_cases hlt : k < N
    · have HAr : Hid (LiesA wr B A l) := by obtain ⟨n, hn⟩ := HW.out; show LiesA _ _ _ _; rw [hn]; exact HA.out
      obtain ⟨ad, rfl, _, hcell⟩ := HAr.out (by have := HN.out; omega)
      obtain ⟨_, c1, _⟩ := hcell k (by have := HN.out; omega)
      rw [← fld ad (k * 6) 1 (by omega)] at c1
      have HNk := Lib.hid (HNO.out k hlt)
      have HSX : Hid ((l.getD k ac0).op.size ≤ 100 → ∀ j, j < k + 1 → (l.getD j ac0).op.size ≤ 100) := fun h j hj => by
        rcases Nat.lt_or_ge j k with g | g
        · exact HS.out j g
        · rw [show j = k from by omega]; exact h
      clear hcell
      generalize (l.getD k ac0).op = op at *
      have hkg : (k : Int) < (N : Int) := by omega
      by_cases hop : 100 < op.size
      · have hop2 : (100 : Int) < (op.size : Int) := by omega
        go_wp2
        go_ret
        exact ⟨by rw [HNk.out hop]; rfl, HW.out⟩
      · have hop2 : ¬ (100 : Int) < (op.size : Int) := by omega
        go_wp2
        exact ⟨⟨k + 1, by omega, by go_num, HSX.out (by omega), HW.out⟩, by first | (simp [intOf]; done) | (simp [intOf]; omega)⟩
    · obtain rfl : k = N := by omega
      go_wp2
      go_ret
      exact ⟨by rw [HE.out HS.out]; rfl, HW.out⟩
end Go.Proofs.YtndofhcnjmbfeaaDoor
