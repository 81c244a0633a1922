import Derived.Test.YtdcemcpcjdkpjaaTreeR
import Derived.Test.YtdcemcpcjdkpjaaTreeG
import Derived.ArgAppend
import Derived.Lib.OthersKept

/-! Layer 10: what Grow has in the memory: nodes, the stack of what waits. -/
namespace Go.Proofs.Ytdcemcpcjdkpjaa
open Go.RowKit
set_option linter.unusedVariables false
set_option linter.unusedSimpArgs false

/-- append, and where the new row lies: where the elder one lay, or in a new block -/
theorem run_append_where {P : Program} (w : World) (base : Nat) (t ty e : TypeId) (i : TypeInfo) (z : Value) (size bytes : Nat) (ht : P.underlying t = some (.slice e)) (hi : P.info? e = some i) (hz : i.zero = some z)
    (hsize : i.size = size) (hby : i.bytes = bytes) (hzs : z.cells.size = size) (hsz : 0 < size)
    (v : Value) (n : Nat) (xs : List Value) (hown : w.ownsRow base e size v n xs)
    (a : Addr) (m c : Nat) (news : List Value) (hl : news.length = m * size) (hnews : ∀ j u, news[j]? = some u → w.cell? (a.add j) = some u) (h1 : ∀ u ∈ news, u.oneCell' = true)
    (h63 : n + m ≤ maxLen) (hbytes : (n + m) * bytes ≤ 140737488355328) (hbase : base ≤ w.heap.size) :
    ∃ v' w', (Builtin.append_ #[t, t] ty #[v, .slice (some a) m c]).run P w = .ok v' w' ∧ w'.ownsRow base e size v' (n + m) (xs ++ news) ∧ w.grownBy w' v.ownBlock ∧ (v'.ownBlock = v.ownBlock ∨ ∀ g, v'.ownBlock = some g → w.heap.size ≤ g) := by
  obtain ⟨v', w', hr, h2, h3, h4⟩ := run_append_own (P := P) w base t ty e i z size bytes ht hi hz hsize hby hzs hsz v n xs hown a m c news hl hnews h1 h63 hbytes hbase
  refine ⟨v', w', hr, h2, h3, ?_⟩
  rcases hown.2 with ⟨rfl, rfl⟩ | ⟨g, cap, cur, rfl, hbg, hg, hnc, hcm, hcs, htake⟩
  · right
    have hx : xs = [] := List.eq_nil_of_length_eq_zero (by simpa using hown.1)
    subst hx
    obtain ⟨v2, w2, hr2, h22, _⟩ := run_append_own (P := P) w w.heap.size t ty e i z size bytes ht hi hz hsize hby hzs hsz (.slice none 0 0) 0 [] (World.ownsRow_nil _ _ _ _) a m c news hl hnews h1 h63 hbytes (Nat.le_refl _)
    rw [hr] at hr2
    cases hr2
    exact fun g hg => (h22.lt g hg).1
  · by_cases hroom : n + m ≤ cap
    · left
      have hfit : n * i.size + news.length ≤ cur.size := by rw [hl, hsize, hcs, ← Nat.add_mul]; exact Nat.mul_le_mul_right _ hroom
      have hr2 := run_append_room (P := P) w t ty e i ht hi g n cap cur hg a m c news (by rw [hl, hsize]) hnews h1 hroom hfit
      rw [hr] at hr2
      cases hr2
      rfl
    · right
      have holds : ∀ j u, xs[j]? = some u → w.cell? ((⟨g, 0, none⟩ : Addr).add j) = some u := hown.cells (g := g) rfl
      obtain ⟨v2, w2, hr2, h22, _⟩ := run_append_arg_grows (P := P) w t ty e i z size bytes ht hi hz hsize hby hzs hsz ⟨g, 0, none⟩ n cap xs hown.1 holds a m c news hl hnews (by omega) h63 hbytes
      rw [hr] at hr2
      cases hr2
      exact fun g hg => (h22.lt g hg).1
theorem wp_append_where {P : Program} (w : World) {o : Oper} {a : Act} {K : Act → World → Prop} {Q : Exit → Act → World → Prop} (s x : Operand) (t : TypeId)
    (ho : o.op = .call { callee := .builtin .append, args := #[s, x], argTypes := #[t, t] })
    (base : Nat) (e : TypeId) (i : TypeInfo) (z : Value) (size bytes : Nat) (ht : P.underlying t = some (.slice e)) (hi : P.info? e = some i) (hz : i.zero = some z)
    (hsize : i.size = size) (hby : i.bytes = bytes) (hzs : z.cells.size = size) (hsz : 0 < size)
    (v : Value) (n : Nat) (xs : List Value) (hs : a.eval s = v) (hown : w.ownsRow base e size v n xs)
    (ad : Addr) (m c : Nat) (news : List Value) (hx : a.eval x = .slice (some ad) m c) (hl : news.length = m * size) (hnews : ∀ j u, news[j]? = some u → w.cell? (ad.add j) = some u) (h1 : ∀ u ∈ news, u.oneCell' = true)
    (h63 : n + m ≤ maxLen) (hbytes : (n + m) * bytes ≤ 140737488355328) (hbase : base ≤ w.heap.size)
    (h : ∀ v' w', w'.ownsRow base e size v' (n + m) (xs ++ news) → w.grownBy w' v.ownBlock → (v'.ownBlock = v.ownBlock ∨ ∀ g, v'.ownBlock = some g → w.heap.size ≤ g) → K (a.put o.dst v') w') : o.wp P a w K Q := by
  obtain ⟨v', w', hr, h2, h3, h4⟩ := run_append_where (P := P) w base t o.type e i z size bytes ht hi hz hsize hby hzs hsz v n xs hown ad m c news hl hnews h1 h63 hbytes hbase
  unfold Oper.wp execOp
  simp only [ho, resolve, invoke, builtin, Sem.run_bind, Sem.run_pure, Result.andThen_ok, List.map_toArray, List.map_cons, List.map_nil, hs, hx, hr]
  exact h v' w' h2 h3 h4
/-! ### rows of several cells an element -/
theorem flat_set {α : Type} (f : α → List Value) (s : Nat) (hf : ∀ x, (f x).length = s) (j : Nat) (hj : j < s) (u : Value) : ∀ (l : List α) (k : Nat) (x y : α), l[k]? = some x → (f x).set j u = f y → (l.flatMap f).set (k * s + j) u = (l.set k y).flatMap f
  | [], k, x, y, h, _ => by simp at h
  | b :: l, 0, x, y, h, hy => by
    simp only [List.getElem?_cons_zero, Option.some.injEq] at h
    subst h
    rw [Nat.zero_mul, Nat.zero_add, List.flatMap_cons, List.set_append_left _ _ (by rw [hf]; exact hj), hy]
    simp
  | b :: l, k + 1, x, y, h, hy => by
    have ih := flat_set f s hf j hj u l k x y (by simpa using h) hy
    rw [List.flatMap_cons, List.set_append_right _ _ (by rw [hf, Nat.add_mul]; omega), hf, show (k + 1) * s + j - s = k * s + j from by rw [Nat.add_mul]; omega, ih]
    simp
theorem flat_get {α : Type} (f : α → List Value) (s : Nat) (hf : ∀ x, (f x).length = s) (j : Nat) (hj : j < s) : ∀ (l : List α) (k : Nat) (x : α), l[k]? = some x → (l.flatMap f)[k * s + j]? = (f x)[j]?
  | [], k, x, h => by simp at h
  | b :: l, 0, x, h => by
    simp only [List.getElem?_cons_zero, Option.some.injEq] at h
    subst h
    rw [Nat.zero_mul, Nat.zero_add, List.flatMap_cons, List.getElem?_append_left (by rw [hf]; exact hj)]
  | b :: l, k + 1, x, h => by
    have ih := flat_get f s hf j hj l k x (by simpa using h)
    rw [List.flatMap_cons, List.getElem?_append_right (by rw [hf, Nat.add_mul]; omega), hf, show (k + 1) * s + j - s = k * s + j from by rw [Nat.add_mul]; omega, ih]
theorem flat_len {α : Type} (f : α → List Value) (s : Nat) (hf : ∀ x, (f x).length = s) (l : List α) : (l.flatMap f).length = l.length * s := by
  induction l with
  | nil => simp
  | cons b l ih => rw [List.flatMap_cons, List.length_append, hf, ih, List.length_cons, Nat.add_mul]; omega
/-- where a row of the call's own lies -/
theorem own_box {w : World} {B s n : Nat} {E : TypeId} {v : Value} {xs : List Value} (h : w.ownsRow B E s v n xs) (h0 : 0 < n) : ∃ g c cur, v = .slice (some ⟨g, 0, none⟩) n c ∧ B ≤ g ∧ n ≤ c ∧ c ≤ maxLen ∧ Box w g cur E ∧ ∀ i, i < n * s → w.cell? ⟨g, i, none⟩ = xs[i]? := by
  rcases h.2 with ⟨rfl, h1⟩ | ⟨g, cap, cur, rfl, hb, hh, hnc, hm, hsz, hx⟩
  · omega
  · refine ⟨g, cap, cur, rfl, hb, hnc, hm, hh, fun i hi => ?_⟩
    rw [Box.cell hh i, ← hx, List.getElem?_take, if_pos hi]
    simp
theorem own_set {w : World} {B s g n c : Nat} {E : TypeId} {xs : List Value} (h : w.ownsRow B E s (.slice (some ⟨g, 0, none⟩) n c) n xs) (i : Nat) (u : Value) : (w.setCell ⟨g, i, none⟩ u).ownsRow B E s (.slice (some ⟨g, 0, none⟩) n c) n (xs.set i u) := by
  refine ⟨by rw [List.length_set]; exact h.1, ?_⟩
  rcases h.2 with ⟨h1, _⟩ | ⟨g', cap, cur, e, hb, hh, hnc, hm, hsz, hx⟩
  · cases h1
  · cases e
    refine .inr ⟨g, c, cur.setIfInBounds i u, rfl, hb, Box.set hh i u, hnc, hm, by simp [hsz], ?_⟩
    rw [← hx]
    simp [List.take_set]
theorem own_keep {w w' : World} {B s n : Nat} {E : TypeId} {v : Value} {xs : List Value} (h : w.ownsRow B E s v n xs) (hk : ∀ g, v.ownBlock = some g → w'.heap[g]? = w.heap[g]?) : w'.ownsRow B E s v n xs := by
  refine ⟨h.1, ?_⟩
  rcases h.2 with h0 | ⟨g, cap, cur, e1, hb, hh, hr⟩
  · exact .inl h0
  · exact .inr ⟨g, cap, cur, e1, hb, (hk g (by rw [e1]; rfl)).trans hh, hr⟩
theorem own_belowG {w w' : World} {B s n : Nat} {E : TypeId} {v : Value} {xs : List Value} (h : w.ownsRow B E s v n xs) (hb : Below w.heap.size w w') : w'.ownsRow B E s v n xs :=
  own_keep h fun g hg => hb.block g (h.lt g hg).2
theorem own_apart {w : World} {B C s t n m : Nat} {E F : TypeId} {v u : Value} {xs ys : List Value} (h : w.ownsRow B E s v n xs) (h' : w.ownsRow C F t u m ys) (hEF : E ≠ F) {g : Nat} (hg : v.ownBlock = some g) : u.ownBlock ≠ some g := by
  intro hu
  rcases h.2 with ⟨rfl, _⟩ | ⟨g1, cap, cur, rfl, hb, hh, _⟩
  · simp [Value.ownBlock] at hg
  · rcases h'.2 with ⟨rfl, _⟩ | ⟨g2, cap2, cur2, rfl, hb2, hh2, _⟩
    · simp [Value.ownBlock] at hu
    · simp only [Value.ownBlock, Option.some.injEq] at hg hu
      subst hg
      subst hu
      rw [hh] at hh2
      cases hh2
      exact hEF rfl
theorem own_not_box {w : World} {B s n : Nat} {E T : TypeId} {v : Value} {xs : List Value} (h : w.ownsRow B E s v n xs) {g : Nat} {cs : Array Value} (hx : Box w g cs T) (hT : T ≠ E) : v.ownBlock ≠ some g := by
  intro hg
  rcases h.2 with ⟨rfl, _⟩ | ⟨g1, cap, cur, rfl, hb, hh, _⟩
  · simp [Value.ownBlock] at hg
  · simp only [Value.ownBlock, Option.some.injEq] at hg
    subst hg
    unfold Box at hx
    rw [hh] at hx
    cases hx
    exact hT rfl
/-! ### nodes and what waits -/
def ndL (N : List TN) : List Value := N.flatMap fun n => (ndC n).toList
theorem ndC_len (n : TN) : (ndC n).toList.length = 5 := rfl
theorem ndL_len (N : List TN) : (ndL N).length = N.length * 5 := flat_len _ 5 ndC_len N
/-- rows that wait, where they lie, their depth, the node of which they are to be Right -/
structure WA where
  a : Option Addr
  c : Nat
  R : List Row
  d : Nat
  ro : Int
def wtC (x : WA) : List Value := [.slice x.a x.R.length x.c, .int .i64 x.d, .int .i64 x.ro]
def wtL (L : List WA) : List Value := L.flatMap wtC
theorem wtC_len (x : WA) : (wtC x).length = 3 := rfl
theorem wtL_len (L : List WA) : (wtL L).length = L.length * 3 := flat_len _ 3 wtC_len L
def wtT (x : WA) : WT := (x.R, x.d, x.ro)
/-- the stack as numbers: the top first -/
def stk (L : List WA) : List WT := (L.map wtT).reverse
theorem stk_top (L : List WA) (x : WA) : stk (L ++ [x]) = (x.R, x.d, x.ro) :: stk L := by unfold stk wtT; simp
/-- a node's cut lies in the memory, away from both rows -/
def OffN (B : Nat) (w : World) (vN vS : Value) (n : TN) : Prop := ∀ i, n.co.length = i → 0 < i → ∃ ad : Addr, n.a = some ad ∧ B < ad.block ∧ ad.block < w.heap.size ∧ vN.ownBlock ≠ some ad.block ∧ vS.ownBlock ≠ some ad.block ∧ ∀ j, j < i → w.cell? (ad.add j) = some (.int .i64 (n.co.getD j 0))
/-- rows that wait lie in the memory: where the argument lay, or in a row of their own -/
def PtsOk (w0 w : World) (x : WA) : Prop := OkR x.R ∧ x.R.length ≤ x.c ∧ (LiesR w0 w0.heap.size x.a x.R ∨ ∃ g, x.a = some ⟨g, 0, none⟩ ∧ OwnR w g x.R ∧ ∀ r ∈ x.R, Lies w0 w0.heap.size r.a r.l)
theorem PtsOk.lies {w0 w : World} {x : WA} (h : PtsOk w0 w x) (hb : Below w0.heap.size w0 w) : LiesR w w.heap.size x.a x.R := by
  rcases h.2.2 with h1 | ⟨g, e, ho, hl⟩
  · exact (h1.below hb).mono hb.size
  · refine ⟨fun h0 => ⟨⟨g, 0, none⟩, e, Box.lt ho, fun j hj => ?_⟩, fun r hr => ((hl r hr).below hb).mono hb.size⟩
    have e1 : (⟨g, 0, none⟩ : Addr).add j = ⟨g, j, none⟩ := by unfold Addr.add; split <;> simp_all
    rw [e1]
    exact OwnR.at ho hj
theorem PtsOk.keep {w0 w w' : World} {x : WA} (h : PtsOk w0 w x) (hk : ∀ g cs, Box w g cs 30 → Box w' g cs 30) : PtsOk w0 w' x := by
  refine ⟨h.1, h.2.1, ?_⟩
  rcases h.2.2 with h1 | ⟨g, e, ho, hl⟩
  · exact .inl h1
  · exact .inr ⟨g, e, hk _ _ ho, hl⟩
theorem OffN.step {B : Nat} {w w' : World} {vN vS vN' vS' : Value} {n : TN} (h : OffN B w vN vS n) (hs : w.heap.size ≤ w'.heap.size)
    (hk : ∀ g, g < w.heap.size → vN.ownBlock ≠ some g → vS.ownBlock ≠ some g → w'.heap[g]? = w.heap[g]?) (h1 : ∀ g, g < w.heap.size → vN.ownBlock ≠ some g → vN'.ownBlock ≠ some g) (h2 : ∀ g, g < w.heap.size → vS.ownBlock ≠ some g → vS'.ownBlock ≠ some g) : OffN B w' vN' vS' n := fun i hi h0 => by
  obtain ⟨ad, e, hB, hlt, o1, o2, hc⟩ := h i hi h0
  refine ⟨ad, e, hB, by omega, h1 _ hlt o1, h2 _ hlt o2, fun j hj => ?_⟩
  rw [← hc j hj]
  refine World.cell?_of_block ?_
  rw [add_block]
  exact hk _ hlt o1 o2
theorem ndL_set (N : List TN) (k j : Nat) (hj : j < 5) (hk : k < N.length) (u : Value) (y : TN) (hy : (ndC (N.getD k tn0)).toList.set j u = (ndC y).toList) : (ndL N).set (k * 5 + j) u = ndL (N.set k y) :=
  flat_set _ 5 ndC_len j hj u N k (N.getD k tn0) y (by simp [List.getD, hk]) hy
end Go.Proofs.Ytdcemcpcjdkpjaa
