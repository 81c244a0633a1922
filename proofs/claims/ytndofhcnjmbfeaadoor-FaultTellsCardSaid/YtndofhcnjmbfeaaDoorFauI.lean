/- (*Fault).link, (*Fault).combination, Code. -/
import Derived.Test.YtndofhcnjmbfeaaDoorFauH
namespace Go.Proofs.YtndofhcnjmbfeaaDoor
open Go.RowKit Go.Extern.Stop Go.Stop Go.Extern
set_option linter.unusedVariables false
set_option linter.unusedSimpArgs false

/-- what lies in a fault's block is the tree t -/
def IsFault (w : World) (t : FT) (b : Nat) : Prop := ∃ v, Box w b #[v] 74 ∧ IsPart w t v
theorem IsFault.below {w w' : World} {t : FT} {b : Nat} (h : IsFault w t b) (hb : Below w.heap.size w w') : IsFault w' t b := by
  obtain ⟨v, hx, hp⟩ := h
  exact ⟨v, hx.below hb hx.lt, hp.below hb⟩
theorem box_unalloc {w : World} {cs : Array Value} {T F : TypeId} {b : Nat} {ds : Array Value} (h : Box (w.alloc (.cells cs T)) b ds F) (hT : T ≠ F) : Box w b ds F := by
  have hlt := h.lt
  rw [alloc_size'] at hlt
  rcases Nat.lt_or_ge b w.heap.size with h1 | h1
  · exact (heap_alloc_old w (.cells cs T) h1).symm.trans h
  · obtain rfl : b = w.heap.size := by omega
    have h2 := Box.new w cs T
    unfold Box at h h2
    rw [h2] at h
    simp at h
    exact absurd h.2 hT
theorem IsPart.unalloc {w : World} {cs : Array Value} {T : TypeId} (hT : T ≠ 74) : ∀ {t : FT} {v : Value}, IsPart (w.alloc (.cells cs T)) t v → IsPart w t v
  | .code _ _ _, _, h => h
  | .wrap _ _ t, _, ⟨b, u, e, hx, h⟩ => ⟨b, u, e, box_unalloc hx hT, IsPart.unalloc hT h⟩
  | .both x y, _, ⟨a, b, u, u', e, ⟨hx, h⟩, ⟨hy, g⟩⟩ => ⟨a, b, u, u', e, ⟨box_unalloc hx hT, IsPart.unalloc hT h⟩, ⟨box_unalloc hy hT, IsPart.unalloc hT g⟩⟩
abbrev zC : Array Value := #[.string ⟨#[]⟩, .int .i64 0, .int .i64 0]
abbrev zB : Array Value := #[.pointer none, .pointer none]
set_option maxRecDepth 100000 in
set_option maxHeartbeats 2000000 in
theorem fau_link (t : FT) (b : Nat) (w : World) (hf : IsFault w t b) (hG : Glob w) :
    Calls Tryd.prog 22 #[ptr b 0] w fun e w' => e = .returned (.tuple #[.agg #[(resC (chain t) (.string ⟨#[]⟩, .int .i64 0, .int .i64 0)).2.1, (resC (chain t) (.string ⟨#[]⟩, .int .i64 0, .int .i64 0)).2.2.1, (resC (chain t) (.string ⟨#[]⟩, .int .i64 0, .int .i64 0)).2.2.2], .bool (resC (chain t) (.string ⟨#[]⟩, .int .i64 0, .int .i64 0)).1]) ∧ Below w.heap.size w w' := by
  obtain ⟨v, hx, hp⟩ := hf
  have hb0 : Below w.heap.size w (w.alloc (.cells zC 55)) := (Below.refl _ _).alloc (Nat.le_refl _) _
  have KA := Lib.hid (As_c t v (w.alloc (.cells zC 55)) ((w.alloc (.cells zC 55)).alloc (.cells zC 55)) (hp.below hb0)
    ((Below.refl _ _).alloc (Nat.le_refl _) _) (w.heap.size + 1) (.string ⟨#[]⟩) (.int .i64 0) (.int .i64 0) 55
    (by have h := Box.new (w.alloc (.cells zC 55)) zC 55
        rw [alloc_size'] at h; exact h) (by rw [alloc_size']; omega) ((hG.alloc _).alloc _))
  rw [alloc_size'] at KA
  have h1 := ((hx.alloc (.cells zC 55)).alloc (.cells zC 55)).cell 0
  simp at h1
  have X0 := Box.new w zC 55
  rcases chain_ends t with ⟨op, n, c, hch⟩ | ⟨x, y, hch⟩
  · rw [hch] at KA ⊢
    simp only [resC] at KA ⊢
    go_enter Tryd.func22, Tryd.ntmps22
    go_wp2_with (go_at_call 30; refine KA.out.mono ?_; rintro e w1 ⟨rfl, hb1, hw1⟩; have l0 := hb1.cell 0; have l1 := hb1.cell 1; have l2 := hb1.cell 2; simp at l0 l1 l2; have X1 := X0.below hw1 (Nat.lt_succ_self _); have x0 := X1.cell 0; have x1 := X1.cell 1; have x2 := X1.cell 2; simp at x0 x1 x2; have y0 := X1.free 0; have y1 := X1.free 1; have y2 := X1.free 2)
    have Z := ((X1.set 0 (.string op)).set 1 (.int .i64 n)).set 2 (.int .i64 c)
    have z0 := Z.cell 0
    have z1 := Z.cell 1
    have z2 := Z.cell 2
    simp at z0 z1 z2
    refine bodyPost_ret (v := .tuple #[.agg #[.string op, .int .i64 n, .int .i64 c], .bool true]) ?_ rfl ⟨rfl, ?_⟩
    · simp [results, Tryd.results22, go_sem, z0, z1, z2]
    · exact (((hb0.trans (hw1.mono (by omega))).setCell (p := ⟨w.heap.size, 0, none⟩) (Nat.le_refl _) _).setCell (p := ⟨w.heap.size, 1, none⟩) (Nat.le_refl _) _).setCell (p := ⟨w.heap.size, 2, none⟩) (Nat.le_refl _) _
  · rw [hch] at KA ⊢
    simp only [resC] at KA ⊢
    go_enter Tryd.func22, Tryd.ntmps22
    go_wp2_with (go_at_call 30; refine KA.out.mono ?_; rintro e w1 ⟨rfl, hb1, hw1⟩; have l0 := hb1.cell 0; have l1 := hb1.cell 1; have l2 := hb1.cell 2; simp at l0 l1 l2; have X1 := X0.below hw1 (Nat.lt_succ_self _); have x0 := X1.cell 0; have x1 := X1.cell 1; have x2 := X1.cell 2; simp at x0 x1 x2; have y0 := X1.free 0; have y1 := X1.free 1; have y2 := X1.free 2)
    have Z := ((X1.set 0 (.string ⟨#[]⟩)).set 1 (.int .i64 0)).set 2 (.int .i64 0)
    have z0 := Z.cell 0
    have z1 := Z.cell 1
    have z2 := Z.cell 2
    simp at z0 z1 z2
    refine bodyPost_ret (v := .tuple #[.agg #[.string ⟨#[]⟩, .int .i64 0, .int .i64 0], .bool false]) ?_ rfl ⟨rfl, ?_⟩
    · simp [results, Tryd.results22, go_sem, z0, z1, z2]
    · exact (((hb0.trans (hw1.mono (by omega))).setCell (p := ⟨w.heap.size, 0, none⟩) (Nat.le_refl _) _).setCell (p := ⟨w.heap.size, 1, none⟩) (Nat.le_refl _) _).setCell (p := ⟨w.heap.size, 2, none⟩) (Nat.le_refl _) _

set_option maxRecDepth 100000 in
set_option maxHeartbeats 2000000 in
theorem fau_comb_miss (t : FT) (b : Nat) (w : World) (hf : IsFault w t b) (hG : Glob w) (op : ByteArray) (n c : Int) (hch : chain t = .code op n c) :
    Calls Tryd.prog 23 #[ptr b 0] w fun e w' => e = .returned (.tuple #[.agg #[.pointer none, .pointer none], .bool false]) ∧ Below w.heap.size w w' := by
  obtain ⟨v, hx, hp⟩ := hf
  have hb0 : Below w.heap.size w (w.alloc (.cells zB 59)) := (Below.refl _ _).alloc (Nat.le_refl _) _
  have KA := Lib.hid (As_b_miss t v (w.alloc (.cells zB 59)) ((w.alloc (.cells zB 59)).alloc (.cells zB 59)) (hp.below hb0)
    ((Below.refl _ _).alloc (Nat.le_refl _) _) (w.heap.size + 1) (.pointer none) (.pointer none) 59
    (by have h := Box.new (w.alloc (.cells zB 59)) zB 59
        rw [alloc_size'] at h; exact h) (by rw [alloc_size']; omega) ((hG.alloc _).alloc _) op n c hch)
  rw [alloc_size'] at KA
  have h1 := ((hx.alloc (.cells zB 59)).alloc (.cells zB 59)).cell 0
  simp at h1
  have X0 := Box.new w zB 59
  go_enter Tryd.func23, Tryd.ntmps23
  go_wp2_with (go_at_call 30; refine KA.out.mono ?_; rintro e w1 ⟨rfl, hb1, hw1⟩; have l0 := hb1.cell 0; have l1 := hb1.cell 1; simp at l0 l1; have X1 := X0.below hw1 (Nat.lt_succ_self _); have x0 := X1.cell 0; have x1 := X1.cell 1; simp at x0 x1; have y0 := X1.free 0; have y1 := X1.free 1)
  have Z := (X1.set 0 (.pointer none)).set 1 (.pointer none)
  have z0 := Z.cell 0
  have z1 := Z.cell 1
  simp at z0 z1
  refine bodyPost_ret (v := .tuple #[.agg #[.pointer none, .pointer none], .bool false]) ?_ rfl ⟨rfl, ?_⟩
  · simp [results, Tryd.results23, go_sem, z0, z1]
  · exact ((hb0.trans (hw1.mono (by omega))).setCell (p := ⟨w.heap.size, 0, none⟩) (Nat.le_refl _) _).setCell (p := ⟨w.heap.size, 1, none⟩) (Nat.le_refl _) _
set_option maxRecDepth 100000 in
set_option maxHeartbeats 2000000 in
theorem fau_comb_hit (t : FT) (b : Nat) (w : World) (hf : IsFault w t b) (hG : Glob w) (xa xb : FT) (hch : chain t = .both xa xb) :
    Calls Tryd.prog 23 #[ptr b 0] w fun e w' => ∃ p q, e = .returned (.tuple #[.agg #[ptr p 0, ptr q 0], .bool true]) ∧ IsFault w' xa p ∧ IsFault w' xb q ∧ Below w.heap.size w w' := by
  obtain ⟨v, hx, hp⟩ := hf
  have hb0 : Below w.heap.size w (w.alloc (.cells zB 59)) := (Below.refl _ _).alloc (Nat.le_refl _) _
  have KA := Lib.hid (As_b_hit t v (w.alloc (.cells zB 59)) ((w.alloc (.cells zB 59)).alloc (.cells zB 59)) (hp.below hb0)
    ((Below.refl _ _).alloc (Nat.le_refl _) _) (w.heap.size + 1) (.pointer none) (.pointer none) 59
    (by have h := Box.new (w.alloc (.cells zB 59)) zB 59
        rw [alloc_size'] at h; exact h) (by rw [alloc_size']; omega) ((hG.alloc _).alloc _) xa xb hch)
  rw [alloc_size'] at KA
  have h1 := ((hx.alloc (.cells zB 59)).alloc (.cells zB 59)).cell 0
  simp at h1
  have X0 := Box.new w zB 59
  go_enter Tryd.func23, Tryd.ntmps23
  go_wp2_with (go_at_call 30; refine KA.out.mono ?_; rintro e w1 ⟨rfl, ⟨p, q, u, u', hb1, hu1, hp1, hu2, hp2⟩, hw1⟩; have l0 := hb1.cell 0; have l1 := hb1.cell 1; simp at l0 l1; have X1 := X0.below hw1 (Nat.lt_succ_self _); have x0 := X1.cell 0; have x1 := X1.cell 1; simp at x0 x1; have y0 := X1.free 0; have y1 := X1.free 1)
  have Z := (X1.set 0 (ptr p 0)).set 1 (ptr q 0)
  have z0 := Z.cell 0
  have z1 := Z.cell 1
  simp at z0 z1
  have hT : (59 : TypeId) ≠ 74 := by decide
  have hbl := ((hb0.trans (hw1.mono (by omega))).setCell (p := ⟨w.heap.size, 0, none⟩) (Nat.le_refl _) (ptr p 0)).setCell (p := ⟨w.heap.size, 1, none⟩) (Nat.le_refl _) (ptr q 0)
  have hA : IsFault w xa p := ⟨u, box_unalloc hu1 hT, hp1.unalloc hT⟩
  have hB : IsFault w xb q := ⟨u', box_unalloc hu2 hT, hp2.unalloc hT⟩
  refine bodyPost_ret (v := .tuple #[.agg #[ptr p 0, ptr q 0], .bool true]) ?_ rfl ⟨p, q, rfl, hA.below hbl, hB.below hbl, hbl⟩
  · simp [results, Tryd.results23, go_sem, z0, z1]

/-- the code of a fault -/
def codeF : FT → Int
  | .code _ _ c => c
  | .wrap _ _ t => codeF t
  | .both x _ => codeF x
theorem codeF_chain : ∀ t : FT, codeF (chain t) = codeF t
  | .code _ _ _ => rfl
  | .wrap _ _ t => codeF_chain t
  | .both _ _ => rfl
def size : FT → Nat
  | .code _ _ _ => 0
  | .wrap _ _ t => size t + 1
  | .both x y => size x + size y + 1
theorem size_chain : ∀ t : FT, size (chain t) ≤ size t
  | .code _ _ _ => Nat.le_refl _
  | .wrap _ _ t => Nat.le_trans (size_chain t) (Nat.le_succ _)
  | .both _ _ => Nat.le_refl _
theorem fau_code_nil (w : World) : Calls Tryd.prog 7 #[.pointer none] w fun e w' => e = .returned (.int .i64 0) ∧ w = w' := by
  go_enter Tryd.func7, Tryd.ntmps7
  go_wp2
  refine wp_loop_rounds 1 ?_
  rw [rounds_succ]
  go_wp2
  go_ret
  exact ⟨rfl, rfl⟩
end Go.Proofs.YtndofhcnjmbfeaaDoor
