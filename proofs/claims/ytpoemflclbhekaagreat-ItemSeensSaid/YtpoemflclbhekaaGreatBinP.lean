/- Layer 21 (bin): what was written is read again; appends under a guard. -/
import Derived.Test.YtpoemflclbhekaaGreatBinO
namespace Go.Proofs.YtpoemflclbhekaaGreat
open Go.RowKit
set_option linter.unusedVariables false
set_option linter.unusedSimpArgs false

theorem rN_back (n : Nat) (most : Int) (hn : n < 18446744073709551616) (hm : (n : Int) ≤ most) (p q : List Int) : rN (p ++ uB n ++ q) p.length 0 most = ((p.length + (uB n).length, 0), n) := by
  unfold rN
  rw [rU_back n hn p q]
  rw [if_neg (by simp), if_neg (by show ¬ (most < 0 ∨ most < (n : Int)); omega)]
theorem rT_back (s p q : List Int) (hs : s.length < 18446744073709551616) : rT (p ++ tB s ++ q) p.length 0 s.length = ((p.length + (tB s).length, 0), s) := by
  have e : p ++ tB s ++ q = p ++ uB s.length ++ (s ++ q) := by simp [tB]
  unfold rT
  rw [e, rN_back s.length s.length hs (Int.le_refl _) p (s ++ q)]
  have hl : (p ++ uB s.length ++ (s ++ q)).length = p.length + (uB s.length).length + (s.length + q.length) := by simp [Nat.add_assoc]
  have hd : (p ++ uB s.length ++ (s ++ q)).drop (p.length + (uB s.length).length) = s ++ q := by
    rw [← List.length_append, List.drop_left]
  rw [if_neg (by simp), if_neg (by show ¬ (_ - (p.length + (uB s.length).length) < s.length); rw [hl]; omega)]
  simp only [hd, List.take_left]
  show ((_, _), _) = ((_, _), _)
  rw [show (tB s).length = (uB s.length).length + s.length from by simp [tB], Nat.add_assoc]
theorem rdL_back : ∀ (l p q L : List Int), (∀ x ∈ l, I64 x) → rdL (p ++ l.flatMap iB ++ q) l.length (p.length, 0) L = ((p.length + (l.flatMap iB).length, 0), L ++ l) := by
  intro l
  induction l with
  | nil => intro p q L _; simp [rdL]
  | cons x l ih =>
    intro p q L h
    have e : p ++ (x :: l).flatMap iB ++ q = p ++ uB (fold x) ++ (l.flatMap iB ++ q) := by simp [List.flatMap_cons, iB]
    have e2 : p ++ uB (fold x) ++ (l.flatMap iB ++ q) = (p ++ uB (fold x)) ++ l.flatMap iB ++ q := by simp
    rw [List.length_cons, rdL_step, e, rU_back (fold x) (fold_bd (h x List.mem_cons_self)) p _, e2]
    have := ih (p ++ uB (fold x)) q (L ++ [unfoldI (fold x)]) (fun y hy => h y (List.mem_cons_of_mem _ hy))
    rw [List.length_append] at this
    rw [this, unfold_fold, List.flatMap_cons, List.length_append, List.append_assoc]
    show ((_, _), _) = ((_, _), _)
    rw [show (iB x).length = (uB (fold x)).length from rfl, Nat.add_assoc]
    rfl
theorem rL_back (l p q : List Int) (hl : l.length < 18446744073709551616) (h : ∀ x ∈ l, I64 x) : rL (p ++ lB l ++ q) p.length 0 l.length = ((p.length + (lB l).length, 0), l) := by
  have e : p ++ lB l ++ q = p ++ uB l.length ++ (l.flatMap iB ++ q) := by simp [lB]
  have e2 : p ++ uB l.length ++ (l.flatMap iB ++ q) = (p ++ uB l.length) ++ l.flatMap iB ++ q := by simp
  have := rdL_back l (p ++ uB l.length) q [] h
  rw [List.length_append] at this
  unfold rL
  rw [e, rN_back l.length l.length hl (Int.le_refl _) p _, e2]
  rw [this, if_neg (by simp)]
  show ((_, _), _) = ((_, _), _)
  rw [show (lB l).length = (uB l.length).length + (l.flatMap iB).length from by simp [lB], Nat.add_assoc]
  rfl
theorem rback (n : Nat) (i : Int) (s l : List Int) (hn : n < 18446744073709551616) (hi : I64 i) (hs : s.length ≤ 600) (hl : l.length ≤ 300) (h : ∀ x ∈ l, I64 x) (Z : List Int) (hZ : Z = ((([] ++ uB n) ++ iB i) ++ tB s) ++ lB l) :
    ∃ a1 a2 a3, rU Z 0 0 = ((a1, 0), n) ∧ rU Z a1 0 = ((a2, 0), fold i) ∧ rT Z a2 0 s.length = ((a3, 0), s) ∧ rL Z a3 0 l.length = ((Z.length, 0), l) := by
  refine ⟨(uB n).length, (uB n ++ iB i).length, (uB n ++ iB i ++ tB s).length, ?_, ?_, ?_, ?_⟩
  · have := rU_back n hn [] (iB i ++ tB s ++ lB l)
    simp only [List.length_nil, Nat.zero_add] at this
    rw [← this, hZ]; simp
  · have := rU_back (fold i) (fold_bd hi) (uB n) (tB s ++ lB l)
    rw [List.length_append]
    rw [show (iB i).length = (uB (fold i)).length from rfl, ← this, hZ]; simp [iB]
  · have := rT_back s (uB n ++ iB i) (lB l) (by omega)
    have e : (uB n ++ iB i ++ tB s).length = (uB n ++ iB i).length + (tB s).length := List.length_append
    rw [e, ← this, hZ]; simp
  · have := rL_back l (uB n ++ iB i ++ tB s) [] (by omega) h
    have e : (uB n ++ iB i ++ tB s ++ lB l).length = (uB n ++ iB i ++ tB s).length + (lB l).length := List.length_append
    rw [hZ]
    simp only [List.append_nil, List.nil_append] at this ⊢
    rw [e, ← this]
theorem len_tB (s : List Int) (h : s.length ≤ 600) : (tB s).length ≤ 609 := by
  have := (uB_len (n := s.length) (by omega)).2
  unfold tB
  rw [List.length_append]; omega
theorem len_lB (l : List Int) (h : l.length ≤ 300) (hi : ∀ x ∈ l, I64 x) : (lB l).length ≤ 2709 := by
  have := (uB_len (n := l.length) (by omega)).2
  have h2 := flat_iB l hi
  unfold lB
  rw [List.length_append]; omega
theorem iB_byt {i : Int} (h : I64 i) : byt (iB i) := uB_byt (fold_bd h)
theorem tB_byt {s : List Int} (h : byt s) (hs : s.length < 18446744073709551616) : byt (tB s) := (uB_byt hs).append h
theorem lB_byt {l : List Int} (h : ∀ x ∈ l, I64 x) (hl : l.length < 18446744073709551616) : byt (lB l) := (uB_byt hl).append (fun y hy => by
  obtain ⟨x, hx, hy⟩ := List.mem_flatMap.1 hy
  exact iB_byt (h x hx) y hy)
def IsY (W : World) (v : Value) (l : List Int) : Prop := ∃ A c, v = .slice A l.length c ∧ LiesY W W.heap.size A l
theorem OwnsY.is {w : World} {B : Nat} {v : Value} {l : List Int} (h : OwnsY w B v l) : IsY w v l := by
  obtain ⟨A, c, e, -, -, h3, -, -⟩ := h.lies
  exact ⟨A, c, e, h3⟩
theorem ref_SameV (l : List Int) (v v2 : Value) (w : World) (h : IsY w v l) (h2 : IsY w v2 l) : Calls Tryz.prog 7 #[v, v2] w fun e w' => e = .returned (.bool true) ∧ w = w' := by
  obtain ⟨A, c, rfl, h⟩ := h
  obtain ⟨A2, c2, rfl, h2⟩ := h2
  exact ref_SameY l A A2 c c2 _ w h h2
theorem app_ownG {B B2 : Nat} {W : World} {ops : Array Oper} {rest : List Oper} {o : Oper} {a : Act} {Q : Exit → Act → World → Prop} (hg : Region.wanted o (yielded ops a.tmps) = true) (s x : Operand)
    (ho : o.op = .call { callee := .builtin .append, args := #[s, x], argTypes := #[24, 24] })
    (v : Value) (l y : List Int) (A : Option Addr) (c n : Nat) (hs : a.eval s = v) (hx : a.eval x = .slice A n c) (hn : y.length = n) (hAc : A = none → c = 0) (hown : OwnsY W B v l) (hy : LiesY W B2 A y) (hB : B ≤ W.heap.size) (hl : l.length + n ≤ 1000000000)
    (h : ∀ v' w', OwnsY w' B v' (l ++ y) → Below B W w' → wpList Tryz.prog ops Q rest (a.put o.dst v') w') : wpList Tryz.prog ops Q (o :: rest) a W := by
  unfold wpList
  rw [if_pos hg]
  exact .inl (app_ownO s x ho v l y A c n hs hx hn hAc hown hy hB hl h)
theorem app_newG {B B2 : Nat} {W : World} {ops : Array Oper} {rest : List Oper} {o : Oper} {a : Act} {Q : Exit → Act → World → Prop} (hg : Region.wanted o (yielded ops a.tmps) = true) (s x : Operand)
    (ho : o.op = .call { callee := .builtin .append, args := #[s, x], argTypes := #[24, 24] })
    (y : List Int) (A : Option Addr) (c n : Nat) (hs : a.eval s = .slice (some ⟨W.heap.size, 0, none⟩) 0 0) (hx : a.eval x = .slice A n c) (hn : y.length = n) (hAc : A = none → c = 0) (hy : LiesY W B2 A y) (hB2 : B2 ≤ W.heap.size) (hB : B ≤ W.heap.size) (hl : n ≤ 1000000000)
    (h : ∀ v' w', OwnsY w' B v' y → Below B W w' → wpList Tryz.prog ops Q rest (a.put o.dst v') w') : wpList Tryz.prog ops Q (o :: rest) a (W.alloc (.cells #[] 5)) := by
  have hal := (Below.refl W.heap.size W).alloc (Nat.le_refl _) (.cells #[] 5)
  refine app_ownG hg s x ho _ [] y A c n hs hx hn hAc (own_mt (Box.new W _ _) hB) (hy.below (hal.mono hB2)) (Nat.le_trans hB hal.size) (by simpa using hl) ?_
  intro v' w' h1 h2
  exact h v' w' h1 ((hal.mono hB).trans h2)
end Go.Proofs.YtpoemflclbhekaaGreat
