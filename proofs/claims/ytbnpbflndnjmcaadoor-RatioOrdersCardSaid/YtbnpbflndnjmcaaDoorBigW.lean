/- Contracts of package copseref01: digits of base 65536 in memory. -/
import Derived.Test.YtbnpbflndnjmcaaDoorBigN
import Derived.Test.YtbnpbflndnjmcaaDoorMem
namespace Go.Proofs.YtbnpbflndnjmcaaDoor
open Go.RowKit

def lits (l : List Int) : List Value := l.map (Value.int .i64)
theorem lits_len (l : List Int) : (lits l).length = l.length := by simp [lits]
theorem lits_snoc (l : List Int) (d : Int) : lits l ++ [Value.int .i64 d] = lits (l ++ [d]) := by simp [lits]
theorem lits_get (l : List Int) (j : Nat) (h : j < l.length) : (lits l)[j]? = some (.int .i64 (l.getD j 0)) := by
  simp [lits, List.getD, h]
/-- a row of the call's own lies as a list -/
theorem lies_own {w : World} {base : Nat} {e : TypeId} {v : Value} {l : List Int} (h : w.ownsRow base e 1 v l.length (lits l)) :
    ∃ A c, v = .slice A l.length c ∧ l.length ≤ c ∧ c ≤ maxLen ∧ Lies w w.heap.size A l := by
  rcases h.2 with ⟨rfl, h0⟩ | ⟨g, cap, cur, rfl, hb, hh, hnc, hm, hsz, hx⟩
  · rw [h0]
    exact ⟨none, 0, rfl, by omega, by unfold maxLen; omega, fun h1 => absurd h1 (by omega)⟩
  · refine ⟨_, cap, rfl, hnc, hm, fun _ => ⟨⟨g, 0, none⟩, rfl, ?_, fun j hj => ?_⟩⟩
    · rcases Nat.lt_or_ge g w.heap.size with hlt | hge
      · exact hlt
      · rw [Array.getElem?_eq_none hge] at hh; cases hh
    · have h1 : (⟨g, 0, none⟩ : Addr).add j = ⟨g, j, none⟩ := by unfold Addr.add; split <;> simp_all
      rw [h1]
      refine (cell_of_row w g j _ _ (0, 0) hh).trans ?_
      rw [← lits_get l j hj, ← hx, List.getElem?_take]
      simp
      intro h2; omega

/-- it gives the digits of n -/
def Gives (n : Int) (w : World) (e : Ending) (w' : World) : Prop :=
  ∃ A c, e = .returned (.slice A (digs n).length c) ∧ (digs n).length ≤ c ∧ c ≤ maxLen ∧ Lies w' w'.heap.size A (digs n) ∧ Below w.heap.size w w'

theorem info_int : (Tryd.prog.info? 3).map (fun i => (i.zero, i.size, i.bytes)) = some (some (.int .i64 0), 1, 8) := by kernel_rfl

theorem lies_at {w : World} {B : Nat} {A : Option Addr} {l : List Int} (h : Lies w B A l) {k : Nat} (hk : k < l.length) :
    ∃ ad : Addr, A = some ad ∧ ad.block < B ∧ w.cell? (ad.add k) = some (.int .i64 (l.getD k 0)) := by
  obtain ⟨ad, e, hb, hc⟩ := h (by omega)
  exact ⟨ad, e, hb, hc k hk⟩
/-- one number more onto a row of the call's own -/
theorem app_one {B : Nat} {wr : World} {ops : Array Oper} {rest : List Oper} {o : Oper} {a : Act} {Q : Exit → Act → World → Prop} (hgd : o.guard = none) (s x : Operand)
    (ho : o.op = .call { callee := .builtin .append, args := #[s, x], argTypes := #[52, 52] })
    (v : Value) (l : List Int) (d : Int) (hs : a.eval s = v) (hown : wr.ownsRow B 3 1 v l.length (lits l)) (hx : a.eval x = .slice (some ⟨wr.heap.size, 0, none⟩) 1 1)
    (hB : B ≤ wr.heap.size) (hn : l.length + 1 ≤ 1000000000)
    (h : ∀ v' w', w'.ownsRow B 3 1 v' (l ++ [d]).length (lits (l ++ [d])) → Below B wr w' → wpList Tryd.prog ops Q rest (a.put o.dst v') w') :
    wpList Tryd.prog ops Q (o :: rest) a (wr.alloc (.cells #[.int .i64 d] 3)) := by
  obtain ⟨i0, hi, hz0, hz1, hz2⟩ := info_parts info_int
  refine wpList_append_own _ hgd s x 52 ho B 3 i0 (.int .i64 0) 1 8 Tryd.underlying52 hi hz0 hz1 hz2 rfl (by decide) v l.length (lits l) hs (hown.alloc _) ⟨wr.heap.size, 0, none⟩ 1 1 [.int .i64 d] hx rfl ?_ ?_ ?_ ?_ ?_ ?_
  · intro j u hj
    cases j with
    | zero =>
      simp only [List.getElem?_cons_zero] at hj
      rw [← hj]
      exact cell_of_row _ _ 0 _ _ (0, 0) (heap_alloc_new wr _)
    | succ j => simp at hj
  · intro u hu; rw [List.mem_singleton.1 hu]; rfl
  · unfold maxLen; omega
  · omega
  · simp; omega
  · intro v' w' h1 h2 _
    refine h v' w' ?_ ?_
    · rw [List.length_append, ← lits_snoc]; exact h1
    · refine ((Below.refl _ _).alloc hB _).grown h2 (by simp; omega) fun k hk => ?_
      rcases hown.2 with ⟨rfl, _⟩ | ⟨g, cap, cur, rfl, hg, _⟩
      · simp [Value.ownBlock] at hk
      · simp only [Value.ownBlock, Option.some.injEq] at hk; omega

theorem ref_of (n : Int) (hn : U64 n) (w : World) : Calls Tryd.prog 60 #[.int .u64 n] w (Gives n w) := by
  have hlen : (digs n).length ≤ 4 := digs_len n 4 (by unfold U64 at hn; unfold pw; omega)
  obtain ⟨hn0, hn1⟩ := hn
  go_enter Tryd.func60, Tryd.ntmps60
  go_wp2
  go_loopw [0, 3] (fun nv v wr => ∃ (m : Int) (l : List Int), nv = .int .u64 m ∧ 0 ≤ m ∧ m < 18446744073709551616 ∧ Hid (digs n = l ++ digs m) ∧ l.length ≤ 4 ∧ wr.ownsRow w.heap.size 3 1 v l.length (lits l) ∧ Below w.heap.size w wr) (fun nv _ _ => (intOf nv).toNat)
  case atStart => exact ⟨n, [], rfl, hn0, hn1, rfl, by simp, ⟨by simp [lits], .inl ⟨rfl, rfl⟩⟩, Below.refl _ _⟩
  case round =>
    obtain ⟨m, l, rfl, hm0, hm1, HD, hl4, hown, hb⟩ := hrel
    by_cases h0 : 0 < m
    · have HD' : Hid (digs n = (l ++ [m % 65536]) ++ digs (m / 65536)) := by
        have h := HD.out
        rw [digs_s h0] at h
        show _ = _
        rw [h, List.append_assoc]; rfl
      have hl5 : (l ++ [m % 65536]).length ≤ 4 := by
        have h := congrArg List.length HD'.out
        rw [List.length_append] at h
        omega
      have hbs := hb.size
      have hr0 : 0 ≤ m % 65536 := by omega
      have hr1 : m % 65536 < 65536 := by omega
      go_wp2_with (at_builtin; refine app_one rfl (.tmp 6) (.tmp 10) rfl _ l (m % 65536) rfl hown rfl hbs (by omega) ?_; intro v' w1 hown' hb1)
      exact ⟨⟨_, _, rfl, by omega, by omega, HD', hl5, hown', hb.trans hb1⟩, by simp [intOf]; omega⟩
    · have HD' : Hid (digs n = l) := by
        have h := HD.out
        rw [digs_0 (n := m) (by omega), List.append_nil] at h
        exact h
      go_wp2
      go_ret
      obtain ⟨A, c, rfl, hc, hm, hL⟩ := lies_own hown
      rw [← HD'.out] at hc hL ⊢
      exact ⟨A, c, rfl, hc, hm, hL, hb⟩
end Go.Proofs.YtbnpbflndnjmcaaDoor
