import Derived.Test.YtehekdahlnpldaaDrawC
import Derived.Deep.Upon

/-! Package draw: Used; the reference's Same; what the statements of layer 6 ask of every program. -/
namespace Go.Proofs.Ytehekdahlnpldaa
open Go.RowKit
set_option linter.unusedVariables false
set_option linter.unusedSimpArgs false

theorem info_u64 : (Try.prog.info? 68).map (fun i => (i.zero, i.size, i.bytes)) = some (some (.int .u64 0), 1, 8) := by kernel_rfl
def litu (l : List Int) : List Value := l.map (Value.int .u64)
theorem litu_get (l : List Int) (j : Nat) (h : j < l.length) : (litu l)[j]? = some (.int .u64 (l.getD j 0)) := by
  simp [litu, List.getD, h]
theorem liesU_own {w : World} {base : Nat} {e : TypeId} {v : Value} {l : List Int} (h : w.ownsRow base e 1 v l.length (litu l)) :
    ∃ A c, v = .slice A l.length c ∧ l.length ≤ c ∧ c ≤ maxLen ∧ LiesU w w.heap.size A l := by
  rcases h.2 with ⟨rfl, h0⟩ | ⟨g, cap, cur, rfl, hb, hh, hnc, hm, hsz, hx⟩
  · rw [h0]
    exact ⟨none, 0, rfl, by omega, by unfold maxLen; omega, fun h1 => absurd h1 (by omega)⟩
  · refine ⟨_, cap, rfl, hnc, hm, fun _ => ⟨⟨g, 0, none⟩, rfl, ?_, fun j hj => ?_⟩⟩
    · rcases Nat.lt_or_ge g w.heap.size with hlt | hge
      · exact hlt
      · rw [Array.getElem?_eq_none hge] at hh; cases hh
    · have h1 : (⟨g, 0, none⟩ : Addr).add j = ⟨g, j, none⟩ := by unfold Addr.add; split <;> simp_all
      rw [h1]
      refine (cell_of_row w g j _ _ (0, 0) hh).trans ?_
      rw [← litu_get l j hj, ← hx, List.getElem?_take]
      simp
      intro h2; omega
/-- it gives a row of the words of l, of the call's own -/
def GivesU (l : List Int) (w : World) (e : Ending) (w' : World) : Prop :=
  ∃ A c, e = .returned (.slice A l.length c) ∧ l.length ≤ c ∧ c ≤ maxLen ∧ LiesU w' w'.heap.size A l ∧ Below w.heap.size w w'
theorem LiesU.add {w : World} {B : Nat} {ad : Addr} {l : List Int} (h : LiesU w B (some ad) l) (f : Nat) {j : Nat} (hj : f + j < l.length) : w.cell? ((ad.add f).add j) = some (.int .u64 (l.getD (f + j) 0)) := by
  obtain ⟨ad2, e, hb, hc⟩ := h (by omega)
  cases e
  rw [Addr.add_add]
  exact hc _ hj
theorem src_nil {size : Nat} {t : TypeId} {e : TypeId} (ht : Try.prog.underlying t = some (.slice e)) (X : Option Addr) (c : Nat) (w : World) : Src Try.prog size t (.slice X 0 c) 0 [] w := by
  refine ⟨.inl ⟨e, ht⟩, fun w' => by simp [Builtin.lenOf], ?_, ?_, by simp, by simp⟩
  · cases X with
    | none => exact run_firstCells_none _ _ _ _ _
    | some b => exact run_firstCells_some (P := Try.prog) w size 0 b 0 c [] (by simp) (by simp)
  · cases X with
    | none => exact run_firstCells_none _ _ _ _ _
    | some b => exact run_firstCells_some (P := Try.prog) w.drew size 0 b 0 c [] (by simp) (by simp)
/-- a row of words more onto a row of the call's own -/
theorem app_rowU {B : Nat} {wr : World} {ops : Array Oper} {rest : List Oper} {o : Oper} {a : Act} {Q : Exit → Act → World → Prop} (hgd : o.guard = none) (s x : Operand)
    (ho : o.op = .call { callee := .builtin .append, args := #[s, x], argTypes := #[22, 22] })
    (v : Value) (l news : List Int) (X : Option Addr) (c K : Nat) (hs : a.eval s = v) (hown : wr.ownsRow B 68 1 v l.length (litu l)) (hx : a.eval x = .slice X news.length c) (hL : LiesU wr K X news)
    (hB : B ≤ wr.heap.size) (hn : l.length + news.length ≤ 1000000000)
    (h : ∀ v' w', w'.ownsRow B 68 1 v' (l ++ news).length (litu (l ++ news)) → Below B wr w' → wpList Try.prog ops Q rest (a.put o.dst v') w') :
    wpList Try.prog ops Q (o :: rest) a wr := by
  obtain ⟨i0, hi, hz0, hz1, hz2⟩ := info_parts info_u64
  rcases Nat.eq_zero_or_pos news.length with h0 | h0
  · obtain rfl : news = [] := List.eq_nil_of_length_eq_zero h0
    have hf : ∃ b n cc, v = .slice b n cc ∧ n ≤ cc := by
      rcases hown.2 with ⟨rfl, h1⟩ | ⟨g, cap, cur, rfl, _, _, hnc, _⟩
      · exact ⟨_, _, _, rfl, by omega⟩
      · exact ⟨_, _, _, rfl, hnc⟩
    obtain ⟨b, n, cc, rfl, hle⟩ := hf
    have hr := run_append_nothing (P := Try.prog) wr 22 22 o.type 68 i0 Try.underlying22 hi b n cc hle (.slice X 0 c) (src_nil Try.underlying22 X c wr)
    refine wpList_plain hgd fun _ hK => ?_
    unfold Oper.wp execOp
    simp only [ho, resolve, invoke, builtin, Sem.run_bind, Sem.run_pure, Result.andThen_ok, List.map_toArray, List.map_cons, List.map_nil, hs, hx, List.length_nil, hr]
    refine hK _ _ (h _ _ ?_ (Below.refl _ _))
    simpa using hown
  · obtain ⟨ad, rfl, _, hc⟩ := hL h0
    refine wpList_append_own _ hgd s x 22 ho B 68 i0 (.int .u64 0) 1 8 Try.underlying22 hi hz0 hz1 hz2 rfl (by decide) v l.length (litu l) hs hown ad news.length c (litu news) hx (by simp [litu]) ?_ ?_ ?_ ?_ ?_ ?_
    · intro j u hj
      have hjl : j < news.length := by
        rcases Nat.lt_or_ge j news.length with h1 | h1
        · exact h1
        · rw [List.getElem?_eq_none (by simpa [litu] using h1)] at hj; cases hj
      rw [litu_get _ _ hjl] at hj
      rw [← hj]; exact hc j hjl
    · intro u hu
      simp only [litu, List.mem_map] at hu
      obtain ⟨y, _, rfl⟩ := hu; rfl
    · unfold maxLen; omega
    · omega
    · exact hB
    · intro v' w' h1 h2 _
      refine h v' w' ?_ ?_
      · rw [List.length_append, litu, List.map_append]; exact h1
      · refine (Below.refl _ _).grown h2 hB fun k hk => ?_
        rcases hown.2 with ⟨rfl, _⟩ | ⟨g, cap, cur, rfl, hg, _⟩
        · simp [Value.ownBlock] at hk
        · simp only [Value.ownBlock, Option.some.injEq] at hk; omega
def usedL (l : List Int) (f t : Int) : List Int := if f < 0 ∨ t < f ∨ l.length < t then [] else (l.drop f.toNat).take (t.toNat - f.toNat)
theorem liesU_cut {w : World} {B c : Nat} {A : Option Addr} {l : List Int} (h : LiesU w B A l) (f t : Nat) (ht : t ≤ l.length) (hf : f ≤ t) (hc : l.length ≤ c) :
    LiesU w B (if c = f then A else A.map (·.add f)) ((l.drop f).take (t - f)) := fun h0 => by
  have hlen : ((l.drop f).take (t - f)).length = t - f := by rw [List.length_take, List.length_drop]; omega
  rw [hlen] at h0
  obtain ⟨ad, rfl, hb, hcell⟩ := h (by omega)
  rw [if_neg (by omega)]
  refine ⟨ad.add f, rfl, by rw [add_block]; exact hb, fun j hj => ?_⟩
  rw [hlen] at hj
  rw [Addr.add_add, hcell (f + j) (by omega)]
  congr 2
  rw [List.getD_eq_getElem?_getD, List.getD_eq_getElem?_getD, List.getElem?_take, if_pos hj, List.getElem?_drop]
theorem take_same {l m : List Int} {k : Nat} (hk : k < l.length) (hm : l.length = m.length) (h : l.take k = m.take k) : (l.getD k 0 = m.getD k 0 → l.take (k + 1) = m.take (k + 1)) ∧ (l.getD k 0 ≠ m.getD k 0 → l ≠ m) := by
  refine ⟨fun he => ?_, fun he hh => he (by rw [hh])⟩
  rw [List.take_add_one, List.take_add_one, h]
  congr 2
  simp only [List.getD_eq_getElem?_getD, List.getElem?_eq_getElem hk, List.getElem?_eq_getElem (hm ▸ hk), Option.getD_some] at he ⊢
  rw [he]
end Go.Proofs.Ytehekdahlnpldaa
