/- Layer 21 (bin): bytes in the memory; appended. -/
import Derived.Test.YtpoemflclbhekaaGreatBinM
import Derived.Test.YtpoemflclbhekaaGreatCutH
import Derived.Laws.AppendOwnNone
import Derived.OwnWalk
import Derived.Laws.OwnMore
import Derived.ArgAppend
import Derived.Laws.BytesArg
import Derived.IntWalk
namespace Go.Proofs.YtpoemflclbhekaaGreat
open Go.RowKit
set_option linter.unusedVariables false
set_option linter.unusedSimpArgs false

def litY (l : List Int) : List Value := l.map (Value.int .u8)
theorem litY_len (l : List Int) : (litY l).length = l.length := by simp [litY]
theorem litY_app (l m : List Int) : litY (l ++ m) = litY l ++ litY m := by simp [litY]
theorem litY_get (l : List Int) (j : Nat) (h : j < l.length) : (litY l)[j]? = some (.int .u8 (l.getD j 0)) := by simp [litY, List.getD, h]
theorem litY_one (l : List Int) : ∀ u ∈ litY l, u.oneCell' = true := by
  intro u hu
  obtain ⟨y, _, rfl⟩ := List.mem_map.1 hu; rfl
theorem infoY : (Tryz.prog.info? 5).map (fun i => (i.zero, i.size, i.bytes)) = some (some (.int .u8 0), 1, 1) := by kernel_rfl
/-- bytes in the memory -/
def LiesY (w : World) (B : Nat) (A : Option Addr) (l : List Int) : Prop :=
  0 < l.length → ∃ ad : Addr, A = some ad ∧ ad.block < B ∧ ∀ j, j < l.length → w.cell? (ad.add j) = some (.int .u8 (l.getD j 0))
theorem LiesY.below {w w' : World} {B : Nat} {A : Option Addr} {l : List Int} (h : LiesY w B A l) (hb : Below B w w') : LiesY w' B A l := fun h0 => by
  obtain ⟨ad, e, hB, hc⟩ := h h0
  exact ⟨ad, e, hB, fun j hj => (hb.cell (by rw [add_block]; exact hB)).trans (hc j hj)⟩
theorem LiesY.mono {w : World} {B B' : Nat} {A : Option Addr} {l : List Int} (h : LiesY w B A l) (hB : B ≤ B') : LiesY w B' A l := fun h0 => by
  obtain ⟨ad, e, hb, hc⟩ := h h0
  exact ⟨ad, e, Nat.lt_of_lt_of_le hb hB, hc⟩
theorem LiesY.nil {w : World} {B : Nat} {A : Option Addr} : LiesY w B A [] := fun h => absurd h (by simp)
theorem LiesY.up {w w' : World} {A : Option Addr} {l : List Int} (h : LiesY w w.heap.size A l) (hb : Below w.heap.size w w') : LiesY w' w'.heap.size A l := (h.below hb).mono hb.size
theorem LiesY.none {w : World} {B : Nat} {l : List Int} (h : LiesY w B none l) : l = [] := by
  rcases Nat.eq_zero_or_pos l.length with h0 | h0
  · exact List.eq_nil_of_length_eq_zero h0
  · obtain ⟨ad, e, _⟩ := h h0
    cases e
theorem add_addY (ad : Addr) (m n : Nat) : (ad.add m).add n = ad.add (m + n) := by
  unfold Addr.add
  split <;> split <;> simp_all <;> omega
def OwnsY (w : World) (B : Nat) (v : Value) (l : List Int) : Prop := w.ownsRow B 5 1 v l.length (litY l)
theorem OwnsY.below {w w' : World} {B : Nat} {v : Value} {l : List Int} (h : OwnsY w B v l) (hb : Below w.heap.size w w') : OwnsY w' B v l := by
  refine ⟨h.1, ?_⟩
  rcases h.2 with h0 | ⟨g, cap, cur, h1, hbg, hh, hr⟩
  · exact .inl h0
  · refine .inr ⟨g, cap, cur, h1, hbg, (hb.block g ?_).trans hh, hr⟩
    rcases Nat.lt_or_ge g w.heap.size with h | h
    · exact h
    · rw [Array.getElem?_eq_none h] at hh; cases hh
theorem OwnsY.nil (w : World) (B : Nat) : OwnsY w B (.slice none 0 0) [] := ⟨rfl, .inl ⟨rfl, rfl⟩⟩
theorem addr_addY (G j : Nat) : (⟨G, 0, none⟩ : Addr).add j = ⟨G, j, none⟩ := by unfold Addr.add; split <;> simp_all
theorem OwnsY.lies {w : World} {B : Nat} {v : Value} {l : List Int} (h : OwnsY w B v l) : ∃ A c, v = .slice A l.length c ∧ l.length ≤ c ∧ c ≤ maxLen ∧ LiesY w w.heap.size A l ∧ (A = none → c = 0) ∧ (∀ ad, A = some ad → ∃ g, ad = ⟨g, 0, none⟩ ∧ B ≤ g ∧ g < w.heap.size) := by
  rcases h.2 with ⟨rfl, h0⟩ | ⟨g, cap, cur, rfl, hbg, hh, hnc, hm, hsz, hx⟩
  · refine ⟨none, 0, by rw [h0], by omega, by unfold maxLen; omega, fun h1 => by omega, fun _ => rfl, fun ad e => by cases e⟩
  · have hg : g < w.heap.size := by
      rcases Nat.lt_or_ge g w.heap.size with h | h
      · exact h
      · rw [Array.getElem?_eq_none h] at hh; cases hh
    refine ⟨_, cap, rfl, hnc, hm, fun _ => ⟨_, rfl, hg, fun j hj => ?_⟩, (fun e => by cases e), fun ad e => ⟨g, (by cases e; rfl), hbg, hg⟩⟩
    rw [addr_addY, cell_of_row w g j cur 5 (0, 0) hh]
    have h1 : (cur.toList.take (l.length * 1))[j]? = (litY l)[j]? := by rw [hx]
    rw [List.getElem?_take, if_pos (by omega), litY_get l j hj] at h1
    rw [← Array.getElem?_toList, h1]
/-- a row of the call's own, or one without room -/
def StY (w : World) (B : Nat) (v : Value) (l : List Int) : Prop := OwnsY w B v l ∨ ∃ A, v = .slice A l.length l.length ∧ LiesY w w.heap.size A l
theorem StY.below {w w' : World} {B : Nat} {v : Value} {l : List Int} (h : StY w B v l) (hb : Below w.heap.size w w') : StY w' B v l := by
  rcases h with h | ⟨A, e, h⟩
  · exact .inl (h.below hb)
  · exact .inr ⟨A, e, h.up hb⟩
theorem lies_news {W : World} {B : Nat} {ad : Addr} {y : List Int} (h : LiesY W B (some ad) y) : ∀ (j : Nat) u, (litY y)[j]? = some u → W.cell? (ad.add j) = some u := by
  intro j u hj
  have hl : j < y.length := by
    rcases Nat.lt_or_ge j y.length with g | g
    · exact g
    · rw [List.getElem?_eq_none (by rw [litY_len]; exact g)] at hj; cases hj
  obtain ⟨ad', e, _, hc⟩ := h (by omega)
  cases e
  rw [litY_get _ _ hl] at hj
  rw [← hj]
  exact hc j hl
/-- bytes behind a row -/
theorem app_st {B B2 : Nat} {W : World} {ops : Array Oper} {rest : List Oper} {o : Oper} {a : Act} {Q : Exit → Act → World → Prop} (hgd : o.guard = none) (s x : Operand)
    (ho : o.op = .call { callee := .builtin .append, args := #[s, x], argTypes := #[24, 24] })
    (v : Value) (l y : List Int) (ad : Addr) (c n : Nat) (hs : a.eval s = v) (hx : a.eval x = .slice (some ad) n c) (hn : y.length = n) (h0 : 0 < n) (hst : StY W B v l) (hy : LiesY W B2 (some ad) y) (hB : B ≤ W.heap.size) (hl : l.length + n ≤ 1000000000)
    (h : ∀ v' w', OwnsY w' B v' (l ++ y) → Below B W w' → wpList Tryz.prog ops Q rest (a.put o.dst v') w') : wpList Tryz.prog ops Q (o :: rest) a W := by
  subst hn
  obtain ⟨i0, hi, hz0, hz1, hz2⟩ := info_parts infoY
  rcases hst with hown | ⟨A, rfl, hA⟩
  · refine wpList_append_own _ hgd s x 24 ho B 5 i0 (.int .u8 0) 1 1 Tryz.underlying24 hi hz0 hz1 hz2 rfl (by decide) v l.length (litY l) hs hown ad y.length c (litY y) hx (by rw [litY_len]; omega) (lies_news hy) (litY_one y) (by unfold maxLen; omega) (by omega) hB ?_
    intro v' w' h1 h2 _
    refine h v' w' ?_ ?_
    · show w'.ownsRow _ _ _ _ _ _
      rw [List.length_append, litY_app]; exact h1
    · refine (Below.refl _ _).grown h2 hB fun k hk => ?_
      rcases hown.2 with ⟨rfl, _⟩ | ⟨g, cap, cur, rfl, hg, _⟩
      · simp [Value.ownBlock] at hk
      · simp only [Value.ownBlock, Option.some.injEq] at hk; omega
  · refine wpList_append_grows _ hgd s x 24 ho 5 i0 (.int .u8 0) 1 1 Tryz.underlying24 hi hz0 hz1 hz2 rfl (by decide) A l.length l.length (litY l) hs (fun e => by subst e; rw [hA.none]; exact ⟨rfl, rfl⟩) (by rw [litY_len]; omega) (fun b e => by subst e; exact lies_news hA) ad y.length c (litY y) hx (by rw [litY_len]; omega) (lies_news hy) (litY_one y) (by omega) (by unfold maxLen; omega) (by omega) ?_
    intro v' w' h1 h2
    refine h v' w' ?_ ((Below.refl _ _).grown h2 hB (fun k hk => by cases hk))
    show w'.ownsRow _ _ _ _ _ _
    rw [List.length_append, litY_app]
    refine ⟨h1.1, ?_⟩
    rcases h1.2 with h0 | ⟨g, cap, cur, e1, hbg, hr⟩
    · exact .inl h0
    · exact .inr ⟨g, cap, cur, e1, by omega, hr⟩
/-- any bytes behind a row of the call's own -/
theorem app_own {B B2 : Nat} {W : World} {ops : Array Oper} {rest : List Oper} {o : Oper} {a : Act} {Q : Exit → Act → World → Prop} (hgd : o.guard = none) (s x : Operand)
    (ho : o.op = .call { callee := .builtin .append, args := #[s, x], argTypes := #[24, 24] })
    (v : Value) (l y : List Int) (A : Option Addr) (c n : Nat) (hs : a.eval s = v) (hx : a.eval x = .slice A n c) (hn : y.length = n) (hAc : A = none → c = 0) (hown : OwnsY W B v l) (hy : LiesY W B2 A y) (hB : B ≤ W.heap.size) (hl : l.length + n ≤ 1000000000)
    (h : ∀ v' w', OwnsY w' B v' (l ++ y) → Below B W w' → wpList Tryz.prog ops Q rest (a.put o.dst v') w') : wpList Tryz.prog ops Q (o :: rest) a W := by
  subst hn
  obtain ⟨i0, hi, hz0, hz1, hz2⟩ := info_parts infoY
  cases A with
  | none =>
    have h0 := hy.none
    have h1 := hAc rfl
    subst h0
    subst h1
    refine wpList_append_own_none hgd s x 24 ho B 5 i0 1 Tryz.underlying24 hi v l.length (litY l) hs hown hx (h v W ?_ (Below.refl _ _))
    rw [List.append_nil]; exact hown
  | some ad =>
    refine wpList_append_own _ hgd s x 24 ho B 5 i0 (.int .u8 0) 1 1 Tryz.underlying24 hi hz0 hz1 hz2 rfl (by decide) v l.length (litY l) hs hown ad y.length c (litY y) hx (by rw [litY_len]; omega) (lies_news hy) (litY_one y) (by unfold maxLen; omega) (by omega) hB ?_
    intro v' w' h1 h2 _
    refine h v' w' ?_ ?_
    · show w'.ownsRow _ _ _ _ _ _
      rw [List.length_append, litY_app]; exact h1
    · refine (Below.refl _ _).grown h2 hB fun k hk => ?_
      rcases hown.2 with ⟨rfl, _⟩ | ⟨g, cap, cur, rfl, hg, _⟩
      · simp [Value.ownBlock] at hk
      · simp only [Value.ownBlock, Option.some.injEq] at hk; omega
theorem app_ownO {B B2 : Nat} {W : World} {o : Oper} {a : Act} {K : Act → World → Prop} {Q : Exit → Act → World → Prop} (s x : Operand)
    (ho : o.op = .call { callee := .builtin .append, args := #[s, x], argTypes := #[24, 24] })
    (v : Value) (l y : List Int) (A : Option Addr) (c n : Nat) (hs : a.eval s = v) (hx : a.eval x = .slice A n c) (hn : y.length = n) (hAc : A = none → c = 0) (hown : OwnsY W B v l) (hy : LiesY W B2 A y) (hB : B ≤ W.heap.size) (hl : l.length + n ≤ 1000000000)
    (h : ∀ v' w', OwnsY w' B v' (l ++ y) → Below B W w' → K (a.put o.dst v') w') : o.wp Tryz.prog a W K Q := by
  subst hn
  obtain ⟨i0, hi, hz0, hz1, hz2⟩ := info_parts infoY
  cases A with
  | none =>
    have h0 := hy.none
    have h1 := hAc rfl
    subst h0
    subst h1
    have hrun := run_append_owned_none (P := Tryz.prog) (w := W) B 24 o.type 5 i0 1 Tryz.underlying24 hi v l.length (litY l) hown
    simp only [List.length_nil] at hx
    unfold Oper.wp
    simp [execOp, ho, resolve, invoke, builtin, hs, hx, hrun, Result.andThen]
    exact h v W (by rw [List.append_nil]; exact hown) (Below.refl _ _)
  | some ad =>
    refine wp_append_own _ s x 24 ho B 5 i0 (.int .u8 0) 1 1 Tryz.underlying24 hi hz0 hz1 hz2 rfl (by decide) v l.length (litY l) hs hown ad y.length c (litY y) hx (by rw [litY_len]; omega) (lies_news hy) (litY_one y) (by unfold maxLen; omega) (by omega) hB ?_
    intro v' w' h1 h2 _
    refine h v' w' ?_ ?_
    · show w'.ownsRow _ _ _ _ _ _
      rw [List.length_append, litY_app]; exact h1
    · refine (Below.refl _ _).grown h2 hB fun k hk => ?_
      rcases hown.2 with ⟨rfl, _⟩ | ⟨g, cap, cur, rfl, hg, _⟩
      · simp [Value.ownBlock] at hk
      · simp only [Value.ownBlock, Option.some.injEq] at hk; omega
theorem lies_box {W : World} {g : Nat} {d : Int} (h : Box W g #[.int .u8 d] 5) : LiesY W W.heap.size (some ⟨g, 0, none⟩) [d] := fun _ => ⟨_, rfl, h.lt, fun j hj => by
  obtain rfl : j = 0 := by simp at hj; omega
  rw [addr_addY, h.cell 0]; rfl⟩
/-- a literal of one byte is a row of the call's own -/
theorem own_lit {W : World} {B g : Nat} {d : Int} (h : Box W g #[.int .u8 d] 5) (hB : B ≤ g) : OwnsY W B (.slice (some ⟨g, 0, none⟩) 1 1) [d] :=
  ⟨rfl, .inr ⟨g, 1, #[.int .u8 d], rfl, hB, h, Nat.le_refl _, by unfold maxLen; omega, rfl, rfl⟩⟩
theorem own_mt {W : World} {B g : Nat} (h : Box W g #[] 5) (hB : B ≤ g) : OwnsY W B (.slice (some ⟨g, 0, none⟩) 0 0) [] :=
  ⟨rfl, .inr ⟨g, 0, #[], rfl, hB, h, Nat.le_refl _, by unfold maxLen; omega, rfl, rfl⟩⟩
/-- one byte behind a row, out of a literal that was just laid -/
theorem app_y1 {B : Nat} {wr : World} {ops : Array Oper} {rest : List Oper} {o : Oper} {a : Act} {Q : Exit → Act → World → Prop} (hgd : o.guard = none) (s x : Operand)
    (ho : o.op = .call { callee := .builtin .append, args := #[s, x], argTypes := #[24, 24] })
    (v : Value) (l : List Int) (d : Int) (hs : a.eval s = v) (hst : StY wr B v l) (hx : a.eval x = .slice (some ⟨wr.heap.size, 0, none⟩) 1 1) (hB : B ≤ wr.heap.size) (hl : l.length + 1 ≤ 1000000000)
    (h : ∀ v' w', OwnsY w' B v' (l ++ [d]) → Below B wr w' → wpList Tryz.prog ops Q rest (a.put o.dst v') w') : wpList Tryz.prog ops Q (o :: rest) a (wr.alloc (.cells #[.int .u8 d] 5)) := by
  have hal := (Below.refl wr.heap.size wr).alloc (Nat.le_refl _) (.cells #[.int .u8 d] 5)
  refine app_st hgd s x ho v l [d] ⟨wr.heap.size, 0, none⟩ 1 1 hs hx rfl (by omega) (hst.below hal) (lies_box (Box.new _ _ _)) (by rw [alloc_size']; omega) hl ?_
  intro v' w' h1 h2
  exact h v' w' h1 ((hal.mono hB).trans h2)
/-- what a function gives: bytes of its own -/
def GivesY (l : List Int) (w : World) (e : Ending) (w' : World) : Prop := (∃ v, e = .returned v ∧ OwnsY w' w.heap.size v l) ∧ Below w.heap.size w w'
theorem conv_y (W : World) (A : Option Addr) (l : List Int) (c B : Nat) (h : LiesY W B A l) : (convert 24 9 (.slice A l.length c)).run Tryz.prog W = .ok (.string (strOfNums l)) W := by
  cases A with
  | none =>
    rw [h.none]
    exact run_convert_bytes_nil W 24 5 Tryz.underlying24 Tryz.underlying5 _ _ 9 Tryz.underlying9
  | some ad =>
    have hl : (loadCells ad l.length).run Tryz.prog W = .ok (l.map (Value.int .u8)).toArray W := by
      have := run_loadCells_list (P := Tryz.prog) W ad (l.map (Value.int .u8)) (lies_news h)
      simpa using this
    rw [run_convert_bytes_string W _ _ 5 _ _ _ Tryz.underlying24 Tryz.underlying5 Tryz.underlying9, run_bytesToString W ad l.length c l hl, foldl_push_bytes]
    simp [strOfNums, ByteArray.empty, ByteArray.emptyWithCapacity]
    rfl
end Go.Proofs.YtpoemflclbhekaaGreat
