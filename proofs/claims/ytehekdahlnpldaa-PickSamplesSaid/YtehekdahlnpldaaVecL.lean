import Derived.Test.YtehekdahlnpldaaVecF
import Derived.ArgAppend

/-! Lists of the call's own: one number more, a copy; rows that are stored into. -/
namespace Go.Proofs.Ytehekdahlnpldaa
open Go.RowKit
set_option linter.unusedVariables false
set_option linter.unusedSimpArgs false

def litI (l : List Int) : List Value := l.map (Value.int .i64)
theorem litI_len (l : List Int) : (litI l).length = l.length := by simp [litI]
theorem litI_snoc (l : List Int) (d : Int) : litI l ++ [Value.int .i64 d] = litI (l ++ [d]) := by simp [litI]
theorem litI_get (l : List Int) (j : Nat) (h : j < l.length) : (litI l)[j]? = some (.int .i64 (l.getD j 0)) := by
  simp [litI, List.getD, h]
theorem infoI : (Try.prog.info? 3).map (fun i => (i.zero, i.size, i.bytes)) = some (some (.int .i64 0), 1, 8) := by kernel_rfl
theorem lies_ownI {w : World} {base : Nat} {e : TypeId} {v : Value} {l : List Int} (h : w.ownsRow base e 1 v l.length (litI l)) :
    ∃ A c, v = .slice A l.length c ∧ l.length ≤ c ∧ c ≤ maxLen ∧ Lies w w.heap.size A l := by
  rcases h.2 with ⟨rfl, h0⟩ | ⟨g, cap, cur, rfl, hb, hh, hnc, hm, hsz, hx⟩
  · rw [h0]
    exact ⟨none, 0, rfl, by omega, by unfold maxLen; omega, fun h1 => absurd h1 (by omega)⟩
  · refine ⟨_, cap, rfl, hnc, hm, fun _ => ⟨⟨g, 0, none⟩, rfl, ?_, fun j hj => ?_⟩⟩
    · rcases Nat.lt_or_ge g w.heap.size with hlt | hge
      · exact hlt
      · rw [Array.getElem?_eq_none hge] at hh; cases hh
    · have h1 : (⟨g, 0, none⟩ : Addr).add j = ⟨g, j, none⟩ := by unfold Addr.add; split <;> simp_all
      rw [h1]
      refine (cell_of_row w g j _ _ (0, 0) hh).trans ?_
      rw [← litI_get l j hj, ← hx, List.getElem?_take]
      simp
      intro h2; omega
theorem ownI_below {w w' : World} {B : Nat} {v : Value} {n : Nat} {xs : List Value} (h : w.ownsRow B 3 1 v n xs) (hb : Below w.heap.size w w') : w'.ownsRow B 3 1 v n xs := by
  refine h.kept ⟨hb.os, hb.tape, hb.output, hb.size, fun k hk _ => hb.block k hk⟩ (row := none) ?_
  rcases h.2 with ⟨rfl, _⟩ | ⟨g, cap, cur, rfl, _⟩ <;> simp [Value.ownBlock]
theorem own_neI {w : World} {B g : Nat} {v : Value} {n s : Nat} {xs : List Value} {e T : TypeId} {cs : Array Value} (h : w.ownsRow B e s v n xs) (hx : Box w g cs T) (hT : T ≠ e) : v.ownBlock ≠ some g := by
  rcases h.2 with ⟨rfl, _⟩ | ⟨g', cap, cur, rfl, _, hh, _⟩
  · simp [Value.ownBlock]
  · simp only [Value.ownBlock, ne_eq, Option.some.injEq]
    rintro rfl
    unfold Box at hx
    rw [hh] at hx
    simp at hx
    exact hT hx.2.symm
/-- one number more onto a list of the call's own -/
theorem app_int {B : Nat} {wr : World} {ops : Array Oper} {rest : List Oper} {o : Oper} {a : Act} {Q : Exit → Act → World → Prop} (hgd : o.guard = none) (s x : Operand)
    (ho : o.op = .call { callee := .builtin .append, args := #[s, x], argTypes := #[24, 24] })
    (v : Value) (l : List Int) (d : Int) (hs : a.eval s = v) (hown : wr.ownsRow B 3 1 v l.length (litI l)) (hx : a.eval x = .slice (some ⟨wr.heap.size, 0, none⟩) 1 1)
    (hB : B ≤ wr.heap.size) (hn : l.length + 1 ≤ 1000000000)
    (h : ∀ v' w', w'.ownsRow B 3 1 v' (l ++ [d]).length (litI (l ++ [d])) → Below B wr w' → (∀ (g : Nat) (cs : Array Value) (T : TypeId), T ≠ 3 → Box wr g cs T → Box w' g cs T) → wpList Try.prog ops Q rest (a.put o.dst v') w') :
    wpList Try.prog ops Q (o :: rest) a (wr.alloc (.cells #[.int .i64 d] 3)) := by
  obtain ⟨i0, hi, hz0, hz1, hz2⟩ := info_parts infoI
  refine wpList_append_own _ hgd s x 24 ho B 3 i0 (.int .i64 0) 1 8 Try.underlying24 hi hz0 hz1 hz2 rfl (by decide) v l.length (litI l) hs (hown.alloc _) ⟨wr.heap.size, 0, none⟩ 1 1 [.int .i64 d] hx rfl ?_ ?_ ?_ ?_ ?_ ?_
  · intro j u hj
    cases j with
    | zero =>
      simp only [List.getElem?_cons_zero] at hj
      rw [← hj]
      exact cell_of_row _ _ 0 _ _ (0, 0) (heap_alloc_new wr _)
    | succ j => simp at hj
  · intro u hu; rw [List.mem_singleton.1 hu]; rfl
  · unfold maxLen; omega
  · omega
  · simp; omega
  · intro v' w' h1 h2 _
    refine h v' w' ?_ ?_ ?_
    · rw [List.length_append, ← litI_snoc]; exact h1
    · refine ((Below.refl _ _).alloc hB _).grown h2 (by simp; omega) fun k hk => ?_
      rcases hown.2 with ⟨rfl, _⟩ | ⟨g, cap, cur, rfl, hg, _⟩
      · simp [Value.ownBlock] at hk
      · simp only [Value.ownBlock, Option.some.injEq] at hk; omega
    · intro g cs T hT hb
      have hb2 := hb.alloc (.cells #[.int .i64 d] 3)
      exact (h2.block g hb2.lt (fun e => own_neI (hown.alloc (.cells #[.int .i64 d] 3)) hb2 hT e.symm)).trans hb2
/-- it gives a row of these numbers, of the call's own -/
def GivesI (l : List Int) (w : World) (e : Ending) (w' : World) : Prop := ∃ A c, e = .returned (.slice A l.length c) ∧ l.length ≤ c ∧ c ≤ maxLen ∧ Lies w' w'.heap.size A l ∧ Below w.heap.size w w'

/-- the indices below k at which lo is below hi -/
def openK (lo hi : List Int) : Nat → List Int
  | 0 => []
  | k + 1 => if lo.getD k 0 < hi.getD k 0 then openK lo hi k ++ [(k : Int)] else openK lo hi k
theorem openK_len (lo hi : List Int) (k : Nat) : (openK lo hi k).length ≤ k := by
  induction k with
  | zero => simp [openK]
  | succ k ih =>
    simp only [openK]
    split
    · rw [List.length_append]; simp; exact ih
    · omega
def openL (lo hi : List Int) : List Int := openK lo hi (min lo.length hi.length)
theorem below_drewN2 {B : Nat} {a w : World} (h : Below B a w) (n : Nat) : Below B a (w.drewN n) := ⟨h.os, h.tape, h.output, h.size, h.block⟩
theorem ownI_drewN {w : World} {B : Nat} {v : Value} {n : Nat} {xs : List Value} (h : w.ownsRow B 3 1 v n xs) (k : Nat) : (w.drewN k).ownsRow B 3 1 v n xs := ownI_below h (below_drewN2 (Below.refl _ _) k)
set_option maxHeartbeats 2000000 in
theorem vec_Open (A A2 : Option Addr) (a b : List Int) (c c2 : Nat) (w : World) (hA : Lies w w.heap.size A a) (hA2 : Lies w w.heap.size A2 b) (hla : a.length ≤ 1000000) (hlb : b.length ≤ 1000000) :
    Calls Try.prog 134 #[.slice A a.length c, .slice A2 b.length c2] w (GivesI (openL a b) w) := by
  have HA := Lib.hid hA
  have HA2 := Lib.hid hA2
  unfold openL
  clear hA hA2
  generalize hN : a.length = N at *
  generalize hM : b.length = M at *
  have HN := Lib.hid hN
  have HM := Lib.hid hM
  clear hN hM
  rcases Nat.lt_or_ge M N with hc | hc
  · rw [show min N M = M from by omega]
    · go_enter Try.func134, Try.ntmps134
      go_wp2
      go_loopw [5, 12] (fun vv i wr => ∃ k : Nat, k ≤ M ∧ i = .int .i64 k ∧ Hid (wr.ownsRow w.heap.size 3 1 vv (openK a b k).length (litI (openK a b k))) ∧ Hid (Below w.heap.size w wr)) (fun _ i _ => M - (intOf i).toNat)
      case atStart => exact ⟨0, by omega, rfl, World.ownsRow_nil _ _ _ _, Below.refl _ _⟩
      case round =>
        obtain ⟨k, hk, rfl, HO, HB⟩ := hrel
        by_cases hlt : k < M
        · have HAr : Hid (Lies wr w.heap.size A a) := HA.out.below HB.out
          have HAr2 : Hid (Lies wr w.heap.size A2 b) := HA2.out.below HB.out
          obtain ⟨ad, rfl, hb1, hc1⟩ := HAr.out.at (k := k) (by have := HN.out; omega)
          obtain ⟨ad2, rfl, hb2, hc2⟩ := HAr2.out.at (k := k) (by have := HM.out; omega)
          have HS : Hid (openK a b (k + 1) = if a.getD k 0 < b.getD k 0 then openK a b k ++ [(k : Int)] else openK a b k) := rfl
          have hlen := openK_len a b k
          generalize openK a b k = l1 at *
          generalize a.getD k 0 = x at *
          generalize b.getD k 0 = y at *
          have hji : (k : Int) < (N : Int) := by omega
          have hji2 : (k : Int) < (M : Int) := by omega
          by_cases hxy : x < y
          · rw [if_pos hxy] at HS
            have HLN : Hid (l1.length + 1 ≤ 1000000000) := by show _ ≤ _; omega
            clear hlen
            go_wp2
            go_quiet (fail)
            go_wp2_with (at_builtin; refine app_int rfl (.tmp 24) (.tmp 26) rfl _ l1 k rfl (ownI_drewN HO.out nq) rfl (by have := HB.out.size; simpa using this) HLN.out ?_; intro v' w4 hown4 hb4 _)
            have hb5 := (below_drewN2 HB.out nq).trans hb4
            refine ⟨⟨k + 1, by omega, by go_num, (by show World.ownsRow _ _ _ _ _ _ _; rw [HS.out]; exact hown4), hb5⟩, by first | (simp [intOf]; done) | (simp [intOf]; omega)⟩
          · rw [if_neg hxy] at HS
            go_wp2
            go_quiet (fail)
            go_wp2
            refine ⟨⟨k + 1, by omega, by go_num, (by show World.ownsRow _ _ _ _ _ _ _; rw [HS.out]; exact ownI_drewN HO.out nq), below_drewN2 HB.out nq⟩, by first | (simp [intOf]; done) | (simp [intOf]; omega)⟩
        · obtain rfl : k = M := by omega
          have hown := HO.out
          obtain ⟨A1, c1, rfl, g1, g2, g3⟩ := lies_ownI hown
          go_wp2
          go_ret
          exact ⟨A1, c1, rfl, g1, g2, g3, HB.out⟩
  · rw [show min N M = N from by omega]
    · go_enter Try.func134, Try.ntmps134
      go_wp2
      go_loopw [5, 12] (fun vv i wr => ∃ k : Nat, k ≤ N ∧ i = .int .i64 k ∧ Hid (wr.ownsRow w.heap.size 3 1 vv (openK a b k).length (litI (openK a b k))) ∧ Hid (Below w.heap.size w wr)) (fun _ i _ => N - (intOf i).toNat)
      case atStart => exact ⟨0, by omega, rfl, World.ownsRow_nil _ _ _ _, Below.refl _ _⟩
      case round =>
        obtain ⟨k, hk, rfl, HO, HB⟩ := hrel
        by_cases hlt : k < N
        · have HAr : Hid (Lies wr w.heap.size A a) := HA.out.below HB.out
          have HAr2 : Hid (Lies wr w.heap.size A2 b) := HA2.out.below HB.out
          obtain ⟨ad, rfl, hb1, hc1⟩ := HAr.out.at (k := k) (by have := HN.out; omega)
          obtain ⟨ad2, rfl, hb2, hc2⟩ := HAr2.out.at (k := k) (by have := HM.out; omega)
          have HS : Hid (openK a b (k + 1) = if a.getD k 0 < b.getD k 0 then openK a b k ++ [(k : Int)] else openK a b k) := rfl
          have hlen := openK_len a b k
          generalize openK a b k = l1 at *
          generalize a.getD k 0 = x at *
          generalize b.getD k 0 = y at *
          have hji : (k : Int) < (N : Int) := by omega
          have hji2 : (k : Int) < (M : Int) := by omega
          by_cases hxy : x < y
          · rw [if_pos hxy] at HS
            have HLN : Hid (l1.length + 1 ≤ 1000000000) := by show _ ≤ _; omega
            clear hlen
            go_wp2
            go_quiet (fail)
            go_wp2_with (at_builtin; refine app_int rfl (.tmp 24) (.tmp 26) rfl _ l1 k rfl (ownI_drewN HO.out nq) rfl (by have := HB.out.size; simpa using this) HLN.out ?_; intro v' w4 hown4 hb4 _)
            have hb5 := (below_drewN2 HB.out nq).trans hb4
            refine ⟨⟨k + 1, by omega, by go_num, (by show World.ownsRow _ _ _ _ _ _ _; rw [HS.out]; exact hown4), hb5⟩, by first | (simp [intOf]; done) | (simp [intOf]; omega)⟩
          · rw [if_neg hxy] at HS
            go_wp2
            go_quiet (fail)
            go_wp2
            refine ⟨⟨k + 1, by omega, by go_num, (by show World.ownsRow _ _ _ _ _ _ _; rw [HS.out]; exact ownI_drewN HO.out nq), below_drewN2 HB.out nq⟩, by first | (simp [intOf]; done) | (simp [intOf]; omega)⟩
        · obtain rfl : k = N := by omega
          have hown := HO.out
          obtain ⟨A1, c1, rfl, g1, g2, g3⟩ := lies_ownI hown
          go_wp2
          go_ret
          exact ⟨A1, c1, rfl, g1, g2, g3, HB.out⟩
end Go.Proofs.Ytehekdahlnpldaa
