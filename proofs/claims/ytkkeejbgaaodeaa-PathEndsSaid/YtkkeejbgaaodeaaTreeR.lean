import Derived.Test.YtkkeejbgaaodeaaTreeQ
import Derived.Laws.AppendOwnNone
import Derived.OwnWalk
import Derived.Laws.OwnMore

/-! Layer 10: the reference's sub: rows at indices, appended. -/
namespace Go.Proofs.Ytkkeejbgaaodeaa
open Go.RowKit
set_option linter.unusedVariables false
set_option linter.unusedSimpArgs false

/-- a row of rows, the call's own, to which it appends -/
def OwnA (w : World) (B : Nat) (v : Value) (S : List Row) : Prop := w.ownsRow B 35 1 v S.length (S.map rowV)
theorem OwnA.nil (w : World) (B : Nat) : OwnA w B (.slice none 0 0) [] := ⟨rfl, .inl ⟨rfl, rfl⟩⟩
theorem OwnA.below {w w' : World} {B : Nat} {v : Value} {S : List Row} (h : OwnA w B v S) (hb : Below w.heap.size w w') : OwnA w' B v S := by
  refine ⟨h.1, ?_⟩
  rcases h.2 with h0 | ⟨g, cap, cur, h1, hbg, hh, hr⟩
  · exact .inl h0
  · refine .inr ⟨g, cap, cur, h1, hbg, (hb.block g ?_).trans hh, hr⟩
    rcases Nat.lt_or_ge g w.heap.size with h | h
    · exact h
    · rw [Array.getElem?_eq_none h] at hh; cases hh
/-- where such a row lies -/
theorem OwnA.lies {w : World} {B : Nat} {v : Value} {S : List Row} (h : OwnA w B v S) : ∃ A c, v = .slice A S.length c ∧ S.length ≤ c ∧ (0 < S.length → ∃ g, A = some ⟨g, 0, none⟩ ∧ B ≤ g ∧ g < w.heap.size ∧ ∀ j, j < S.length → w.cell? ⟨g, j, none⟩ = some (rowV (S.getD j row0))) := by
  rcases h.2 with ⟨rfl, h0⟩ | ⟨g, cap, cur, rfl, hbg, hh, hnc, hm, hsz, hx⟩
  · refine ⟨none, 0, by rw [h0], by omega, fun h1 => by omega⟩
  · refine ⟨_, cap, rfl, hnc, fun _ => ⟨g, rfl, hbg, ?_, fun j hj => ?_⟩⟩
    · rcases Nat.lt_or_ge g w.heap.size with h | h
      · exact h
      · rw [Array.getElem?_eq_none h] at hh; cases hh
    · rw [cell_of_row w g j cur 35 (0, 0) hh]
      have h1 : (cur.toList.take (S.length * 1))[j]? = (S.map rowV)[j]? := by rw [hx]
      rw [List.getElem?_take, if_pos (by omega)] at h1
      rw [← Array.getElem?_toList, h1]
      simp [List.getD, hj]
/-- a row more -/
theorem app_r {B : Nat} {W : World} {ops : Array Oper} {rest : List Oper} {o : Oper} {a : Act} {Q : Exit → Act → World → Prop} (hgd : o.guard = none) (s x : Operand)
    (ho : o.op = .call { callee := .builtin .append, args := #[s, x], argTypes := #[28, 28] })
    (v : Value) (S : List Row) (r : Row) (g : Nat) (hs : a.eval s = v) (hx : a.eval x = .slice (some ⟨g, 0, none⟩) 1 1) (hown : OwnA W B v S) (hb : Box W g #[rowV r] 35)
    (hB : B ≤ W.heap.size) (hn : S.length ≤ 1000000)
    (h : ∀ v' w', OwnA w' B v' (S ++ [r]) → Below B W w' → wpList Try.prog ops Q rest (a.put o.dst v') w') : wpList Try.prog ops Q (o :: rest) a W := by
  refine wpList_plain hgd fun K hK => ?_
  obtain ⟨i0, hi, hz0, hz1, hz2⟩ := info_parts5 info_row
  refine wp_append_own _ s x 28 ho B 35 i0 (.slice none 0 0) 1 24 Try.underlying28 hi hz0 hz1 hz2 rfl (by decide) v S.length (S.map rowV) hs hown ⟨g, 0, none⟩ 1 1 [rowV r] hx rfl ?_ (by intro u hu; rw [List.mem_singleton.1 hu]; rfl) ?_ ?_ hB ?_
  · intro j u hj
    have e1 : (⟨g, 0, none⟩ : Addr).add j = ⟨g, j, none⟩ := by unfold Addr.add; split <;> simp_all
    rw [e1, hb.cell j]
    simpa using hj
  · unfold maxLen; omega
  · omega
  · intro v' w' h1 h2 _
    refine hK _ _ (h v' w' ?_ ?_)
    · show w'.ownsRow _ _ _ _ _ _
      rw [List.length_append, List.map_append]
      exact h1
    · refine (Below.refl _ _).grown h2 hB fun k hk => ?_
      rcases hown.2 with ⟨rfl, _⟩ | ⟨g, cap, cur, rfl, hg, _⟩
      · simp [Value.ownBlock] at hk
      · simp only [Value.ownBlock, Option.some.injEq] at hk; omega
set_option maxRecDepth 100000 in
set_option maxHeartbeats 2000000 in
theorem ref_sub (R : List Row) (I : List Int) (A AI : Option Addr) (c cI B : Nat) (w : World) (hA : LiesR w B A R) (hI : Lies w B AI I) (hB : B ≤ w.heap.size) (hin : ∀ j, j < I.length → 0 ≤ I.getD j 0 ∧ I.getD j 0 < R.length) (hl : I.length ≤ 100000) :
    Calls Try.prog 81 #[.slice A R.length c, .slice AI I.length cI] w fun e w' => (∃ v, e = .returned v ∧ OwnA w' w.heap.size v (selR R I)) ∧ Below w.heap.size w w' := by
  have HA := Lib.hid (fun W (h : Below w.heap.size w W) k (hk : k < R.length) => (hA.below (h.mono hB)).at (k := k) hk)
  have HI := Lib.hid (fun W (h : Below w.heap.size w W) k (hk : k < I.length) => lies_atT (hI.below (h.mono hB)) (k := k) hk)
  have HIN := Lib.hid hin
  have HSEL : Hid (∀ S : List Row, S.length = I.length → (∀ j, j < I.length → S.getD j row0 = R.getD (I.getD j 0).toNat row0) → S = selR R I) := fun S h1 h2 => selR_of h1 h2
  generalize selR R I = T at *
  clear hA hI hin
  generalize I.length = n at *
  generalize R.length = M at *
  go_enter Try.func81, Try.ntmps81
  go_wp2
  go_loopw [5, 6] (fun ov iv wr => ∃ (k : Nat) (S : List Row), k ≤ n ∧ iv = .int .i64 k ∧ Hid (S.length = k) ∧ Hid (∀ j, j < k → S.getD j row0 = R.getD (I.getD j 0).toNat row0) ∧ Hid (OwnA wr w.heap.size ov S) ∧ Hid (Below w.heap.size w wr)) (fun _ iv _ => n - (intOf iv).toNat)
  case atStart => exact ⟨0, [], by omega, rfl, rfl, fun j h => absurd h (by omega), OwnA.nil _ _, Below.refl _ _⟩
  case round =>
    obtain ⟨k, S, hk, rfl, HL, HQ, HO, HB⟩ := hrel
    by_cases hlt : k < n
    · have hlg : (k : Int) < (n : Int) := by omega
      obtain ⟨adI, eI, _, hcI⟩ := HI.out wr HB.out k hlt
      subst eI
      obtain ⟨i0, i1⟩ := HIN.out k hlt
      have HQ2 : Hid (∀ j, j < k + 1 → (S ++ [R.getD (I.getD k 0).toNat row0]).getD j row0 = R.getD (I.getD j 0).toNat row0) := fun j hj => by
        have hSl := HL.out
        rw [List.getD_eq_getElem?_getD]
        by_cases h : j < k
        · rw [List.getElem?_append_left (by omega), ← List.getD_eq_getElem?_getD]
          exact HQ.out j h
        · have hjk : j = k := by omega
          rw [List.getElem?_append_right (by omega), hjk, hSl, Nat.sub_self]
          rfl
      generalize hx : I.getD k 0 = x at *
      clear hx
      obtain ⟨m, rfl⟩ : ∃ m : Nat, x = m := ⟨x.toNat, by omega⟩
      rw [Int.toNat_natCast] at HQ2
      obtain ⟨ad, eA, _, hcA, _⟩ := HA.out wr HB.out m (by omega)
      subst eA
      have hSn : S.length ≤ 1000000 := by have := HL.out; omega
      generalize R.getD m row0 = r at *
      obtain ⟨ra, rl, rc⟩ := r
      simp only at hcA
      obtain ⟨u, hu⟩ : ∃ u, u = wr := ⟨_, rfl⟩
      have hsz := HB.out.size
      go_wp2_with (at_builtin; refine app_r rfl (.tmp 13) (.tmp 21) rfl _ S ⟨ra, rl, rc⟩ wr.heap.size rfl rfl (OwnA.below HO.out ((Below.refl _ _).alloc (Nat.le_refl _) _)) (Box.new _ _ _) (by simp; omega) hSn ?_; intro v3 w3 ho3 hb3; have HO3 := Lib.hid ho3; have HB3 := Lib.hid (show Below w.heap.size w w3 from (HB.out.alloc hsz _).trans hb3); clear ho3 hb3)
      exact ⟨⟨k + 1, S ++ [(⟨ra, rl, rc⟩ : Row)], by omega, by go_num, (by show _ = _; rw [List.length_append, HL.out]; rfl), HQ2.out, HO3.out, HB3.out⟩, by first | (simp [intOf]; done) | (simp [intOf]; omega)⟩
    · obtain rfl : k = n := by omega
      go_wp2
      go_ret
      have hS := HSEL.out S HL.out HQ.out
      subst hS
      exact ⟨⟨_, rfl, HO.out⟩, HB.out⟩
end Go.Proofs.Ytkkeejbgaaodeaa
