/- RngQ RngR RngS RngV RngX -/
import Derived.Test.YtdcemcpcjdkpjaaRngW
import Derived.Laws.AppendOwnNone
import Derived.OwnWalk
import Derived.Laws.OwnMore
import Derived.Test.YtdcemcpcjdkpjaaRegJ
import Derived.Lib.SliceRun

/-! Layer 17's reference: Push, Find, Points; rows of the call's own. -/
namespace Go.Proofs.Ytdcemcpcjdkpjaa
open Go.RowKit
set_option linter.unusedVariables false
set_option linter.unusedSimpArgs false

/-- events, the call's own, to which it appends -/
def OwnSn (w : World) (B : Nat) (v : Value) (L : List SN) : Prop := w.ownsRow B 34 5 v L.length (snL L)
theorem OwnSn.below {w w' : World} {B : Nat} {v : Value} {L : List SN} (h : OwnSn w B v L) (hb : Below w.heap.size w w') : OwnSn w' B v L := by
  refine ⟨h.1, ?_⟩
  rcases h.2 with h0 | ⟨g, cap, cur, h1, hbg, hh, hr⟩
  · exact .inl h0
  · refine .inr ⟨g, cap, cur, h1, hbg, (hb.block g ?_).trans hh, hr⟩
    rcases Nat.lt_or_ge g w.heap.size with h | h
    · exact h
    · rw [Array.getElem?_eq_none h] at hh; cases hh
theorem snL_get (L : List SN) {k j : Nat} (hk : k < L.length) (hj : j < 5) : (snL L)[k * 5 + j]? = (snC (L.getD k sn0))[j]? :=
  flat_get snC 5 snC_len j hj L k _ (by rw [List.getD_eq_getElem?_getD, List.getElem?_eq_getElem hk]; rfl)
theorem snL_one (L : List SN) : ∀ u ∈ snL L, u.oneCell' = true := by
  intro u hu
  obtain ⟨m, _, hu⟩ := List.mem_flatMap.1 hu
  simp [snC] at hu
  rcases hu with rfl | rfl | rfl | rfl | rfl <;> rfl
theorem OwnSn.lies {w : World} {B : Nat} {v : Value} {L : List SN} (h : OwnSn w B v L) (hx : ∀ m ∈ L, Lies w w.heap.size m.a m.x) : ∃ A c, v = .slice A L.length c ∧ L.length ≤ c ∧ c ≤ maxLen ∧ LiesSs w w.heap.size A L ∧ (0 < L.length → ∃ g, A = some ⟨g, 0, none⟩ ∧ B ≤ g) := by
  rcases h.2 with ⟨rfl, h0⟩ | ⟨g, cap, cur, rfl, hbg, hh, hnc, hm, hsz, hr⟩
  · refine ⟨none, 0, by rw [h0], by omega, by unfold maxLen; omega, ⟨fun h1 => by omega, hx⟩, fun h1 => by omega⟩
  · refine ⟨_, cap, rfl, hnc, hm, ⟨fun _ => ⟨_, rfl, ?_, fun k hk j hj => ?_⟩, hx⟩, fun _ => ⟨g, rfl, hbg⟩⟩
    · show g < w.heap.size
      rcases Nat.lt_or_ge g w.heap.size with h | h
      · exact h
      · rw [Array.getElem?_eq_none h] at hh; cases hh
    · rw [addr_add0, cell_of_row w g _ cur 34 (0, 0) hh]
      have h1 : (cur.toList.take (L.length * 5))[k * 5 + j]? = (snL L)[k * 5 + j]? := by rw [hr]
      rw [List.getElem?_take, if_pos (by omega), snL_get L hk hj] at h1
      rw [← Array.getElem?_toList, h1]
theorem app_snsO {B : Nat} {W : World} {o : Oper} {a : Act} {K : Act → World → Prop} {Q : Exit → Act → World → Prop} (s x : Operand)
    (ho : o.op = .call { callee := .builtin .append, args := #[s, x], argTypes := #[22, 22] })
    (v : Value) (L M : List SN) (ad : Addr) (c n : Nat) (hs : a.eval s = v) (hx : a.eval x = .slice (some ad) n c) (hN : M.length = n) (hown : OwnSn W B v L)
    (hm : ∀ k, k < n → ∀ j, j < 5 → W.cell? (ad.add (k * 5 + j)) = (snC (M.getD k sn0))[j]?) (hB : B ≤ W.heap.size) (hn : L.length + n ≤ 1000000)
    (h : ∀ v' w', OwnSn w' B v' (L ++ M) → Below B W w' → W.grownBy w' v.ownBlock → K (a.put o.dst v') w') : o.wp Try.prog a W K Q := by
  subst hN
  obtain ⟨i0, hi, hz0, hz1, hz2⟩ := info_parts5 info_seen
  refine wp_append_own _ s x 22 ho B 34 i0 _ 5 56 Try.underlying22 hi hz0 hz1 hz2 rfl (by decide) v L.length (snL L) hs hown ad M.length c (snL M) hx (snL_len M) ?_ (snL_one M) ?_ ?_ hB ?_
  · intro j u hj
    have hl : j < M.length * 5 := by
      rcases Nat.lt_or_ge j (M.length * 5) with g | g
      · exact g
      · rw [List.getElem?_eq_none (by rw [snL_len]; exact g)] at hj; cases hj
    rw [show j = j / 5 * 5 + j % 5 from by omega, snL_get M (by omega) (by omega)] at hj
    rw [show j = j / 5 * 5 + j % 5 from by omega, hm (j / 5) (by omega) (j % 5) (by omega)]
    exact hj
  · unfold maxLen; omega
  · omega
  · intro v' w' h1 h2 _
    refine h v' w' ?_ ?_ h2
    · show w'.ownsRow _ _ _ _ _ _
      rw [List.length_append, show snL (L ++ M) = snL L ++ snL M from by unfold snL; rw [List.flatMap_append]]
      exact h1
    · refine (Below.refl _ _).grown h2 hB fun k hk => ?_
      rcases hown.2 with ⟨rfl, _⟩ | ⟨g, cap, cur, rfl, hg, _⟩
      · simp [Value.ownBlock] at hk
      · simp only [Value.ownBlock, Option.some.injEq] at hk; omega
theorem app_sns_noneO {B : Nat} {W : World} {o : Oper} {a : Act} {K : Act → World → Prop} {Q : Exit → Act → World → Prop} (s x : Operand)
    (ho : o.op = .call { callee := .builtin .append, args := #[s, x], argTypes := #[22, 22] })
    (v : Value) (L : List SN) (hs : a.eval s = v) (hown : OwnSn W B v L) (hx : a.eval x = .slice none 0 0)
    (h : K (a.put o.dst v) W) : o.wp Try.prog a W K Q := by
  obtain ⟨i0, hi, hz0, hz1, hz2⟩ := info_parts5 info_seen
  have hrun := run_append_owned_none (P := Try.prog) (w := W) B 22 o.type 34 i0 5 Try.underlying22 hi v L.length (snL L) hown
  unfold Oper.wp
  simp [execOp, ho, resolve, invoke, builtin, hs, hx, hrun, Result.andThen]
  exact h
/-- a row of the call's own without room -/
theorem OwnSn.bare {w : World} {B g : Nat} (h : Box w g #[] 34) (hB : B ≤ g) : OwnSn w B (.slice (some ⟨g, 0, none⟩) 0 0) [] :=
  ⟨rfl, .inr ⟨g, 0, #[], rfl, hB, h, Nat.le_refl _, by unfold maxLen; omega, rfl, rfl⟩⟩
end Go.Proofs.Ytdcemcpcjdkpjaa

/-! Layer 17's reference: Push. -/
namespace Go.Proofs.Ytdcemcpcjdkpjaa
open Go.RowKit
set_option linter.unusedVariables false
set_option linter.unusedSimpArgs false

/-- what Push gives -/
def PushR (w : World) (M : List SN) (n : Nat) (s : SN) (e : Ending) (w' : World) : Prop :=
  ∃ (M' : List SN) (A' : Option Addr) (c' : Nat) (o : SN), e = .returned (.tuple #[.slice A' M'.length c', .agg #[.int .i64 o.id, .slice o.a o.x.length o.c, .int .i64 o.p, .int .i64 o.q, .bool o.s], .bool (decide (n < M.length + 1))]) ∧ (A' = none → c' = 0) ∧ LiesSs w' w'.heap.size A' M' ∧ (∀ ad, A' = some ad → w.heap.size ≤ ad.block) ∧ Below w.heap.size w w' ∧
    (n < M.length + 1 → M' = (M ++ [s]).tail ∧ o = (M ++ [s]).getD 0 sn0) ∧ (¬ n < M.length + 1 → M' = M ++ [s] ∧ o = sn0)
def PPush : List (List Nat) := [[], [], [0, 1], [], [3], [2, 4, 2], [5, 5, 0, 1, 2, 3, 4, 5]]
def EPush (w : World) (A : Option Addr) (M : List SN) (c : Nat) (s : SN) : EJ :=
  [(some 2, fun X v => ∃ g, v = .slice (some ⟨g, 0, none⟩) 0 0 ∧ w.heap.size + 2 ≤ g ∧ Box X g #[] 34), (none, fun X v => v = .slice A M.length c), (some 5, fun X v => OwnSn X (w.heap.size + 2) v M),
   (none, fun X v => v = .agg #[.int .i64 s.id, .slice s.a s.x.length s.c, .int .i64 s.p, .int .i64 s.q, .bool s.s]), (some 5, fun X v => ∃ g, v = .slice (some ⟨g, 0, none⟩) 1 1 ∧ Box X g (snC s).toArray 34), (none, fun X v => OwnSn X (w.heap.size + 2) v (M ++ [s])), (none, fun X v => OwnSn X (w.heap.size + 2) v (M ++ [s]))]
theorem ePush_st (w : World) (A : Option Addr) (M : List SN) (c : Nat) (s : SN) : StE (EPush w A M c s) := by
  intro p hp X X' v hb h
  simp only [EPush, List.mem_cons, List.not_mem_nil, or_false] at hp
  rcases hp with rfl | rfl | rfl | rfl | rfl | rfl | rfl
  · obtain ⟨g, e, h1, h2⟩ := h
    exact ⟨g, e, h1, h2.below hb h2.lt⟩
  · exact h
  · exact OwnSn.below h hb
  · exact h
  · obtain ⟨g, e, h2⟩ := h
    exact ⟨g, e, h2.below hb h2.lt⟩
  · exact OwnSn.below h hb
  · exact OwnSn.below h hb
theorem st5_get (W : World) (z k : Nat) (hk : k ≠ z) (u0 u1 u2 u3 u4 : Value) : (((((W.setCell ⟨z, 0, none⟩ u0).setCell ⟨z, 1, none⟩ u1).setCell ⟨z, 2, none⟩ u2).setCell ⟨z, 3, none⟩ u3).setCell ⟨z, 4, none⟩ u4).heap[k]? = W.heap[k]? := by
  rw [Below.heap_setCell _ _ _ _ hk, Below.heap_setCell _ _ _ _ hk, Below.heap_setCell _ _ _ _ hk, Below.heap_setCell _ _ _ _ hk, Below.heap_setCell _ _ _ _ hk]
theorem st5_below {B z : Nat} {a W : World} (h : Below B a W) (hz : B ≤ z) (u0 u1 u2 u3 u4 : Value) : Below B a (((((W.setCell ⟨z, 0, none⟩ u0).setCell ⟨z, 1, none⟩ u1).setCell ⟨z, 2, none⟩ u2).setCell ⟨z, 3, none⟩ u3).setCell ⟨z, 4, none⟩ u4) :=
  ((((h.setCell (p := ⟨z, 0, none⟩) hz _).setCell (p := ⟨z, 1, none⟩) hz _).setCell (p := ⟨z, 2, none⟩) hz _).setCell (p := ⟨z, 3, none⟩) hz _).setCell (p := ⟨z, 4, none⟩) hz _
theorem lies_fin {X w : World} {B g off z : Nat} {L : List SN} {u0 u1 u2 u3 u4 : Value} (h : LiesSs X B (some ⟨g, off, none⟩) L) (hv : ∀ m ∈ L, Lies w w.heap.size m.a m.x) (hX : Below w.heap.size w X) (hz : w.heap.size ≤ z) (hg : g ≠ z) (hB : B = X.heap.size) :
    LiesSs (((((X.setCell ⟨z, 0, none⟩ u0).setCell ⟨z, 1, none⟩ u1).setCell ⟨z, 2, none⟩ u2).setCell ⟨z, 3, none⟩ u3).setCell ⟨z, 4, none⟩ u4) (((((X.setCell ⟨z, 0, none⟩ u0).setCell ⟨z, 1, none⟩ u1).setCell ⟨z, 2, none⟩ u2).setCell ⟨z, 3, none⟩ u3).setCell ⟨z, 4, none⟩ u4).heap.size (some ⟨g, off, none⟩) L := by
  subst hB
  have hb := st5_below hX hz u0 u1 u2 u3 u4
  have hs : (((((X.setCell ⟨z, 0, none⟩ u0).setCell ⟨z, 1, none⟩ u1).setCell ⟨z, 2, none⟩ u2).setCell ⟨z, 3, none⟩ u3).setCell ⟨z, 4, none⟩ u4).heap.size = X.heap.size := by simp [World.setCell]
  refine ⟨fun h0 => ?_, fun m hm => ((hv m hm).below hb).mono hb.size⟩
  obtain ⟨ad, e, h1, h2⟩ := h.1 h0
  cases e
  refine ⟨_, rfl, by rw [hs]; exact h1, fun k hk j hj => ?_⟩
  rw [← h2 k hk j hj]
  exact World.cell?_of_block (w := X) (by rw [add_block]; exact st5_get X z g hg u0 u1 u2 u3 u4)
theorem lies_drew {W : World} {A : Option Addr} {L : List SN} (h : LiesSs W W.heap.size A L) : LiesSs W.drew W.drew.heap.size A L := (h.below ((Below.refl _ _).drew)).mono (Nat.le_refl _)
set_option maxRecDepth 100000 in
set_option maxHeartbeats 8000000 in
theorem ref_Push17 (M : List SN) (A : Option Addr) (c n : Nat) (s : SN) (w : World) (hM : LiesSs w w.heap.size A M) (hAc : A = none → c = 0) (hl : M.length ≤ 1000) (hs : Lies w w.heap.size s.a s.x) (hn : n ≤ 1000) :
    Calls Try.prog 19 #[.slice A M.length c, .int .i64 n, .agg #[.int .i64 s.id, .slice s.a s.x.length s.c, .int .i64 s.p, .int .i64 s.q, .bool s.s]] w (PushR w M n s) := by
  have HX := Lib.hid (((Kpc.start w).alloc #[.int .i64 s.id, .slice s.a s.x.length s.c, .int .i64 s.p, .int .i64 s.q, .bool s.s] 34).alloc #[.int .i64 0, .slice none 0 0, .int .i64 0, .int .i64 0, .bool false] 34)
  rw [alloc_size'] at HX
  have HV := Lib.hid (show ∀ m ∈ M ++ [s], Lies w w.heap.size m.a m.x from fun m hm => (List.mem_append.1 hm).elim (hM.2 m) fun h => by rw [List.mem_singleton.1 h]; exact hs)
  have HMc : Hid (∀ X, Below w.heap.size w X → ∀ ad, A = some ad → ∀ k, k < M.length → ∀ j, j < 5 → X.cell? (ad.add (k * 5 + j)) = (snC (M.getD k sn0))[j]?) := fun X hX ad e k hk j hj => by
    obtain ⟨ad', e', hb, hc⟩ := (hM.below hX).1 (by omega)
    rw [e] at e'; cases e'
    exact hc k hk j hj
  have HAc := Lib.hid hAc
  have HA0 : Hid (A = none → M.length = 0) := fun h => by
    rcases Nat.eq_zero_or_pos M.length with g | g
    · exact g
    · obtain ⟨ad, e, _⟩ := hM.1 g
      rw [h] at e; cases e
  clear hM hs hAc
  have HZ : Hid (((w.alloc (.cells #[.int .i64 s.id, .slice s.a s.x.length s.c, .int .i64 s.p, .int .i64 s.q, .bool s.s] 34)).alloc (.cells #[.int .i64 0, .slice none 0 0, .int .i64 0, .int .i64 0, .bool false] 34)).heap.size = w.heap.size + 2) := by
    show _ = _
    rw [alloc_size', alloc_size']
  go_enter Try.func19, Try.ntmps19
  go_wp2
  generalize (w.alloc (.cells #[.int .i64 s.id, .slice s.a s.x.length s.c, .int .i64 s.p, .int .i64 s.q, .bool s.s] 34)).alloc (.cells #[.int .i64 0, .slice none 0 0, .int .i64 0, .int .i64 0, .bool false] 34) = W0 at *
  refine wp_region_steps (GJ PPush (EPush w A M c s) fun X => Below w.heap.size w X ∧ Box X w.heap.size #[.int .i64 s.id, .slice s.a s.x.length s.c, .int .i64 s.p, .int .i64 s.q, .bool s.s] 34 ∧ Box X (w.heap.size + 1) #[.int .i64 0, .slice none 0 0, .int .i64 0, .int .i64 0, .bool false] 34 ∧ w.heap.size + 2 ≤ X.heap.size) PPush (by kernel_rfl) (by kernel_rfl) (by kernel_rfl) (by kernel_rfl) ?_ ?_ ?_ ?_
  · exact fun f g vs X hfg h => GJ.congr (n := 7) (by decide) (by decide) (by simp [EPush]) (by simp [EPush]) hfg h
  · intro vs _
    exact GJ.start ⟨HX.out.2.1.drew, HX.out.tail.head, HX.out.head, Nat.le_of_eq HZ.out.symm⟩
  · refine ⟨?_, ?_, ?_, ?_, ?_, ?_, ?_, trivial⟩
    all_goals
      intro f vs X hlen hf hp hj K hK
      obtain ⟨y0, y1, y2, y3, y4, y5, y6, rfl⟩ := len7 hlen
      clear hlen
      have HJ := Lib.hid hj
      clear hj
    · rw [if_pos (by rfl)]
      simp only [putAll, Act.put, List.setIfInBounds_toArray, List.set_cons_zero, List.set_cons_succ] at hK ⊢
      go_simp
      refine hK _ _ ?_
      obtain ⟨g1, g2, g3, g4⟩ := HJ.out.1
      have hb := (Below.refl X.heap.size X).alloc (Nat.le_refl _) (.cells #[] 34)
      exact HJ.out.below (i := 0) rfl hp (by simp) _ ⟨g1.trans (hb.mono g1.size), g2.alloc _, g3.alloc _, Nat.le_trans g4 hb.size⟩ rfl ⟨_, rfl, g4, Box.new X _ _⟩ (ePush_st w A M c s) hb
    · rw [if_pos (by rfl)]
      simp only [putAll, Act.put, List.setIfInBounds_toArray, List.set_cons_zero, List.set_cons_succ] at hK ⊢
      go_simp
      refine hK _ X ?_
      exact HJ.out.step (i := 1) rfl hp (by simp) _ rfl rfl
    · rw [if_pos (by rfl)]
      simp only [putAll, Act.put, List.setIfInBounds_toArray, List.set_cons_zero, List.set_cons_succ] at hK ⊢
      obtain ⟨g0, e0, hg0, hb0⟩ := HJ.out.get (i := 0) rfl (hp 0 (by simp)) (fun k e => by cases e; exact hf)
      have e0 : y0 = .slice (some ⟨g0, 0, none⟩) 0 0 := e0
      have e1 : y1 = .slice A M.length c := HJ.out.get (i := 1) rfl (hp 1 (by simp)) (fun k e => by cases e)
      subst e0
      subst e1
      obtain ⟨g1, g2, g3, g4⟩ := HJ.out.1
      have ho := OwnSn.bare hb0 hg0
      cases A with
      | none =>
        have h0 := HA0.out rfl
        have h1 := HAc.out rfl
        refine app_sns_noneO (B := w.heap.size + 2) (.tmp 10) (.tmp 11) rfl (.slice (some ⟨g0, 0, none⟩) 0 0) [] rfl ho (by show Value.slice none M.length c = _; rw [h0, h1]) ?_
        refine hK _ X ?_
        refine HJ.out.step (i := 2) rfl hp (by simp) _ rfl ?_
        have h2 : M = [] := List.eq_nil_of_length_eq_zero h0
        show OwnSn X (w.heap.size + 2) _ M
        rw [h2]
        exact ho
      | some ad =>
        refine app_snsO (B := w.heap.size + 2) (.tmp 10) (.tmp 11) rfl (.slice (some ⟨g0, 0, none⟩) 0 0) [] M ad c M.length rfl rfl rfl ho (HMc.out X g1 ad rfl) g4 (by simp; omega) ?_
        intro v' w' h1 h2 h3
        refine hK _ w' ?_
        refine HJ.out.move (i := 2) rfl hp (by simp) v' ⟨g1.trans (h2.mono (by omega)), g2.below h2 (by omega), g3.below h2 (by omega), Nat.le_trans g4 h2.size⟩ rfl (by simpa using h1) ?_
        intro j u C y he hj hji hu hk hc
        have hj7 : j < 7 := by have := (List.getElem?_eq_some_iff.1 he).1; simpa [EPush] using this
        match j, hj7, he with
        | 0, _, he => exact absurd rfl (by cases he; exact hu)
        | 1, _, he => cases he; exact hc
        | 2, _, he => exact absurd rfl hji
        | 3, _, he => cases he; exact hc
        | 4, _, he =>
          cases he
          obtain ⟨g, e, hbx⟩ := hc
          exact ⟨g, e, (h3.block g hbx.lt (fun e => box_ne hb0 hbx (by simp [snC]) (by cases e; rfl))).trans hbx⟩
        | 5, _, he => exact absurd (HJ.out.pre (i := 5) (j := 2) rfl hj (by simp)) (by rw [hf]; simp)
        | 6, _, he => exact absurd (HJ.out.pre (i := 6) (j := 2) rfl hj (by simp)) (by rw [hf]; simp)
    · rw [if_pos (by rfl)]
      simp only [putAll, Act.put, List.setIfInBounds_toArray, List.set_cons_zero, List.set_cons_succ] at hK ⊢
      obtain ⟨x0, x1, x2, x3, x4⟩ := box5 HJ.out.1.2.1
      go_simp
      refine hK _ X ?_
      exact HJ.out.step (i := 3) rfl hp (by simp) _ rfl rfl
    · rw [if_pos (by rfl)]
      simp only [putAll, Act.put, List.setIfInBounds_toArray, List.set_cons_zero, List.set_cons_succ] at hK ⊢
      have e3 : y3 = .agg #[.int .i64 s.id, .slice s.a s.x.length s.c, .int .i64 s.p, .int .i64 s.q, .bool s.s] := HJ.out.get (i := 3) rfl (hp 3 (by simp)) (fun k e => by cases e)
      subst e3
      go_simp
      refine hK _ _ ?_
      obtain ⟨g1, g2, g3, g4⟩ := HJ.out.1
      have hb := (Below.refl X.heap.size X).alloc (Nat.le_refl _) (.cells #[.int .i64 s.id, .slice s.a s.x.length s.c, .int .i64 s.p, .int .i64 s.q, .bool s.s] 34)
      exact HJ.out.below (i := 4) rfl hp (by simp) _ ⟨g1.trans (hb.mono g1.size), g2.alloc _, g3.alloc _, Nat.le_trans g4 hb.size⟩ rfl ⟨_, rfl, Box.new X _ _⟩ (ePush_st w A M c s) hb
    · rw [if_pos (by rfl)]
      simp only [putAll, Act.put, List.setIfInBounds_toArray, List.set_cons_zero, List.set_cons_succ] at hK ⊢
      have ho : OwnSn X (w.heap.size + 2) y2 M := HJ.out.get (i := 2) rfl (hp 2 (by simp)) (fun k e => by cases e; exact hf)
      obtain ⟨g4', e4, hb4⟩ := HJ.out.get (i := 4) rfl (hp 4 (by simp)) (fun k e => by cases e; exact hf)
      have e4 : y4 = .slice (some ⟨g4', 0, none⟩) 1 1 := e4
      subst e4
      obtain ⟨g1, g2, g3, g4⟩ := HJ.out.1
      refine app_snsO (B := w.heap.size + 2) (.tmp 12) (.tmp 14) rfl y2 M [s] ⟨g4', 0, none⟩ 1 1 rfl rfl rfl ho (by intro k hk j hj; (obtain rfl : k = 0 := by omega); rw [addr_add0, show 0 * 5 + j = j from by omega, hb4.cell j]; simp) g4 (by omega) ?_
      intro v' w' h1 h2 h3
      refine hK _ w' ?_
      refine HJ.out.move (i := 5) rfl hp (by simp) v' ⟨g1.trans (h2.mono (by omega)), g2.below h2 (by omega), g3.below h2 (by omega), Nat.le_trans g4 h2.size⟩ rfl h1 ?_
      intro j u C y he hj hji hu hk hc
      have hj7 : j < 7 := by have := (List.getElem?_eq_some_iff.1 he).1; simpa [EPush] using this
      match j, hj7, he with
      | 0, _, he => cases he; exact absurd (hk 2 rfl) (by rw [hp 2 (by simp)]; simp)
      | 1, _, he => cases he; exact hc
      | 2, _, he => exact absurd rfl (by cases he; exact hu)
      | 3, _, he => cases he; exact hc
      | 4, _, he => exact absurd rfl (by cases he; exact hu)
      | 5, _, he => exact absurd rfl hji
      | 6, _, he => exact absurd (HJ.out.pre (i := 6) (j := 5) rfl hj (by simp)) (by rw [hf]; simp)
    · rw [if_pos (by rfl)]
      simp only [putAll, Act.put, List.setIfInBounds_toArray, List.set_cons_zero, List.set_cons_succ] at hK ⊢
      have ho : OwnSn X (w.heap.size + 2) y5 (M ++ [s]) := HJ.out.get (i := 5) rfl (hp 5 (by simp)) (fun k e => by cases e)
      go_simp
      refine hK _ X ?_
      exact HJ.out.step (i := 6) rfl hp (by simp) _ rfl ho
  · intro vs X hl hj
    obtain ⟨y0, y1, y2, y3, y4, y5, y6, rfl⟩ := len7 hl
    have ho : OwnSn X (w.heap.size + 2) y6 (M ++ [s]) := hj.get (i := 6) rfl rfl (fun k e => by cases e)
    obtain ⟨g1, g2, g3, g4⟩ := hj.1
    clear hj hl g2
    have HVX : ∀ m ∈ M ++ [s], Lies X X.heap.size m.a m.x := fun m hm => ((HV.out m hm).below g1).mono g1.size
    obtain ⟨A6, c6, e6, hc6, hc6m, hL6, hA6⟩ := ho.lies HVX
    have hlen : (M ++ [s]).length = M.length + 1 := by simp
    rw [hlen] at e6 hc6
    obtain ⟨g, eg, hgw⟩ := hA6 (by omega)
    subst eg
    subst e6
    obtain ⟨ad, e, hb, d0, d1, d2, d3, d4⟩ := hL6.at (k := 0) (by omega)
    cases e
    rw [Nat.zero_mul, addr_add0] at d0 d1 d2 d3 d4
    simp only [Nat.zero_add] at d1 d2 d3 d4
    obtain ⟨r0, r1, r2, r3, r4⟩ := box5 g3
    have f0 := g3.free 0
    have f1 := g3.free 1
    have f2 := g3.free 2
    have f3 := g3.free 3
    have f4 := g3.free 4
    have HG1 := Lib.hid g1
    have HL6 := Lib.hid hL6
    have HDR := Lib.hid (lies_drop (f := 1) hL6)
    have HT : Hid ((M ++ [s]).tail.length = M.length + 1 - 1) := (by show _ = _; simp)
    have HLN : Hid ((M ++ [s]).length = M.length + 1) := hlen
    have HVV := Lib.hid HV.out
    have hgz : g ≠ w.heap.size + 1 := by omega
    clear ho g1 g3 hL6 HVX hA6 HX HZ HMc HAc HA0 HV hlen
    have hN0 : 0 < M.length + 1 := by omega
    have hN2 : M.length + 1 ≤ 1001 := by omega
    have HRT : Hid (PushR w M n s = fun e w' => ∃ (M' : List SN) (A' : Option Addr) (c' : Nat) (o : SN), e = .returned (.tuple #[.slice A' M'.length c', .agg #[.int .i64 o.id, .slice o.a o.x.length o.c, .int .i64 o.p, .int .i64 o.q, .bool o.s], .bool (decide (n < M.length + 1))]) ∧ (A' = none → c' = 0) ∧ LiesSs w' w'.heap.size A' M' ∧ (∀ ad, A' = some ad → w.heap.size ≤ ad.block) ∧ Below w.heap.size w w' ∧
    (n < M.length + 1 → M' = (M ++ [s]).tail ∧ o = (M ++ [s]).getD 0 sn0) ∧ (¬ n < M.length + 1 → M' = M ++ [s] ∧ o = sn0)) := rfl
    generalize PushR w M n s = RES at *
    generalize (M ++ [s]).getD 0 sn0 = o at *
    generalize hN1 : M.length + 1 = N1 at *
    simp only [putAll, Act.put, List.setIfInBounds_toArray, List.set_cons_zero, List.set_cons_succ]
    by_cases hn1 : n < N1
    · have hng : (n : Int) < (N1 : Int) := by omega
      have h1N : (1 : Int) ≤ (N1 : Int) := by omega
      by_cases hc1 : c6 = 1
      · have HL1 : Hid (∀ (W : World) B A, LiesSs W B A (M ++ [s]).tail) := fun W B A => by
          have : (M ++ [s]).tail = [] := List.eq_nil_of_length_eq_zero (by rw [HT.out]; omega)
          rw [this]
          exact ⟨fun h => absurd h (by simp), fun n hn => by cases hn⟩
        go_wp2
        go_region
        go_wp2
        refine bodyPost_ret (v := .tuple #[.slice (some ⟨g, 0, none⟩) (N1 - 1) 0, .agg #[.int .i64 o.id, .slice o.a o.x.length o.c, .int .i64 o.p, .int .i64 o.q, .bool o.s], .bool true]) ?_ rfl ?_
        · simp only [results, show Try.f19.results = #[.tmp 6, .cell 7 34, .tmp 8] from rfl]
          go_simp
        · rw [HRT.out]
          refine ⟨(M ++ [s]).tail, some ⟨g, 0, none⟩, 0, o, by rw [HT.out, decide_eq_true hn1], (fun h => by cases h), ?_, (fun ad e => by cases e; show w.heap.size ≤ g; omega), (st5_below HG1.out (Nat.le_succ _) _ _ _ _ _).drew, fun _ => ⟨rfl, rfl⟩, fun h => absurd hn1 h⟩
          exact HL1.out _ _ _
      · have HD1 : Hid (LiesSs X X.heap.size (some ⟨g, 5, none⟩) (M ++ [s]).tail) := by
          have := HDR.out
          rw [Nat.one_mul, addr_add0, List.drop_one] at this
          exact this
        go_wp2
        go_region
        go_wp2
        refine bodyPost_ret (v := .tuple #[.slice (some ⟨g, 5, none⟩) (N1 - 1) (c6 - 1), .agg #[.int .i64 o.id, .slice o.a o.x.length o.c, .int .i64 o.p, .int .i64 o.q, .bool o.s], .bool true]) ?_ rfl ?_
        · simp only [results, show Try.f19.results = #[.tmp 6, .cell 7 34, .tmp 8] from rfl]
          go_simp
        · rw [HRT.out]
          refine ⟨(M ++ [s]).tail, some ⟨g, 5, none⟩, (c6 - 1), o, by rw [HT.out, decide_eq_true hn1], (fun h => by cases h), ?_, (fun ad e => by cases e; show w.heap.size ≤ g; omega), (st5_below HG1.out (Nat.le_succ _) _ _ _ _ _).drew, fun _ => ⟨rfl, rfl⟩, fun h => absurd hn1 h⟩
          exact lies_drew (lies_fin (w := w) HD1.out (fun m hm => HVV.out m (List.mem_of_mem_tail hm)) HG1.out (Nat.le_succ _) hgz rfl)
    · have hng : ¬ (n : Int) < (N1 : Int) := by omega
      go_wp2
      refine bodyPost_ret (v := .tuple #[.slice (some ⟨g, 0, none⟩) N1 c6, .agg #[.int .i64 0, .slice none 0 0, .int .i64 0, .int .i64 0, .bool false], .bool false]) ?_ rfl ?_
      · simp only [results, show Try.f19.results = #[.tmp 6, .cell 7 34, .tmp 8] from rfl]
        go_simp
      · rw [HRT.out]
        refine ⟨M ++ [s], some ⟨g, 0, none⟩, c6, sn0, by rw [HLN.out, decide_eq_false hn1]; rfl, (fun h => by cases h), ?_, (fun ad e => by cases e; show w.heap.size ≤ g; omega), st5_below HG1.out (Nat.le_succ _) _ _ _ _ _, fun h => absurd h hn1, fun _ => ⟨rfl, rfl⟩⟩
        exact lies_fin (w := w) HL6.out HVV.out HG1.out (Nat.le_succ _) hgz rfl
end Go.Proofs.Ytdcemcpcjdkpjaa

/-! Layer 17's reference: Find, Points; layer 8's SameAll. -/
namespace Go.Proofs.Ytdcemcpcjdkpjaa
open Go.RowKit
set_option linter.unusedVariables false
set_option linter.unusedSimpArgs false

set_option maxRecDepth 100000 in
set_option maxHeartbeats 4000000 in
theorem ref_Find17 (L : List SN) (S : Nat → Int × List Int × Int × Int × Bool) (A : Option Addr) (c B : Nat) (id : Int) (w : World) (hl : L.length ≤ 1000) (hA : LiesSs w B A L) (hB : B ≤ w.heap.size) (hS : ∀ j, j < L.length → sgS (L.getD j sn0) = S j) :
    Calls Try.prog 26 #[.slice A L.length c, .int .i64 id] w fun e w' => e = .returned (.tuple #[.int .i64 ((fndK S id L.length).1 : Nat), .bool (fndK S id L.length).2]) ∧ Below w.heap.size w w' := by
  have HA := Lib.hid (fun W (h : Below w.heap.size w W) => hA.below (h.mono hB))
  have HF : Hid (∀ k, k < L.length → fndK S id (k + 1) = if (L.getD k sn0).id = id then (k, true) else fndK S id k) := fun k hk => by
    have h := congrArg Prod.fst (hS k hk)
    show (if (S k).1 = id then (k, true) else fndK S id k) = _
    rw [← h]; rfl
  clear hA hS
  obtain ⟨M, hM⟩ : ∃ M, M = L.length := ⟨_, rfl⟩
  have HM := Lib.hid hM
  rw [← hM] at hl ⊢
  clear hM
  have hwc : wrap64 ((M : Int) - 1) = (M : Int) - 1 := by unfold wrap64; omega
  generalize hRES : fndK S id M = res at *
  go_enter Try.func26, Try.ntmps26
  go_wp2
  go_loopw [6] (fun i wr => ∃ (k : Nat) (v : Int), k ≤ M ∧ i = .int .i64 v ∧ v = (k : Int) - 1 ∧ Hid (fndK S id k = res) ∧ Hid (Below w.heap.size w wr)) (fun i _ => (intOf i + 1).toNat)
  case atStart => exact ⟨M, _, Nat.le_refl _, rfl, rfl, hRES, Below.refl _ _⟩
  case round =>
    obtain ⟨k, v, hk, rfl, hv, HR, HB⟩ := hrel
    cases k with
    | zero =>
      have hvn : v < 0 := by omega
      have hd : decide ((0 : Int) ≤ v) = false := decide_eq_false (by omega)
      have hd2 : decide (v ≥ (0 : Int)) = false := decide_eq_false (by omega)
      clear hv
      have HR0 : Hid (res = (0, false)) := HR.out.symm
      clear hRES
      go_wp2
      go_ret2
      rw [HR0.out]
      exact ⟨rfl, HB.out⟩
    | succ k =>
      obtain rfl : v = (k : Int) := by omega
      clear hv
      have hkT : k < L.length := by have := HM.out; omega
      have hkg : (k : Int) < (M : Int) := by omega
      have hk0 : (0 : Int) ≤ (k : Int) := by omega
      have HR1 := Lib.hid (HR.out.symm.trans (HF.out k hkT))
      obtain ⟨ad, eA, hab, c0, c1, c2, c3, c4⟩ := (HA.out wr HB.out).at hkT
      subst eA
      clear HR hRES c1 c2 c3 c4
      generalize (L.getD k sn0).id = mi at *
      have hwk : wrap64 ((k : Int) - 1) = (k : Int) - 1 := by unfold wrap64; omega
      by_cases h : mi = id
      · have e : (mi == id) = true := by simpa using h
        have HR2 : Hid (res = (k, true)) := by
          have := HR1.out
          rw [if_pos h] at this
          exact this
        clear h HR1
        go_wp2
        go_ret2
        rw [HR2.out]
        exact ⟨rfl, HB.out⟩
      · have e : (mi == id) = false := by simpa using h
        have HR2 : Hid (fndK S id k = res) := by
          have := HR1.out
          rw [if_neg h] at this
          exact this.symm
        clear h HR1
        go_wp2
        exact ⟨⟨k, (k : Int) - 1, by omega, rfl, rfl, HR2, HB⟩, by first | (simp [intOf]; done) | (simp [intOf]; omega)⟩
def vrw (L : List SN) : List Row := L.map fun m => ⟨m.a, m.x, m.c⟩
theorem vrw_get (L : List SN) {k : Nat} (hk : k < L.length) : (vrw L).getD k row0 = ⟨(L.getD k sn0).a, (L.getD k sn0).x, (L.getD k sn0).c⟩ := by
  simp [vrw, List.getD, hk]
theorem vrw_take (L : List SN) {k : Nat} (hk : k < L.length) : (vrw L).take (k + 1) = (vrw L).take k ++ [⟨(L.getD k sn0).a, (L.getD k sn0).x, (L.getD k sn0).c⟩] := by
  have h : k < (vrw L).length := by simpa [vrw] using hk
  rw [← vrw_get L hk, List.getD_eq_getElem?_getD, List.getElem?_eq_getElem h, Option.getD_some]
  exact (List.take_append_getElem h).symm
set_option maxRecDepth 100000 in
set_option maxHeartbeats 4000000 in
theorem ref_Points17 (L : List SN) (A : Option Addr) (c : Nat) (w : World) (hl : L.length ≤ 1000) (hA : LiesSs w w.heap.size A L) :
    Calls Try.prog 29 #[.slice A L.length c] w fun e w' => ∃ A' c', e = .returned (.slice A' (vrw L).length c') ∧ LiesR w' w'.heap.size A' (vrw L) ∧ Below w.heap.size w w' := by
  have HA := Lib.hid (fun W (h : Below w.heap.size w W) => hA.below h)
  have HTK := Lib.hid (fun k (hk : k < L.length) => vrw_take L hk)
  have HLN : Hid ((vrw L).length = L.length) := (by show _ = _; simp [vrw])
  have HTE : Hid ((vrw L).take L.length = vrw L) := List.take_of_length_le (Nat.le_of_eq HLN.out)
  have HVV : Hid (∀ W, Below w.heap.size w W → ∀ r ∈ vrw L, Lies W W.heap.size r.a r.l) := fun W hW r hr => by
    obtain ⟨m, hm, rfl⟩ := List.mem_map.1 hr
    exact ((hA.2 m hm).below hW).mono hW.size
  clear hA
  generalize vrw L = V at *
  obtain ⟨M, hM⟩ : ∃ M, M = L.length := ⟨_, rfl⟩
  have HM := Lib.hid hM
  rw [← hM] at hl HTK HLN HTE ⊢
  clear hM
  go_enter Try.func29, Try.ntmps29
  go_wp2
  go_loopw [3, 4] (fun v i wr => ∃ k : Nat, k ≤ M ∧ i = .int .i64 k ∧ Hid (OwnA wr w.heap.size v (V.take k)) ∧ Hid (Below w.heap.size w wr)) (fun _ i _ => M - (intOf i).toNat)
  case atStart => exact ⟨0, by omega, rfl, OwnA.nil _ _, Below.refl _ _⟩
  case round =>
    obtain ⟨k, hk, rfl, HO, HB⟩ := hrel
    by_cases hkM : k < M
    · have hki : (k : Int) < (M : Int) := by omega
      have hkT : k < L.length := by have := HM.out; omega
      have HT1 := Lib.hid (HTK.out k hkM)
      obtain ⟨ad, eA, hab, c0, c1, c2, c3, c4⟩ := (HA.out wr HB.out).at hkT
      subst eA
      clear c0 c2 c3 c4 HTK
      generalize L.getD k sn0 = m at *
      have hTl : (V.take k).length ≤ 1000000 := by rw [List.length_take]; omega
      have hsz := HB.out.size
      go_wp2_with (at_builtin; refine app_r rfl (.tmp 11) (.tmp 17) rfl _ (V.take k) ⟨m.a, m.x, m.c⟩ wr.heap.size rfl rfl (OwnA.below HO.out ((Below.refl _ _).alloc (Nat.le_refl _) _)) (Box.new _ _ _) (by simp; omega) hTl ?_; intro v3 w3 ho3 hb3; rw [← HT1.out] at ho3; have HO3 := Lib.hid ho3; have HB3 := Lib.hid (show Below w.heap.size w w3 from (HB.out.alloc hsz _).trans hb3); clear ho3 hb3)
      exact ⟨⟨k + 1, by omega, by go_num, HO3.out, HB3.out⟩, by first | (simp [intOf]; done) | (simp [intOf]; omega)⟩
    · obtain rfl : k = M := by omega
      have HO1 := HO.out
      rw [HTE.out] at HO1
      obtain ⟨A', c', e, hc, hl'⟩ := HO1.lies
      subst e
      have HF : Hid (LiesR wr wr.heap.size A' V) := ⟨fun h0 => by
        obtain ⟨g, e, _, h1, h2⟩ := hl' h0
        subst e
        exact ⟨_, rfl, h1, fun j hj => by rw [addr_add0]; exact h2 j hj⟩, HVV.out wr HB.out⟩
      clear hl' HO1 HO
      go_wp2
      go_ret
      exact ⟨A', c', rfl, HF.out, HB.out⟩
set_option maxRecDepth 100000 in
set_option maxHeartbeats 4000000 in
/-- rows that are the same -/
theorem ref_SameAll8 (R T : List Row) (A A2 : Option Addr) (c c2 B : Nat) (w : World) (hA : LiesR w B A R) (hA2 : LiesR w B A2 T) (hl : (R.length : Int) ≤ 9223372036854775807) (hn : ∀ r ∈ R, (r.l.length : Int) ≤ 9223372036854775807) (hs : R.map Row.l = T.map Row.l) (hB : B ≤ w.heap.size) :
    Calls Try.prog 27 #[.slice A R.length c, .slice A2 T.length c2] w fun e w' => e = .returned (.bool true) ∧ Below w.heap.size w w' := by
  have hlen : R.length = T.length := by simpa using congrArg List.length hs
  have HSG : Hid (∀ k, k < R.length → (R.getD k row0).l = (T.getD k row0).l) := fun k hk => by
    have h1 : (R.map Row.l)[k]? = (T.map Row.l)[k]? := by rw [hs]
    rw [List.getElem?_map, List.getElem?_map, List.getElem?_eq_getElem hk, List.getElem?_eq_getElem (by omega)] at h1
    rw [List.getD_eq_getElem?_getD, List.getD_eq_getElem?_getD, List.getElem?_eq_getElem hk, List.getElem?_eq_getElem (by omega)]
    simpa using h1
  have HA := Lib.hid (fun W (h : Below w.heap.size w W) => hA.below (h.mono hB))
  have HA2 := Lib.hid (fun W (h : Below w.heap.size w W) => hA2.below (h.mono hB))
  have H20 := Lib.hid (fun k (hk : k < R.length) => hn _ (getD_mem hk))
  have HR : Hid (∀ k, k < R.length → k < T.length) := fun k hk => by omega
  rw [← hlen]
  clear hA hA2 hs hn
  obtain ⟨M, hM⟩ : ∃ M, M = R.length := ⟨_, rfl⟩
  have HM := Lib.hid hM
  rw [← hM] at hl ⊢
  clear hM hlen
  have e0 : ((M : Int) != (M : Int)) = false := by simp
  go_enter Try.func27, Try.ntmps27
  go_wp2
  go_loopw [5] (fun i wr => ∃ k : Nat, k ≤ M ∧ i = .int .i64 k ∧ Hid (Below w.heap.size w wr)) (fun i _ => M - (intOf i).toNat)
  case atStart => exact ⟨0, by omega, rfl, Below.refl _ _⟩
  case round =>
    obtain ⟨k, hk, rfl, HB⟩ := hrel
    by_cases hlt : k < M
    · have hlg : (k : Int) < (M : Int) := by omega
      have hkT : k < R.length := by have := HM.out; omega
      obtain ⟨ad, eA, hab, c0, hl1⟩ := (HA.out wr HB.out).at hkT
      obtain ⟨ad2, eA2, hab2, d0, hl2⟩ := (HA2.out wr HB.out).at (HR.out k hkT)
      subst eA
      subst eA2
      have s1 := HSG.out k hkT
      have h20 := H20.out k hkT
      generalize R.getD k row0 = n at *
      generalize T.getD k row0 = m at *
      obtain ⟨a1, l1, cc1⟩ := n
      obtain ⟨a2, l2, cc2⟩ := m
      simp only at *
      subst s1
      have KO := Lib.hid (fun X (hX : ∃ n, X = wr.drewN n) => ref_Order a1 a2 l1 l1 cc1 cc2 B X (by obtain ⟨n, rfl⟩ := hX; exact hl1) (by obtain ⟨n, rfl⟩ := hX; exact hl2) h20 h20)
      have h0 := Lib.hid ((ordL_zero l1 l1).2 rfl)
      rw [h0.out] at KO
      clear hl1 hl2 h0
      generalize l1.length = xl at *
      go_wp2
      go_quiet ((go_at_call 88; exact Calls.quiet_of (KO.out _ ⟨_, rfl⟩)))
      have HB3 : Hid (Below w.heap.size w (wr.drewN nq)) := below_drewN2 HB.out nq
      go_wp2
      exact ⟨⟨k + 1, by omega, by go_num, HB3.out⟩, by first | (simp [intOf]; done) | (simp [intOf]; omega)⟩
    · obtain rfl : k = M := by omega
      go_wp2
      go_ret
      exact ⟨rfl, HB.out⟩
end Go.Proofs.Ytdcemcpcjdkpjaa

/-! Layer 17 (ring): Push once more: what else it leaves alone. -/
namespace Go.Proofs.Ytdcemcpcjdkpjaa
open Go.RowKit
set_option linter.unusedVariables false
set_option linter.unusedSimpArgs false

set_option maxRecDepth 100000 in
set_option maxHeartbeats 4000000 in
theorem ring_Push2 (B g G n k B1 : Nat) (S : Nat → Int × List Int × Int × Int × Bool) (id p q : Int) (s : Bool) (A : Option Addr) (x : List Int) (c : Nat) (w : World) (h : RingAt w B g G n S k) (hn : 0 < n) (hn2 : n ≤ 1000) (hx : Lies w B1 A x) (hB1 : B1 ≤ w.heap.size) (hx2 : x.length ≤ 1000) (hS : S k = (id, x, p, q, s)) :
    Calls Try.prog 20 #[.pointer (some ⟨g, 0, none⟩), .agg #[.int .i64 id, .slice A x.length c, .int .i64 p, .int .i64 q, .bool s]] w fun e w' => ∃ o : SN, e = .returned (.tuple #[.agg #[.int .i64 o.id, .slice o.a o.x.length o.c, .int .i64 o.p, .int .i64 o.q, .bool o.s], .bool (decide (n ≤ k))]) ∧ RingAt w' B g G n S (k + 1) ∧ Below B w w' ∧ (n ≤ k → sgS o = S (k - n)) ∧ (k < n → o = sn0) ∧ Oth w w' g G ∧ Lies w' w'.heap.size o.a o.x ∧ o.x.length ≤ 1000 := by
  obtain ⟨P, hP, hb, hG, hBG, hgG, hPS, hNX⟩ := h
  have HX := Lib.hid (((Kpc.start w).alloc #[.int .i64 id, .slice A x.length c, .int .i64 p, .int .i64 q, .bool s] 34).alloc #[.int .i64 0, .slice none 0 0, .int .i64 0, .int .i64 0, .bool false] 34)
  rw [alloc_size'] at HX
  have HSZ : Hid (((w.alloc (.cells #[.int .i64 id, .slice A x.length c, .int .i64 p, .int .i64 q, .bool s] 34)).alloc (.cells #[.int .i64 0, .slice none 0 0, .int .i64 0, .int .i64 0, .bool false] 34)).heap.size = w.heap.size + 1 + 1) := by
    show _ = _
    rw [alloc_size', alloc_size']
  obtain ⟨x0, x1, x2, x3, x4⟩ := box5 HX.out.tail.head
  have hg1 := hb.lt
  have hG1 := hG.lt
  have hz1 : w.heap.size + 1 ≠ g := by omega
  have hz2 : w.heap.size + 1 ≠ G := by omega
  have KO := Lib.hid (fun W (hW : Below w.heap.size w W) => ring_own id p q s A x c B1 W (hx.below (hW.mono hB1)) hx2 (Nat.le_trans hB1 hW.size))
  have KP := Lib.hid (fun A' c' W (hW : Below w.heap.size w W) => last_push g G n k P id p q s A' x c' B W (hb.below hW hg1) (hG.below hW hG1) hP hn hn2 hgG hBG)
  have HPS := Lib.hid hPS
  have HNX := Lib.hid hNX
  clear hx hPS hNX
  go_enter Try.func20, Try.ntmps20
  go_wp2
  generalize (w.alloc (.cells #[.int .i64 id, .slice A x.length c, .int .i64 p, .int .i64 q, .bool s] 34)).alloc (.cells #[.int .i64 0, .slice none 0 0, .int .i64 0, .int .i64 0, .bool false] 34) = W0 at *
  have HXd := Lib.hid HX.out.drew
  go_region_with (first | (go_at_call 83; refine Calls.mono (KO.out _ ?_) ?_; (exact HXd.out.2.1); rintro e w2 ⟨A2, c2, rfl, hA2, hN, hb2⟩; have HK2 := Lib.hid (HXd.out.below hb2)) | (go_at_call 82; refine Calls.mono (KP.out _ _ _ HK2.out.2.1) ?_; rintro e w3 ⟨o, rfl, ho1, ho2, hb3, hG3, hO3, hB3⟩; have HZ := Lib.hid (box_oth hO3 HK2.out.head hz1 hz2); obtain ⟨z0, z1, z2, z3, z4⟩ := box5 HZ.out; have k0 := HZ.out.free 0; have k1 := HZ.out.free 1; have k2 := HZ.out.free 2; have k3 := HZ.out.free 3; have k4 := HZ.out.free 4))
  go_wp2
  have bz : ∀ j, B ≤ (⟨w.heap.size + 1, j, none⟩ : Addr).block := fun j => by show B ≤ w.heap.size + 1; omega
  refine bodyPost_ret (v := .tuple #[.agg #[.int .i64 o.id, .slice o.a o.x.length o.c, .int .i64 o.p, .int .i64 o.q, .bool o.s], .bool (decide (n ≤ k))]) ?_ rfl ⟨o, rfl, ?_, ?_, fun h5 => ?_, ho2, ?_⟩
  · simp only [results, show Try.f20.results = #[.cell 4 34, .tmp 5] from rfl]
    go_simp
  · exact push_fin (y := ⟨id, A2, c2, x, p, q, s⟩) hn hP hBG hgG HPS.out HNX.out hS.symm hx2 hA2 hN HXd.out.head.lt hg1 (Nat.le_succ _) HK2.out.2.1 hO3 hb3 hG3 _ _ _ _ _
  · exact ((((((HK2.out.2.1.mono (by omega)).trans hB3).setCell (bz 0) _).setCell (bz 1) _).setCell (bz 2) _).setCell (bz 3) _).setCell (bz 4) _
  · rw [ho1 h5]
    have h6 := HPS.out (k - n) (by omega) (by omega)
    rw [← Nat.mod_eq_sub_mod h5] at h6
    exact h6
  · have HALL : ∀ u0 u1 u2 u3 u4 : Value, Oth w (((((w3.setCell ⟨w.heap.size + 1, 0, none⟩ u0).setCell ⟨w.heap.size + 1, 1, none⟩ u1).setCell ⟨w.heap.size + 1, 2, none⟩ u2).setCell ⟨w.heap.size + 1, 3, none⟩ u3).setCell ⟨w.heap.size + 1, 4, none⟩ u4) g G ∧ Lies (((((w3.setCell ⟨w.heap.size + 1, 0, none⟩ u0).setCell ⟨w.heap.size + 1, 1, none⟩ u1).setCell ⟨w.heap.size + 1, 2, none⟩ u2).setCell ⟨w.heap.size + 1, 3, none⟩ u3).setCell ⟨w.heap.size + 1, 4, none⟩ u4) (((((w3.setCell ⟨w.heap.size + 1, 0, none⟩ u0).setCell ⟨w.heap.size + 1, 1, none⟩ u1).setCell ⟨w.heap.size + 1, 2, none⟩ u2).setCell ⟨w.heap.size + 1, 3, none⟩ u3).setCell ⟨w.heap.size + 1, 4, none⟩ u4).heap.size o.a o.x ∧ o.x.length ≤ 1000 := fun u0 u1 u2 u3 u4 => by
     have hot : Oth w (((((w3.setCell ⟨w.heap.size + 1, 0, none⟩ u0).setCell ⟨w.heap.size + 1, 1, none⟩ u1).setCell ⟨w.heap.size + 1, 2, none⟩ u2).setCell ⟨w.heap.size + 1, 3, none⟩ u3).setCell ⟨w.heap.size + 1, 4, none⟩ u4) g G := by
       refine ⟨?_, fun b hb1 hb2 hb3 => ?_⟩
       · have e1 := HK2.out.2.1.size
         have e2 := hO3.1
         simp [World.setCell]
         omega
       · rw [st5_get w3 _ _ (by omega), hO3.2 b (Nat.lt_of_lt_of_le hb1 HK2.out.2.1.size) hb2 hb3]
         exact HK2.out.2.1.block b hb1
     refine ⟨hot, ?_⟩
     rcases Nat.lt_or_ge k n with h5 | h5
     · rw [ho2 h5]
       exact ⟨fun h => absurd h (by simp [sn0]), by simp [sn0]⟩
     · have hm : o ∈ P := by
         rw [ho1 h5]
         exact mem_sn (by rw [hP]; exact Nat.mod_lt _ hn)
       obtain ⟨-, h1, h2⟩ := HNX.out o hm
       refine ⟨fun h0 => ?_, h1⟩
       obtain ⟨h, e, hgh, ho⟩ := h2 h0
       have hh := ho.lt
       have h3 : OwnI (((((w3.setCell ⟨w.heap.size + 1, 0, none⟩ u0).setCell ⟨w.heap.size + 1, 1, none⟩ u1).setCell ⟨w.heap.size + 1, 2, none⟩ u2).setCell ⟨w.heap.size + 1, 3, none⟩ u3).setCell ⟨w.heap.size + 1, 4, none⟩ u4) h o.x := by
         obtain ⟨cs, hc, hr⟩ := ho
         exact ⟨cs, (hot.2 h hh (by omega) (by omega)).trans hc, hr⟩
       rw [e]
       exact h3.lies h0
    exact HALL _ _ _ _ _
theorem LiesSs.oth {W W' : World} {g G : Nat} {A : Option Addr} {L : List SN} (h : LiesSs W W.heap.size A L) (ho : Oth W W' g G) (hA : ∀ ad, A = some ad → ad.block ≠ g ∧ ad.block ≠ G) (hv : ∀ m ∈ L, Lies W' W'.heap.size m.a m.x) : LiesSs W' W'.heap.size A L := by
  refine ⟨fun h0 => ?_, hv⟩
  obtain ⟨ad, e, h1, h2⟩ := h.1 h0
  refine ⟨ad, e, Nat.lt_of_lt_of_le h1 ho.1, fun k hk j hj => ?_⟩
  rw [← h2 k hk j hj]
  exact World.cell?_of_block (w := W) (by rw [add_block]; exact ho.2 _ h1 (hA ad e).1 (hA ad e).2)
theorem Oth.box {W W' : World} {g G b : Nat} {cs : Array Value} {t : TypeId} (ho : Oth W W' g G) (h : Box W b cs t) (h1 : b ≠ g) (h2 : b ≠ G) : Box W' b cs t := (ho.2 b h.lt h1 h2).trans h
end Go.Proofs.Ytdcemcpcjdkpjaa

/-! Layer 17: what the statement of all that a ring does asks. -/
namespace Go.Proofs.Ytdcemcpcjdkpjaa
open Go.RowKit
set_option linter.unusedVariables false
set_option linter.unusedSimpArgs false

/-- the events that are there behind k of them, as the reference has them -/
def NowK (n k : Nat) (S : Nat → Int × List Int × Int × Int × Bool) (L M : List SN) : Prop := M.length = cntK n k ∧ (∀ j, j < cntK n k → sgS (M.getD j sn0) = S (k - cntK n k + j)) ∧ ∀ m ∈ M, m ∈ L
theorem nowK_0 (n : Nat) (S : Nat → Int × List Int × Int × Int × Bool) (L : List SN) : NowK n 0 S L [] := ⟨by simp [cntK], fun j hj => absurd hj (by simp [cntK]), fun m hm => by cases hm⟩
theorem tail_getD (L : List SN) (j : Nat) : L.tail.getD j sn0 = L.getD (j + 1) sn0 := by
  simp [List.getD_eq_getElem?_getD]
theorem snoc_getD (M : List SN) (m : SN) (j : Nat) (h : j ≤ M.length) : (M ++ [m]).getD j sn0 = if j < M.length then M.getD j sn0 else m := by
  rw [List.getD_eq_getElem?_getD]
  split
  · rw [List.getElem?_append_left (by omega), ← List.getD_eq_getElem?_getD]
  · rw [List.getElem?_append_right (by omega), show j - M.length = 0 from by omega]; rfl
theorem nowK_dec {n k : Nat} {S : Nat → Int × List Int × Int × Int × Bool} {L M : List SN} (h : NowK n k S L M) : n < M.length + 1 ↔ n ≤ k := by
  rw [h.1]; unfold cntK; omega
theorem nowK_room {n k : Nat} {S : Nat → Int × List Int × Int × Int × Bool} {L M : List SN} {m : SN} (h : NowK n k S L M) (hm : m ∈ L) (hs : sgS m = S k) (hk : k < n) : NowK n (k + 1) S L (M ++ [m]) := by
  obtain ⟨h1, h2, h3⟩ := h
  have e1 : cntK n k = k := by unfold cntK; omega
  have e2 : cntK n (k + 1) = k + 1 := by unfold cntK; omega
  rw [e1] at h1 h2
  refine ⟨by rw [List.length_append, h1, e2]; rfl, fun j hj => ?_, fun x hx => (List.mem_append.1 hx).elim (h3 x) fun g => by rw [List.mem_singleton.1 g]; exact hm⟩
  rw [e2] at hj ⊢
  rw [snoc_getD _ _ _ (by omega)]
  split
  · have := h2 j (by omega)
    rw [show k - k + j = j from by omega] at this
    rw [this, show k + 1 - (k + 1) + j = j from by omega]
  · rw [hs, show k + 1 - (k + 1) + j = k from by omega]
theorem nowK_full {n k : Nat} {S : Nat → Int × List Int × Int × Int × Bool} {L M : List SN} {m : SN} (h : NowK n k S L M) (hm : m ∈ L) (hs : sgS m = S k) (hn : 0 < n) (hk : n ≤ k) :
    NowK n (k + 1) S L (M ++ [m]).tail ∧ sgS ((M ++ [m]).getD 0 sn0) = S (k - n) ∧ (M ++ [m]).getD 0 sn0 ∈ L := by
  obtain ⟨h1, h2, h3⟩ := h
  have e1 : cntK n k = n := by unfold cntK; omega
  have e2 : cntK n (k + 1) = n := by unfold cntK; omega
  rw [e1] at h1 h2
  have hmem : ∀ x ∈ M ++ [m], x ∈ L := fun x hx => (List.mem_append.1 hx).elim (h3 x) fun g => by rw [List.mem_singleton.1 g]; exact hm
  refine ⟨⟨by rw [List.length_tail, List.length_append, h1, e2]; rfl, fun j hj => ?_, fun x hx => hmem x (List.mem_of_mem_tail hx)⟩, ?_, hmem _ (mem_sn (by simp))⟩
  · rw [e2] at hj ⊢
    rw [tail_getD, snoc_getD _ _ _ (by omega)]
    split
    · rw [h2 (j + 1) (by omega), show k - n + (j + 1) = k + 1 - n + j from by omega]
    · rw [hs, show k + 1 - n + j = k from by omega]
  · rw [snoc_getD _ _ _ (by omega), if_pos (by omega), h2 0 (by omega), Nat.add_zero]
theorem same_ev (o2 o : SN) (X : World) (hs : sgS o2 = sgS o) (h1 : Lies X X.heap.size o2.a o2.x) (h2 : Lies X X.heap.size o.a o.x) (h3 : o2.x.length ≤ 1000) :
    Calls Try.prog 21 #[.agg #[.int .i64 o2.id, .slice o2.a o2.x.length o2.c, .int .i64 o2.p, .int .i64 o2.q, .bool o2.s], .agg #[.int .i64 o.id, .slice o.a o.x.length o.c, .int .i64 o.p, .int .i64 o.q, .bool o.s]] X fun e w' => e = .returned (.bool true) ∧ Below X.heap.size X w' := by
  obtain ⟨s1, s2, s3, s4, s5⟩ := sg_parts hs
  rw [← s1, ← s2, ← s3, ← s4, ← s5]
  exact ref_Same17 o2.id o2.p o2.q o2.s o2.a o.a o2.x o2.c o.c X.heap.size X h1 (by rw [s2]; exact h2) h3 (Nat.le_refl _)
theorem same_now {n k R c cnt : Nat} {S : Nat → Int × List Int × Int × Int × Bool} {L M : List SN} {A : Option Addr} (X : World) (hO : OutAt X R cnt (fun j => S (k - cnt + j)) cnt) (hM : LiesSs X X.heap.size A M) (h : NowK n k S L M) (hc : cntK n k = cnt) (hcn : cnt ≤ 1000) :
    Calls Try.prog 22 #[.slice (some ⟨R, 0, none⟩) cnt cnt, .slice A cnt c] X fun e w' => e = .returned (.bool true) ∧ Below X.heap.size X w' := by
  obtain ⟨L1, e1, g1, g2, g3⟩ := hO.lies
  obtain ⟨h1, h2, -⟩ := h
  rw [hc] at h1 h2
  have hm : L1.map sgS = M.map sgS := by
    apply List.ext_getElem?
    intro j
    rw [List.getElem?_map, List.getElem?_map]
    by_cases hj : j < cnt
    · have a := (g2 j hj).trans (h2 j hj).symm
      rw [List.getD_eq_getElem?_getD, List.getD_eq_getElem?_getD, List.getElem?_eq_getElem (by omega), List.getElem?_eq_getElem (by omega)] at a
      rw [List.getElem?_eq_getElem (by omega), List.getElem?_eq_getElem (by omega)]
      exact congrArg some a
    · rw [List.getElem?_eq_none (by omega), List.getElem?_eq_none (by omega)]
  have hh := ref_SameAll17 L1 M (some ⟨R, 0, none⟩) A cnt c X.heap.size X (by omega) g3 hm g1 hM (Nat.le_refl _)
  rw [e1, h1] at hh
  exact hh
theorem find_now {n k c cnt : Nat} {S : Nat → Int × List Int × Int × Int × Bool} {L M : List SN} {A : Option Addr} (id : Int) (X : World) (hM : LiesSs X X.heap.size A M) (h : NowK n k S L M) (hc : cntK n k = cnt) (hcn : cnt ≤ 1000) :
    Calls Try.prog 26 #[.slice A cnt c, .int .i64 id] X fun e w' => e = .returned (.tuple #[.int .i64 ((fndK (fun j => S (k - cnt + j)) id cnt).1 : Nat), .bool (fndK (fun j => S (k - cnt + j)) id cnt).2]) ∧ Below X.heap.size X w' := by
  obtain ⟨h1, h2, -⟩ := h
  rw [hc] at h1 h2
  have hh := ref_Find17 M (fun j => S (k - cnt + j)) A c X.heap.size id X (by omega) hM (Nat.le_refl _) (by rw [h1]; exact h2)
  rw [h1] at hh
  exact hh
theorem OutV.rows {w : World} {R cnt : Nat} {S : Nat → Int × List Int × Int × Int × Bool} (h : OutV w R cnt S cnt) : ∃ V : List SN, V.length = cnt ∧ LiesR w w.heap.size (some ⟨R, 0, none⟩) (vrw V) ∧ (∀ j, j < cnt → (V.getD j sn0).x = (S j).2.1) ∧ ∀ m ∈ V, m.x.length ≤ 1000 := by
  obtain ⟨V, h1, h2, h3, h4⟩ := h
  refine ⟨V, h1, ⟨fun h0 => ⟨_, rfl, h2.lt, fun j hj => ?_⟩, fun r hr => ?_⟩, h3, fun m hm => (h4 m hm).2.1⟩
  · have hj' : j < V.length := by simpa [vrw] using hj
    rw [addr_add0, vec_at h2 hj', vrw_get V hj']; rfl
  · obtain ⟨m, hm, rfl⟩ := List.mem_map.1 hr
    obtain ⟨-, -, h5⟩ := h4 m hm
    intro h0
    obtain ⟨b, e, _, ho⟩ := h5 h0
    rw [show (⟨m.a, m.x, m.c⟩ : Row).a = m.a from rfl, e]
    exact ho.lies h0
theorem same_pts {n k R c cnt : Nat} {S : Nat → Int × List Int × Int × Int × Bool} {L M : List SN} {A : Option Addr} (X : World) (hO : OutV X R cnt (fun j => S (k - cnt + j)) cnt) (hM : LiesR X X.heap.size A (vrw M)) (h : NowK n k S L M) (hc : cntK n k = cnt) (hcn : cnt ≤ 1000) :
    Calls Try.prog 27 #[.slice (some ⟨R, 0, none⟩) cnt cnt, .slice A (vrw M).length c] X fun e w' => e = .returned (.bool true) ∧ Below X.heap.size X w' := by
  obtain ⟨V, e1, g1, g2, g3⟩ := hO.rows
  obtain ⟨h1, h2, -⟩ := h
  rw [hc] at h1 h2
  have hm : (vrw V).map Row.l = (vrw M).map Row.l := by
    unfold vrw
    rw [List.map_map, List.map_map]
    apply List.ext_getElem?
    intro j
    rw [List.getElem?_map, List.getElem?_map]
    by_cases hj : j < cnt
    · have a := (g2 j hj).trans (congrArg (fun s => s.2.1) (h2 j hj)).symm
      rw [List.getD_eq_getElem?_getD, List.getElem?_eq_getElem (by omega), List.getD_eq_getElem?_getD, List.getElem?_eq_getElem (by omega)] at a
      rw [List.getElem?_eq_getElem (by omega), List.getElem?_eq_getElem (by omega)]
      exact congrArg some a
    · rw [List.getElem?_eq_none (by omega), List.getElem?_eq_none (by omega)]
  have hV : (vrw V).length = cnt := by simpa [vrw] using e1
  have hh := ref_SameAll8 (vrw V) (vrw M) (some ⟨R, 0, none⟩) A cnt c X.heap.size X g1 hM (by omega) (fun r hr => by obtain ⟨m, hm, rfl⟩ := List.mem_map.1 hr; have := g3 m hm; show (m.x.length : Int) ≤ _; omega) hm (Nat.le_refl _)
  rw [hV] at hh
  exact hh
/-- one event more, on the reference's side -/
def StepR (w W : World) (n k : Nat) (S : Nat → Int × List Int × Int × Int × Bool) (L : List SN) (b : Bool) (e : Ending) (w' : World) : Prop :=
  ∃ (M' : List SN) (A' : Option Addr) (c' : Nat) (o : SN), e = .returned (.tuple #[.slice A' (cntK n (k + 1)) c', .agg #[.int .i64 o.id, .slice o.a o.x.length o.c, .int .i64 o.p, .int .i64 o.q, .bool o.s], .bool b]) ∧ (A' = none → c' = 0) ∧ LiesSs w' w'.heap.size A' M' ∧ (∀ ad, A' = some ad → W.heap.size ≤ ad.block) ∧ Below W.heap.size W w' ∧ NowK n (k + 1) S L M' ∧ (n ≤ k → sgS o = S (k - n)) ∧ (k < n → o = sn0) ∧ ∀ X, Below w.heap.size w X → Lies X X.heap.size o.a o.x
theorem push_now (M L : List SN) (A : Option Addr) (c n k : Nat) (S : Nat → Int × List Int × Int × Int × Bool) (m : SN) (b : Bool) (w W : World) (hM : LiesSs W W.heap.size A M) (hAc : A = none → c = 0) (h : NowK n k S L M) (hm : m ∈ L) (hs : sgS m = S k) (hn0 : 0 < n) (hn : n ≤ 256) (hb : decide (n ≤ k) = b) (hW : Below w.heap.size w W)
    (hL : ∀ m ∈ L, Lies w w.heap.size m.a m.x) : Calls Try.prog 19 #[.slice A (cntK n k) c, .int .i64 n, .agg #[.int .i64 m.id, .slice m.a m.x.length m.c, .int .i64 m.p, .int .i64 m.q, .bool m.s]] W (StepR w W n k S L b) := by
  have hl : M.length ≤ 256 := by rw [h.1]; unfold cntK; omega
  have hK := ref_Push17 M A c n m W hM hAc (by omega) (((hL m hm).below hW).mono hW.size) (by omega)
  rw [h.1] at hK
  refine hK.mono fun e w' hg => ?_
  obtain ⟨M', A', c', o, g1, g2, g3, g4, g5, g6, g7⟩ := hg
  have hd : decide (n < M.length + 1) = b := by rw [← hb]; exact decide_eq_decide.2 (nowK_dec h)
  rw [hd] at g1
  rcases Nat.lt_or_ge k n with hk | hk
  · obtain ⟨rfl, rfl⟩ := g7 (by rw [nowK_dec h]; omega)
    have hn' := nowK_room h hm hs hk
    rw [hn'.1] at g1
    exact ⟨_, A', c', sn0, g1, g2, g3, g4, g5, hn', fun g => absurd g (by omega), fun _ => rfl, fun X hX h0 => absurd h0 (by simp [sn0])⟩
  · obtain ⟨rfl, rfl⟩ := g6 (by rw [nowK_dec h]; omega)
    obtain ⟨hn', hs', hm'⟩ := nowK_full h hm hs hn0 hk
    rw [hn'.1] at g1
    exact ⟨_, A', c', _, g1, g2, g3, g4, g5, hn', fun _ => hs', fun g => absurd g (by omega), fun X hX => ((hL _ hm').below hX).mono hX.size⟩
end Go.Proofs.Ytdcemcpcjdkpjaa
