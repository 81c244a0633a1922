/- The reference of layer 4: Code, Codes. -/
import Derived.Test.YtdkplejhgkbndaaDoorPlyD
namespace Go.Proofs.YtdkplejhgkbndaaDoor
open Go.RowKit Go.Extern.Stop Go.Stop Go.Extern
set_option linter.unusedVariables false
set_option linter.unusedSimpArgs false

/-- the nodes lie in the memory, six cells each -/
def LiesN (w : World) (B : Nat) (A : Option Addr) (N : List Nd) : Prop :=
  0 < N.length → ∃ ad : Addr, A = some ad ∧ ad.block < B ∧ ∀ j, j < N.length → w.cell? (ad.add (j * 6)) = some (.int .i64 (N.getD j nd0).doo) ∧ w.cell? (ad.add (j * 6 + 1)) = some (.string (N.getD j nd0).op) ∧ w.cell? (ad.add (j * 6 + 2)) = some (.int .i64 (N.getD j nd0).at_) ∧
    w.cell? (ad.add (j * 6 + 3)) = some (.int .i64 (N.getD j nd0).code) ∧ w.cell? (ad.add (j * 6 + 4)) = some (.int .i64 (N.getD j nd0).a) ∧ w.cell? (ad.add (j * 6 + 5)) = some (.int .i64 (N.getD j nd0).b)
theorem LiesN.below {w w' : World} {B : Nat} {A : Option Addr} {N : List Nd} (h : LiesN w B A N) (hb : Below B w w') : LiesN w' B A N := fun h0 => by
  obtain ⟨ad, e, hB, hc⟩ := h h0
  refine ⟨ad, e, hB, fun j hj => ?_⟩
  obtain ⟨c0, c1, c2, c3, c4, c5⟩ := hc j hj
  have k : ∀ i, w'.cell? (ad.add i) = w.cell? (ad.add i) := fun i => hb.cell (by rw [add_block]; exact hB)
  rw [k, k, k, k, k, k]
  exact ⟨c0, c1, c2, c3, c4, c5⟩
theorem LiesN.mono {w : World} {B B' : Nat} {A : Option Addr} {N : List Nd} (h : LiesN w B A N) (hB : B ≤ B') : LiesN w B' A N := fun h0 => by
  obtain ⟨ad, e, h1, hc⟩ := h h0
  exact ⟨ad, e, Nat.lt_of_lt_of_le h1 hB, hc⟩
theorem own_liesN {w : World} {B : Nat} {v : Value} {N : List Nd} (h : w.ownsRow B 60 6 v N.length (litN N)) : ∃ A c, v = .slice A N.length c ∧ LiesN w w.heap.size A N := by
  rcases Nat.eq_zero_or_pos N.length with h0 | h0
  · obtain ⟨A, c, rfl⟩ := pc_shape h
    exact ⟨A, c, rfl, fun h1 => absurd h1 (by omega)⟩
  · have hh := h
    obtain ⟨g, c, rfl, hc, hcell⟩ := own_cells h h0
    refine ⟨_, c, rfl, fun _ => ⟨⟨g, 0, none⟩, rfl, ?_, fun j hj => ?_⟩⟩
    · rcases hh.2 with ⟨h1, _⟩ | ⟨g', cap, cur, h1, hb, hx, _⟩
      · cases h1
      · cases h1; exact (Array.getElem?_eq_some_iff.1 hx).1
    · have k := fun i (hi : i < 6) => hcell (j * 6 + i) ((ndV (N.getD j nd0))[i]'(by simp [ndV]; omega)) (by rw [litN_get N j i hj hi]; simp [ndV])
      exact ⟨k 0 (by omega), k 1 (by omega), k 2 (by omega), k 3 (by omega), k 4 (by omega), k 5 (by omega)⟩
theorem ref_code_nil (A : Option Addr) (M c : Nat) (i : Int) (hi : i < 0) (w : World) : Calls Tryd.prog 11 #[.slice A M c, .int .i64 i] w fun e w' => e = .returned (.int .i64 0) ∧ w = w' := by
  go_enter Tryd.func11, Tryd.ntmps11
  go_wp2
  go_ret
  exact ⟨rfl, rfl⟩
set_option maxRecDepth 100000 in
set_option maxHeartbeats 2000000 in
theorem ref_code {T : List FT} {N : List Nd} (hn : ∀ i, i < T.length → NdIs T i (N.getD i nd0)) (hl : N.length = T.length) (A : Option Addr) (c B : Nat) : ∀ (n : Nat) (i : Nat), i < n → i < T.length → ∀ w : World, LiesN w B A N →
    Calls Tryd.prog 11 #[.slice A N.length c, .int .i64 i] w fun e w' => e = .returned (.int .i64 (codeF (T.getD i tD))) ∧ ∃ m, w' = w.drewN m
  | 0, i, h, _, _, _ => absurd h (by omega)
  | n + 1, i, h, hi, w, hA => by
    have IH := Lib.hid (fun (j : Nat) (hj : j < i) W (hW : LiesN W B A N) => ref_code hn hl A c B n j (by omega) (by omega) W hW)
    have HA := Lib.hid hA
    obtain ⟨ad, rfl, _, hcell⟩ := hA (by omega)
    obtain ⟨c0, _, _, c3, c4, _⟩ := hcell i (by omega)
    rw [← fld ad (i * 6) _ (by omega)] at c3 c4
    have hg : (i : Int) < (N.length : Int) := by omega
    have hi0 : ¬ (i : Int) < 0 := by omega
    have hnd := hn i hi
    clear hA hcell hn hl
    generalize N.getD i nd0 = x at *
    obtain ⟨xd, xo, xt, xc, xa, xb⟩ := x
    simp only at c0 c3 c4
    rcases hnd with ⟨e1, e2, e3⟩ | ⟨e1, j, e2, e3, e4⟩ | ⟨e1, e1', j, k, e2, e2', e3, e3', e4⟩
    · simp only at e1 e3
      subst e1
      rw [e3]
      go_enter Tryd.func11, Tryd.ntmps11
      go_wp2
      go_ret
      exact ⟨rfl, 0, rfl⟩
    · simp only at e1 e3 e4
      subst e1
      subst e3
      rw [e4]
      go_enter Tryd.func11, Tryd.ntmps11
      go_wp2_with fail
      refine (IH.out j e2 _ HA.out).mono ?_
      rintro e w1 ⟨rfl, m, rfl⟩
      go_wp2
      go_ret
      exact ⟨rfl, m, rfl⟩
    · simp only at e1 e1' e3 e4
      subst e3
      rw [e4]
      have f1 : (xd == 0) = false := by simpa using e1
      go_enter Tryd.func11, Tryd.ntmps11
      go_wp2_with fail
      refine (IH.out j e2 _ HA.out).mono ?_
      rintro e w1 ⟨rfl, m, rfl⟩
      go_wp2
      go_ret
      exact ⟨rfl, m, rfl⟩

/-! ### Codes -/
def codesF : FT → List Int
  | .code _ _ c => [c]
  | .wrap _ _ t => codesF t
  | .both x y => codesF x ++ codesF y
theorem codesF_pos : ∀ t : FT, 0 < (codesF t).length
  | .code _ _ c => by simp [codesF]
  | .wrap _ _ t => codesF_pos t
  | .both x y => by have := codesF_pos x; simp only [codesF, List.length_append]; omega
theorem codesF_len : ∀ t : FT, (codesF t).length ≤ size t + 1
  | .code _ _ c => by simp [codesF, size]
  | .wrap _ _ t => by have := codesF_len t; simp only [codesF, size]; omega
  | .both x y => by have := codesF_len x; have := codesF_len y; simp only [codesF, size, List.length_append]; omega
theorem info_er : (Tryd.prog.info? 29).map (fun i => (i.zero, i.size, i.bytes)) = some (some (.int .i64 0), 1, 8) := by kernel_rfl
/-- it gives a row of codes, of the call's own -/
def GivesK (l : List Int) (w : World) (e : Ending) (w' : World) : Prop := ∃ v, e = .returned v ∧ w'.ownsRow w.heap.size 29 1 v l.length (litJ l) ∧ Below w.heap.size w w'
theorem ownsK_mono {w : World} {B B' n : Nat} {e : TypeId} {v : Value} {xs : List Value} (h : w.ownsRow B e 1 v n xs) (hB : B' ≤ B) : w.ownsRow B' e 1 v n xs := by
  refine ⟨h.1, ?_⟩
  rcases h.2 with h0 | ⟨g, cap, cur, e1, hb, hr⟩
  · exact .inl h0
  · exact .inr ⟨g, cap, cur, e1, Nat.le_trans hB hb, hr⟩
/-- one row of codes onto another one -/
theorem app_codes {B : Nat} {wr : World} {ops : Array Oper} {rest : List Oper} {o : Oper} {a : Act} {Q : Exit → Act → World → Prop} (hgd : o.guard = none) (s x : Operand)
    (ho : o.op = .call { callee := .builtin .append, args := #[s, x], argTypes := #[41, 41] })
    (v u : Value) (l m : List Int) (hs : a.eval s = v) (hu : a.eval x = u) (hown : wr.ownsRow B 29 1 v l.length (litJ l)) (hown2 : wr.ownsRow B 29 1 u m.length (litJ m)) (hm : 0 < m.length)
    (hB : B ≤ wr.heap.size) (hn : l.length + m.length ≤ 1000000)
    (h : ∀ v' w', w'.ownsRow B 29 1 v' (l ++ m).length (litJ (l ++ m)) → Below B wr w' → wpList Tryd.prog ops Q rest (a.put o.dst v') w') :
    wpList Tryd.prog ops Q (o :: rest) a wr := by
  obtain ⟨i0, hi, hz0, hz1, hz2⟩ := info_parts info_er
  obtain ⟨g, c, rfl, hc, hcell⟩ := own_cells hown2 hm
  refine wpList_append_own _ hgd s x 41 ho B 29 i0 (.int .i64 0) 1 8 Tryd.underlying41 hi hz0 hz1 hz2 rfl (by decide) v l.length (litJ l) hs hown ⟨g, 0, none⟩ m.length c (litJ m) hu (by simp [litJ]) (fun j y hj => hcell j y hj) ?_ ?_ ?_ hB ?_
  · intro y hy
    unfold litJ at hy
    obtain ⟨z, _, rfl⟩ := List.mem_map.1 hy; rfl
  · unfold maxLen; omega
  · omega
  · intro v' w' h1 h2 _
    refine h v' w' ?_ ?_
    · rw [List.length_append]
      have e : litJ (l ++ m) = litJ l ++ litJ m := by simp [litJ]
      rw [e]; exact h1
    · refine (Below.refl _ _).grown h2 hB fun k hk => ?_
      rcases hown.2 with ⟨rfl, _⟩ | ⟨g, cap, cur, rfl, hg, _⟩
      · simp [Value.ownBlock] at hk
      · simp only [Value.ownBlock, Option.some.injEq] at hk; omega
/-- .. as one operation of a region -/
theorem app_codes1 {B : Nat} {wr : World} {o : Oper} {a : Act} {K : Act → World → Prop} {Q : Exit → Act → World → Prop} (s x : Operand)
    (ho : o.op = .call { callee := .builtin .append, args := #[s, x], argTypes := #[41, 41] })
    (v u : Value) (l m : List Int) (hs : a.eval s = v) (hu : a.eval x = u) (hown : wr.ownsRow B 29 1 v l.length (litJ l)) (hown2 : wr.ownsRow B 29 1 u m.length (litJ m)) (hm : 0 < m.length)
    (hB : B ≤ wr.heap.size) (hn : l.length + m.length ≤ 1000000)
    (h : ∀ v' w', w'.ownsRow B 29 1 v' (l ++ m).length (litJ (l ++ m)) → Below B wr w' → K (a.put o.dst v') w') :
    o.wp Tryd.prog a wr K Q := by
  obtain ⟨i0, hi, hz0, hz1, hz2⟩ := info_parts info_er
  obtain ⟨g, c, rfl, hc, hcell⟩ := own_cells hown2 hm
  refine wp_append_own _ s x 41 ho B 29 i0 (.int .i64 0) 1 8 Tryd.underlying41 hi hz0 hz1 hz2 rfl (by decide) v l.length (litJ l) hs hown ⟨g, 0, none⟩ m.length c (litJ m) hu (by simp [litJ]) (fun j y hj => hcell j y hj) ?_ ?_ ?_ hB ?_
  · intro y hy
    unfold litJ at hy
    obtain ⟨z, _, rfl⟩ := List.mem_map.1 hy; rfl
  · unfold maxLen; omega
  · omega
  · intro v' w' h1 h2 _
    refine h v' w' ?_ ?_
    · rw [List.length_append]
      have e : litJ (l ++ m) = litJ l ++ litJ m := by simp [litJ]
      rw [e]; exact h1
    · refine (Below.refl _ _).grown h2 hB fun k hk => ?_
      rcases hown.2 with ⟨rfl, _⟩ | ⟨g, cap, cur, rfl, hg, _⟩
      · simp [Value.ownBlock] at hk
      · simp only [Value.ownBlock, Option.some.injEq] at hk; omega
set_option maxRecDepth 100000 in
set_option maxHeartbeats 4000000 in
theorem ref_codes {T : List FT} {N : List Nd} (hn : ∀ i, i < T.length → NdIs T i (N.getD i nd0)) (hs : ∀ i, i < T.length → size (T.getD i tD) ≤ 100000) (hl : N.length = T.length) (A : Option Addr) (c : Nat) : ∀ (n : Nat) (i : Nat), i < n → i < T.length → ∀ w : World, LiesN w w.heap.size A N →
    Calls Tryd.prog 17 #[.slice A N.length c, .int .i64 i] w (GivesK (codesF (T.getD i tD)) w)
  | 0, i, h, _, _, _ => absurd h (by omega)
  | n + 1, i, h, hi, w, hA => by
    have IH := Lib.hid (fun (j : Nat) (hj : j < i) W (hW : LiesN W W.heap.size A N) => ref_codes hn hs hl A c n j (by omega) (by omega) W hW)
    have HA := Lib.hid hA
    have HS := Lib.hid hs
    obtain ⟨ad, rfl, hadb, hcell⟩ := hA (by omega)
    obtain ⟨c0, _, _, c3, c4, c5⟩ := hcell i (by omega)
    have HC : Hid (∀ W, Below w.heap.size w W → W.cell? (ad.add (i * 6)) = some (.int .i64 (N.getD i nd0).doo) ∧ W.cell? ⟨(ad.add (i * 6)).block, (ad.add (i * 6)).off + 4, none⟩ = some (.int .i64 (N.getD i nd0).a) ∧ W.cell? ⟨(ad.add (i * 6)).block, (ad.add (i * 6)).off + 5, none⟩ = some (.int .i64 (N.getD i nd0).b)) := fun W hW => by
      rw [fld ad (i * 6) 4 (by omega), fld ad (i * 6) 5 (by omega)]
      exact ⟨(hW.cell (by rw [add_block]; exact hadb)).trans c0, (hW.cell (by rw [add_block]; exact hadb)).trans c4, (hW.cell (by rw [add_block]; exact hadb)).trans c5⟩
    rw [← fld ad (i * 6) _ (by omega)] at c3 c4 c5
    have hg : (i : Int) < (N.length : Int) := by omega
    have hi0 : ¬ (i : Int) < 0 := by omega
    have hnd := hn i hi
    clear hA hcell hn hs hl
    generalize N.getD i nd0 = x at *
    obtain ⟨xd, xo, xt, xc, xa, xb⟩ := x
    simp only at c0 c3 c4 c5 HC
    rcases hnd with ⟨e1, e2, e3⟩ | ⟨e1, j, e2, e3, e4⟩ | ⟨e1, e1', j, k, e2, e2', e3, e3', e4⟩
    · simp only at e1 e3
      subst e1
      rw [e3]
      have HO : Hid ((w.alloc (.cells #[.int .i64 xc] 29)).ownsRow w.heap.size 29 1 (.slice (some ⟨w.heap.size, 0, none⟩) 1 1) 1 [.int .i64 xc]) := ⟨rfl, .inr ⟨w.heap.size, 1, #[.int .i64 xc], rfl, Nat.le_refl _, heap_alloc_new w _, Nat.le_refl _, by unfold maxLen; omega, rfl, rfl⟩⟩
      have HB : Hid (Below w.heap.size w (w.alloc (.cells #[.int .i64 xc] 29))) := (Below.refl _ _).alloc (Nat.le_refl _) _
      go_enter Tryd.func17, Tryd.ntmps17
      go_wp2
      go_ret
      exact ⟨_, rfl, HO.out, HB.out⟩
    · simp only at e1 e3 e4
      subst e1
      subst e3
      rw [e4]
      go_enter Tryd.func17, Tryd.ntmps17
      go_wp2_with fail
      refine (IH.out j e2 _ HA.out).mono ?_
      rintro e w1 ⟨v, rfl, ho, hb⟩
      have HO := Lib.hid ho
      have HB := Lib.hid hb
      clear ho hb
      go_wp2
      go_ret
      exact ⟨v, rfl, HO.out, HB.out⟩
    · simp only at e1 e1' e3 e3' e4
      subst e3
      subst e3'
      have hsz := HS.out i hi
      rw [e4] at hsz ⊢
      have hl1 := codesF_len (T.getD j tD)
      have hl2 := codesF_len (T.getD k tD)
      have hp2 := codesF_pos (T.getD k tD)
      have HLEN : Hid ((codesF (T.getD j tD)).length + (codesF (T.getD k tD)).length ≤ 1000000) := by show _ ≤ _; simp only [size] at hsz; omega
      have HP2 := Lib.hid hp2
      have IJ := Lib.hid (fun W hW => IH.out j e2 W hW)
      have IK := Lib.hid (fun W hW => IH.out k e2' W hW)
      have HCF : Hid (codesF (FT.both (T.getD j tD) (T.getD k tD)) = codesF (T.getD j tD) ++ codesF (T.getD k tD)) := rfl
      rw [HCF.out]
      generalize codesF (T.getD j tD) = lj at *
      generalize codesF (T.getD k tD) = lk at *
      clear hsz hl1 hl2 hp2 c3 c4 c5 IH HCF
      have f0 : (xd == 0) = false := by simpa using e1
      have f1 : (xd == 1) = false := by simpa using e1'
      have tokJ : True := trivial
      go_enter Tryd.func17, Tryd.ntmps17
      go_wp2
      have HBD := Lib.hid ((Below.refl w.heap.size w).drew)
      obtain ⟨d0, d4, d5⟩ := HC.out _ HBD.out
      go_region_held3 (fun W => W.cell? ⟨(ad.add (i * 6)).block, (ad.add (i * 6)).off + 4, none⟩ = some (.int .i64 j) ∧ W.cell? ⟨(ad.add (i * 6)).block, (ad.add (i * 6)).off + 5, none⟩ = some (.int .i64 k)) (go_keep)
        (first
          | (go_at_call 17; have _t := tokJ; (refine (IJ.out _ ((HA.out.below HBD.out).mono HBD.out.size)).mono ?_); rintro e w1 ⟨v1, rfl, ho1, hb1⟩; clear tokJ; have HB1 := Lib.hid (HBD.out.trans (hb1.mono HBD.out.size)); have HO1 := Lib.hid (ownsK_mono ho1 HBD.out.size); obtain ⟨d0, d4, d5⟩ := HC.out _ HB1.out; clear ho1 hb1)
          | (go_at_call 17; (refine (IK.out _ ((HA.out.below HB1.out).mono HB1.out.size)).mono ?_); rintro e w2 ⟨v2, rfl, ho2, hb2⟩; have HO1 := Lib.hid (own_below2 HO1.out hb2); have HO2 := Lib.hid (ownsK_mono ho2 HB1.out.size); have HB1 := Lib.hid (HB1.out.trans (hb2.mono HB1.out.size)); obtain ⟨d0, d4, d5⟩ := HC.out _ HB1.out; clear ho2 hb2)
          | (refine app_codes1 (.tmp 35) (.tmp 42) rfl _ _ lj lk rfl rfl HO1.out HO2.out HP2.out HB1.out.size HLEN.out ?_; intro v3 w3 ho3 hb3; have HO3 := Lib.hid ho3; have HB3 := Lib.hid (HB1.out.trans hb3); obtain ⟨d0, d4, d5⟩ := HC.out _ HB3.out; clear ho3 hb3))
      go_wp2
      go_ret
      exact ⟨_, rfl, HO3.out, HB3.out⟩
end Go.Proofs.YtdkplejhgkbndaaDoor
