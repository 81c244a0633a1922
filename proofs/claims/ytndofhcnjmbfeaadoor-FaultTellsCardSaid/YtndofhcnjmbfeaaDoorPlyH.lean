/- The reference of layer 4: Steps. -/
import Derived.Test.YtndofhcnjmbfeaaDoorFauP
import Derived.Test.YtndofhcnjmbfeaaDoorPlyG
namespace Go.Proofs.YtndofhcnjmbfeaaDoor
open Go.RowKit Go.Extern.Stop Go.Stop Go.Extern
set_option linter.unusedVariables false
set_option linter.unusedSimpArgs false

/-- it gives a row of steps, of the call's own -/
def GivesS (l : List (ByteArray × Int)) (w : World) (e : Ending) (w' : World) : Prop := ∃ v, e = .returned v ∧ w'.ownsRow w.heap.size 40 2 v l.length (litS l) ∧ Below w.heap.size w w'
theorem stepsF_pos : ∀ t : FT, 0 < (stepsF t).length
  | .code _ _ c => by simp [stepsF]
  | .wrap _ _ t => by simp [stepsF]
  | .both x y => stepsF_pos x
theorem ownsS_mono {w : World} {B B' n s : Nat} {e : TypeId} {v : Value} {xs : List Value} (h : w.ownsRow B e s v n xs) (hB : B' ≤ B) : w.ownsRow B' e s v n xs := by
  refine ⟨h.1, ?_⟩
  rcases h.2 with h0 | ⟨g, cap, cur, e1, hb, hr⟩
  · exact .inl h0
  · exact .inr ⟨g, cap, cur, e1, Nat.le_trans hB hb, hr⟩
/-- one row of steps onto another one -/
theorem app_steps {B : Nat} {wr : World} {ops : Array Oper} {rest : List Oper} {o : Oper} {a : Act} {Q : Exit → Act → World → Prop} (hgd : o.guard = none) (s x : Operand)
    (ho : o.op = .call { callee := .builtin .append, args := #[s, x], argTypes := #[36, 36] })
    (v u : Value) (l m : List (ByteArray × Int)) (hs : a.eval s = v) (hu : a.eval x = u) (hown : wr.ownsRow B 40 2 v l.length (litS l)) (hown2 : wr.ownsRow B 40 2 u m.length (litS m)) (hm : 0 < m.length)
    (hB : B ≤ wr.heap.size) (hn : l.length + m.length ≤ 1000000)
    (h : ∀ v' w', w'.ownsRow B 40 2 v' (l ++ m).length (litS (l ++ m)) → Below B wr w' → wpList Tryd.prog ops Q rest (a.put o.dst v') w') :
    wpList Tryd.prog ops Q (o :: rest) a wr := by
  obtain ⟨i0, hi, hz0, hz1, hz2⟩ := info_parts info_step
  obtain ⟨g, c, rfl, hc, hcell⟩ := own_cells hown2 hm
  refine wpList_append_own _ hgd s x 36 ho B 40 i0 (.agg #[.string ⟨#[]⟩, .int .i64 0]) 2 24 Tryd.underlying36 hi hz0 hz1 hz2 rfl (by decide) v l.length (litS l) hs hown ⟨g, 0, none⟩ m.length c (litS m) hu (by simp [litS_len]) (fun j y hj => hcell j y hj) ?_ ?_ ?_ hB ?_
  · intro y hy
    unfold litS at hy
    obtain ⟨z, _, hz⟩ := List.mem_flatMap.1 hy
    simp only [List.mem_cons, List.not_mem_nil, or_false] at hz
    rcases hz with rfl | rfl <;> rfl
  · unfold maxLen; omega
  · omega
  · intro v' w' h1 h2 _
    refine h v' w' ?_ ?_
    · rw [List.length_append]
      have e : litS (l ++ m) = litS l ++ litS m := by simp [litS]
      rw [e]; exact h1
    · refine (Below.refl _ _).grown h2 hB fun k hk => ?_
      rcases hown.2 with ⟨rfl, _⟩ | ⟨g, cap, cur, rfl, hg, _⟩
      · simp [Value.ownBlock] at hk
      · simp only [Value.ownBlock, Option.some.injEq] at hk; omega
set_option maxRecDepth 100000 in
set_option maxHeartbeats 4000000 in
theorem ref_steps {T : List FT} {N : List Nd} (hn : ∀ i, i < T.length → NdIs T i (N.getD i nd0)) (hs : ∀ i, i < T.length → size (T.getD i tD) ≤ 100000) (A : Option Addr) (c M : Nat) (hM : M = T.length) (hl : N.length = M) : ∀ (n : Nat) (i : Nat), i < n → i < M → ∀ w : World, LiesN w w.heap.size A N →
    Calls Tryd.prog 13 #[.slice A M c, .int .i64 i] w (GivesS (stepsF (T.getD i tD)) w)
  | 0, i, h, _, _, _ => absurd h (by omega)
  | n + 1, i, h, hi, w, hA => by
    have IH := Lib.hid (fun (j : Nat) (hj : j < i) W (hW : LiesN W W.heap.size A N) => ref_steps hn hs A c M hM hl n j (by omega) (by omega) W hW)
    have HA := Lib.hid hA

    obtain ⟨ad, rfl, hadb, hcell⟩ := hA (by omega)
    have hcl := hcell i (by omega)
    have HC : Hid (∀ W, Below w.heap.size w W → W.cell? (ad.add (i * 6)) = some (.int .i64 (N.getD i nd0).doo) ∧ W.cell? ⟨(ad.add (i * 6)).block, (ad.add (i * 6)).off + 1, none⟩ = some (.string (N.getD i nd0).op) ∧ W.cell? ⟨(ad.add (i * 6)).block, (ad.add (i * 6)).off + 2, none⟩ = some (.int .i64 (N.getD i nd0).at_) ∧ W.cell? ⟨(ad.add (i * 6)).block, (ad.add (i * 6)).off + 4, none⟩ = some (.int .i64 (N.getD i nd0).a)) := fun W hW => by
      obtain ⟨c0, c1, c2, c3, c4, c5⟩ := hcl
      rw [fld ad (i * 6) 1 (by omega), fld ad (i * 6) 2 (by omega), fld ad (i * 6) 4 (by omega)]
      exact ⟨(hW.cell (by rw [add_block]; exact hadb)).trans c0, (hW.cell (by rw [add_block]; exact hadb)).trans c1, (hW.cell (by rw [add_block]; exact hadb)).trans c2, (hW.cell (by rw [add_block]; exact hadb)).trans c4⟩
    have HLN : Hid (∀ j, j < i → (stepsF (T.getD j tD)).length ≤ 200001) := fun j hj => by
      have h1 := steps_len (T.getD j tD)
      have h2 := hs j (by omega)
      omega
    have hg : (i : Int) < (M : Int) := by omega
    have hi0 : ¬ (i : Int) < 0 := by omega
    have hnd := hn i (by omega)
    clear hA hcell hcl hn hs hl hM
    generalize N.getD i nd0 = x at *
    obtain ⟨xd, xo, xt, xc, xa, xb⟩ := x
    simp only at HC
    have HBD := Lib.hid ((Below.refl w.heap.size w).drew)
    obtain ⟨d0, d1, d2, d4⟩ := HC.out w (Below.refl _ _)
    have HO : ∀ W : World, Hid ((W.alloc (.cells #[.string xo, .int .i64 xt] 40)).ownsRow W.heap.size 40 2 (.slice (some ⟨W.heap.size, 0, none⟩) 1 1) 1 [.string xo, .int .i64 xt]) := fun W => ⟨rfl, .inr ⟨W.heap.size, 1, #[.string xo, .int .i64 xt], rfl, Nat.le_refl _, heap_alloc_new W _, Nat.le_refl _, by unfold maxLen; omega, rfl, rfl⟩⟩
    rcases hnd with ⟨e1, e2, e3⟩ | ⟨e1, j, e2, e3, e4⟩ | ⟨e1, e1', j, k, e2, e2', e3, e3', e4⟩
    · simp only at e1 e3
      subst e1
      rw [e3]
      clear e2 e3 IH HA
      go_enter Tryd.func13, Tryd.ntmps13
      go_wp2
      obtain ⟨d0, d1, d2, d4⟩ := HC.out _ HBD.out
      have HB : Hid (Below w.heap.size w (w.drew.alloc (.cells #[.string xo, .int .i64 xt] 40))) := HBD.out.alloc (Nat.le_refl _) _
      obtain ⟨f0, f1, f2, f4⟩ := HC.out ((w.alloc (.cells #[.string xo, .int .i64 xt] 40)).drew) HB.out
      go_region_held3 (fun W => W.cell? ⟨(ad.add (i * 6)).block, (ad.add (i * 6)).off + 1, none⟩ = some (.string xo) ∧ W.cell? ⟨(ad.add (i * 6)).block, (ad.add (i * 6)).off + 2, none⟩ = some (.int .i64 xt)) (go_keep) (fail)
      go_wp2
      go_ret
      exact ⟨_, rfl, (HO w.drew).out, HB.out⟩
    · simp only at e1 e3 e4
      subst e1
      subst e3
      rw [e4]
      have hpos := stepsF_pos (T.getD j tD)
      have hln := HLN.out j e2
      have HPOS := Lib.hid hpos
      have HLEN := Lib.hid hln
      have IJ := Lib.hid (fun W hW => IH.out j e2 W hW)
      have HCS : Hid (stepsF (FT.wrap xo xt (T.getD j tD)) = (xo, xt) :: stepsF (T.getD j tD)) := rfl
      rw [HCS.out]
      clear hpos hln HLN IH HCS e4
      generalize stepsF (T.getD j tD) = cs at *
      go_enter Tryd.func13, Tryd.ntmps13
      go_wp2
      obtain ⟨d0, d1, d2, d4⟩ := HC.out _ HBD.out
      have HB : Hid (Below w.heap.size w (w.drew.alloc (.cells #[.string xo, .int .i64 xt] 40))) := HBD.out.alloc (Nat.le_refl _) _
      obtain ⟨f0, f1, f2, f4⟩ := HC.out ((w.alloc (.cells #[.string xo, .int .i64 xt] 40)).drew) HB.out
      go_region_held3 (fun W => W.cell? ⟨(ad.add (i * 6)).block, (ad.add (i * 6)).off + 1, none⟩ = some (.string xo) ∧ W.cell? ⟨(ad.add (i * 6)).block, (ad.add (i * 6)).off + 2, none⟩ = some (.int .i64 xt)) (go_keep) (fail)
      have hO1 := (HO w.drew).out
      go_wp2_with fail
      refine (IJ.out _ ((HA.out.below HB.out).mono HB.out.size)).mono ?_
      rintro e w1 ⟨v, rfl, ho, hb⟩
      have HO1 : Hid (w1.ownsRow w.heap.size 40 2 (.slice (some ⟨w.heap.size, 0, none⟩) 1 1) [(xo, xt)].length (litS [(xo, xt)])) := own_below2 hO1 hb
      have HO2 := Lib.hid (ownsS_mono ho HB.out.size)
      have HB1 := Lib.hid (HB.out.trans (hb.mono HB.out.size))
      clear ho hb hO1
      go_wp2_with (refine app_steps rfl (.tmp 47) (.tmp 54) rfl _ _ [(xo, xt)] cs rfl rfl HO1.out HO2.out HPOS.out HB1.out.size (by have := HLEN.out; simp; omega) ?_; intro v3 w3 ho3 hb3; have HO3 := Lib.hid ho3; have HB3 := Lib.hid (HB1.out.trans hb3); clear ho3 hb3)
      go_ret
      exact ⟨_, rfl, HO3.out, HB3.out⟩
    · simp only at e1 e1' e3 e4
      subst e3
      rw [e4]
      have f0 : (xd != 0) = true := by simpa using e1
      have f1 : (xd != 1) = true := by simpa using e1'
      have f0' : (xd == 0) = false := by simpa using e1
      have f1' : (xd == 1) = false := by simpa using e1'
      go_enter Tryd.func13, Tryd.ntmps13
      go_wp2_with fail
      refine (IH.out j e2 _ HA.out).mono ?_
      rintro e w1 ⟨v, rfl, ho, hb⟩
      have HO := Lib.hid ho
      have HB := Lib.hid hb
      clear ho hb
      go_wp2
      go_ret
      exact ⟨v, rfl, HO.out, HB.out⟩
/-- what play gives, for the law of wraps -/
theorem play_out2 {B : Nat} {W w : World} {vm vn vp : Value} {T : List FT} {bs : List Nat} {N : List Nd} {P : List Int} (h : PL B W vm vn vp T bs N P w) (hf : Fit T N P) (hl : bs.length = T.length) (h12 : T.length ≤ 12) (hG : G4 w) :
    ∃ (M : Nat) (Am : Option Addr) (cm : Nat) (An : Option Addr) (cn : Nat) (b : Nat → Nat), vm = .slice Am M cm ∧ vn = .slice An M cn ∧ M ≤ 12 ∧
      (∀ i, i < M → ∃ ad, Am = some ad ∧ ∀ W', Below w.heap.size w W' → W'.cell? (ad.add i) = some (ptr (b i) 0)) ∧
      (∀ i W', i < M → Below w.heap.size w W' → IsFault W' (T.getD i tD) (b i)) ∧
      (∀ i, i < M → size (T.getD i tD) ≤ 100000) ∧
      (∀ i W', i < M → Below w.heap.size w W' → Calls Tryd.prog 13 #[.slice An M cn, .int .i64 i] W' (GivesS (stepsF (T.getD i tD)) W')) := by
  have hsz : ∀ i, i < T.length → size (T.getD i tD) ≤ 100000 := fun i hi => by
    have h1 := (hf.2.2.2.1 i hi).1
    have h2 := two_pow_12 (show i < 12 by omega)
    omega
  obtain ⟨An, cn, rfl, hN⟩ := own_liesN h.2.1
  obtain ⟨Am, cm, rfl⟩ := pc_shape h.1
  have hB := h.1
  have hF := h.2.2.2.1
  refine ⟨T.length, Am, cm, An, cn, fun i => bs.getD i 0, by rw [hl], by rw [hf.1], h12, fun i hi => ?_, fun i W' hi hb => (hF i hi).below hb, hsz, fun i W' hi hb => ?_⟩
  · obtain ⟨g, c, e, hg, hcell⟩ := own_in hB (by omega)
    simp only [Value.slice.injEq] at e
    refine ⟨⟨g, 0, none⟩, e.1, fun W' hb => (hb.cell (by rw [add_block]; exact hg)).trans (hcell i _ (litB_get bs i (by omega)))⟩
  · exact ref_steps (fun i hi => (hf.2.2.1 i hi).1) hsz An cn T.length rfl hf.1 (i + 1) i (by omega) hi W' ((hN.below hb).mono hb.size)
end Go.Proofs.YtndofhcnjmbfeaaDoor
