import Derived.Test.YtehekdahlnpldaaPickL

/-! Layer 7: picking, Back. -/
namespace Go.Proofs.Ytehekdahlnpldaa
open Go.RowKit Go.Maps
set_option linter.unusedVariables false
set_option linter.unusedSimpArgs false

/-- room for so many numbers, none there yet -/
theorem make_none {B : Nat} {wr : World} {ops : Array Oper} {rest : List Oper} {o : Oper} {a : Act} {Q : Exit → Act → World → Prop} (hgd : o.guard = none) (l c : Operand)
    (ho : o.op = Op.makeSlice 24 l c) (n : Nat) (hl : a.eval l = .int .i64 0) (hc : a.eval c = .int .i64 n) (hn : n ≤ 100000000) (hB : B ≤ wr.heap.size)
    (h : ∀ w', w'.ownsRow B 3 1 (.slice (some ⟨wr.heap.size, 0, none⟩) 0 n) 0 [] → Below wr.heap.size wr w' → wpList Try.prog ops Q rest (a.put o.dst (.slice (some ⟨wr.heap.size, 0, none⟩) 0 n)) w') :
    wpList Try.prog ops Q (o :: rest) a wr := by
  obtain ⟨i0, hi, hz0, hz1, hz2⟩ := info_parts infoI
  refine wpList_make_own wr hgd l c 24 ho B 3 i0 (.int .i64 0) 1 Try.underlying24 hi hz0 hz1 .i64 .i64 n n hl hc rfl (by rw [hz2]; omega) (by unfold maxLen; omega) hB ?_
  intro w' h1 h2
  exact h w' h1 ((Below.refl _ _).grown h2 (Nat.le_refl _) (fun k hk => by cases hk))
theorem own_turned {w w' : World} {B : Nat} {v : Value} {n : Nat} {xs : List Value} {b : Nat} (h : w.ownsRow B 3 1 v n xs) (ht : w.mapTurned w' b) (hb : b < B) : w'.ownsRow B 3 1 v n xs := by
  refine h.kept ht.grown ?_
  rcases h.2 with ⟨rfl, _⟩ | ⟨g', cap, cur, rfl, hg, _⟩
  · exact .inl rfl
  · refine .inr fun e => ?_
    simp only [Value.ownBlock, Option.some.injEq] at e
    omega
theorem turned_size {w w' : World} {b : Nat} (h : w.mapTurned w' b) : w.heap.size ≤ w'.heap.size := h.grown.size
/-- the last number of a row of the call's own -/
theorem own_last {w : World} {B : Nat} {v : Value} {acc : List Int} {x : Int} {k : Nat} (h : w.ownsRow B 3 1 v (acc ++ [x]).length (litI (acc ++ [x]))) (hk : acc.length = k) :
    ∃ g c, v = .slice (some ⟨g, 0, none⟩) (k + 1) c ∧ w.cell? ⟨g, k, none⟩ = some (.int .i64 x) ∧ (k : Int) < ((k + 1 : Nat) : Int) := by
  obtain ⟨g, c, e, hB, hc, hO⟩ := own_to h (by simp)
  refine ⟨g, c, by rw [e, List.length_append, List.length_singleton, hk], ?_, by omega⟩
  have := hO.cell (k := k) (by simp; omega)
  rw [this]
  subst hk
  simp [List.getD]
set_option maxRecDepth 100000 in
set_option maxHeartbeats 4000000 in
theorem pick_picking (A : Option Addr) (s : List Int) (c N : Nat) (w : World) (hA : Lies w w.heap.size A s) (hN : N ≤ 256) (hok : bckOk s N) (hs : ∀ x ∈ s, 0 ≤ x ∧ x < N) (hl : s.length ≤ N) :
    Calls Try.prog 64 #[.slice A s.length c] w (GivesN (bckV s) w) := by
  have HA := Lib.hid (fun W (h : Below w.heap.size w W) => hA.below h)
  have HX := Lib.hid (fun k (h : k < s.length) => hs _ (mem_getD h))
  have HG := Lib.hid (fun k (h : k < s.length) => hok k h)
  have HF := Lib.hid (fun k (h : k < s.length) => bck_range (s := s) (n := N) k (fun j hj => hok j (by omega)))
  have HINV := Lib.hid (fun k => bck_inv s k)
  have HST1 : Hid (∀ k, (bck s (k + 1)).1 = swp (bck s k).1 k ((bck s k).2 (s.getD k 0))) := fun k => rfl
  have HST2 : Hid (∀ k, (bck s (k + 1)).2 = swp (bck s k).2 (s.getD k 0) ((bck s k).1 k)) := fun k => rfl
  have HP : Hid (∀ k, bckP s k = (bck s k).2 (s.getD k 0) - k) := fun k => rfl
  have HALL := Lib.hid (bckF_all s)
  clear hA hok hs
  generalize hM : s.length = M at *
  have HM := Lib.hid hM
  clear hM
  have hmm := @run_makeMap Try.prog
  have gM : (M : Int) ≤ 256 := by omega
  have m1 := World.ownsMap_made w Try.prog 3 (plainElem (H := Unit) Try.prog 3)
  have M1 : Hid (IMap (w.alloc (.map #[] 0)) w.heap.size 0 (fun x => x)) := ⟨_, m1, vw_nil⟩
  have m2 := World.ownsMap_made (w.alloc (.map #[] 0)) Try.prog 3 (plainElem (H := Unit) Try.prog 3)
  simp only [alloc_size'] at m2
  have M2 : Hid (IMap ((w.alloc (.map #[] 0)).alloc (.map #[] 0)) (w.heap.size + 1) 0 (fun x => x)) := ⟨_, m2, vw_nil⟩
  have M1b : Hid (IMap ((w.alloc (.map #[] 0)).alloc (.map #[] 0)) w.heap.size 0 (fun x => x)) := M1.out.below ((Below.refl _ _).alloc (Nat.le_refl _) _) M1.out.lt
  have B2 : Hid (Below w.heap.size w ((w.alloc (.map #[] 0)).alloc (.map #[] 0))) := (((Below.refl _ w).alloc (Nat.le_refl _) _).alloc (by simp) _)
  have S2 : Hid (((w.alloc (.map #[] 0)).alloc (.map #[] 0)).heap.size = w.heap.size + 2) := by show _ = _; simp
  clear m1 m2 M1
  go_enter Try.func64, Try.ntmps64
  go_wp2_with (at_make; refine make_none (B := w.heap.size + 2) rfl (.const (.int .i64 0)) (.tmp 11) rfl M rfl rfl (by omega) (by rw [S2.out]; exact Nat.le_refl _) ?_; intro w1 ho1 hb1)
  have HO1 : Hid (w1.ownsRow (w.heap.size + 2) 3 1 (.slice (some ⟨((w.alloc (.map #[] 0)).alloc (.map #[] 0)).heap.size, 0, none⟩) 0 M) ([] : List Int).length (litI [])) := ho1
  have HM1 : Hid (IMap w1 w.heap.size 0 (fun x => x)) := M1b.out.below hb1 M1b.out.lt
  have HM2 : Hid (IMap w1 (w.heap.size + 1) 0 (fun x => x)) := M2.out.below hb1 M2.out.lt
  have HB1 : Hid (Below w.heap.size w w1) := B2.out.trans (hb1.mono B2.out.size)
  have HZ1 : Hid (w.heap.size + 2 ≤ w1.heap.size) := by show _ ≤ _; rw [← S2.out]; exact hb1.size
  simp only [alloc_size'] at HO1
  clear ho1 hb1
  go_wp2
  go_loopw [5, 15] (fun pv i wr => ∃ (k : Nat) (acc : List Int), k ≤ M ∧ i = .int .i64 k ∧ Hid (acc = bckF s k) ∧ Hid (wr.ownsRow (w.heap.size + 2) 3 1 pv acc.length (litI acc)) ∧ Hid (IMap wr w.heap.size (2 * k) (bck s k).1) ∧ Hid (IMap wr (w.heap.size + 1) (2 * k) (bck s k).2) ∧ Hid (Below w.heap.size w wr) ∧ Hid (w.heap.size + 2 ≤ wr.heap.size)) (fun _ i _ => M - (intOf i).toNat)
  case atStart => exact ⟨0, [], by omega, rfl, rfl, HO1.out, HM1.out, HM2.out, HB1.out, HZ1.out⟩
  case round =>
    obtain ⟨k, acc, hk, rfl, HL, HR, HI1, HI2, HB, HZ⟩ := hrel
    by_cases hlt : k < M
    · have hlg : (k : Int) < (M : Int) := by omega
      obtain ⟨ad, rfl, hab, hcell⟩ := (HA.out wr HB.out).at (k := k) (by have := HM.out; omega)
      have hx := HX.out k hlt
      have hg := HG.out k hlt
      have hfk := HF.out k hlt k (by omega) (by omega)
      have hfx : (bck s k).1 ((bck s k).2 (s.getD k 0)) = s.getD k 0 := (HINV.out k).2 _
      have hgf : (bck s k).2 ((bck s k).1 k) = k := (HINV.out k).1 _
      have H1 := Lib.hid (HST1.out k)
      have H2 := Lib.hid (HST2.out k)
      have HPk := Lib.hid (HP.out k)
      have HSN := Lib.hid (bckF_succ s k)
      have KA2 := Lib.hid (list_at (w.heap.size + 1) (2 * k) (bck s k).2 (s.getD k 0) wr HI2.out (by unfold I64; omega))
      have KA1 := Lib.hid (fun W (h : IMap W w.heap.size (2 * k) (bck s k).1) => list_at w.heap.size (2 * k) (bck s k).1 k W h (by unfold I64; omega))
      have KE2 := Lib.hid (fun W (h : IMap W (w.heap.size + 1) (2 * k) (bck s k).2) => list_exchange (w.heap.size + 1) (2 * k) (bck s k).2 (s.getD k 0) ((bck s k).1 k) W h (by unfold I64; omega) (by unfold I64; omega) (by unfold I64; omega) (by rw [hgf]; unfold I64; omega) (by omega))
      have KE1 : Hid (∀ W (h : IMap W w.heap.size (2 * k) (bck s k).1), Calls Try.prog 99 #[.map (some w.heap.size), .int .i64 k, .int .i64 ((k : Int) + ((bck s k).2 (s.getD k 0) - (k : Int)))] W fun e w' => e = .returned (.tuple #[]) ∧ IMap w' w.heap.size (2 * k + 2) (swp (bck s k).1 k ((bck s k).2 (s.getD k 0))) ∧ W.mapTurned w' w.heap.size) := fun W h => by
        rw [show (k : Int) + ((bck s k).2 (s.getD k 0) - (k : Int)) = (bck s k).2 (s.getD k 0) from by omega]
        exact list_exchange w.heap.size (2 * k) (bck s k).1 k ((bck s k).2 (s.getD k 0)) W h (by unfold I64; omega) (by unfold I64; omega) (by unfold I64; omega) (by rw [hfx]; unfold I64; omega) (by omega)
      generalize hs1 : swp (bck s k).1 k ((bck s k).2 (s.getD k 0)) = F1 at *
      generalize hs2 : swp (bck s k).2 (s.getD k 0) ((bck s k).1 k) = G1 at *
      clear hs1 hs2 hfx hgf
      have HI1' := Lib.hid HI1.out
      have HI2' := Lib.hid HI2.out
      clear HI1 HI2
      generalize (bck s k).2 (s.getD k 0) = gx at *
      generalize s.getD k 0 = x at *
      generalize (bck s k).1 (k : Int) = y at *
      have hll : acc.length + 1 ≤ 1000000000 := by rw [HL.out, bckF_len]; omega
      have HLK : Hid (acc.length = k) := by show _ = _; rw [HL.out, bckF_len]
      have hsz := HZ.out
      go_wp2_with fail
      refine KA2.out.mono ?_
      rintro e1 w2 ⟨rfl, rfl⟩
      go_wp2_with (first | (at_builtin; refine app_int rfl (.tmp 20) (.tmp 26) rfl _ acc (gx - (k : Int)) rfl HR.out rfl hsz hll ?_; intro v' w4 hown4 hb4 _; obtain ⟨g4, c4, rfl, _, hk4⟩ := own_last hown4 HLK.out) | fail)
      have HR4 := Lib.hid hown4
      have HI4 := Lib.hid (HI1'.out.below hb4 (by omega))
      have HJ4 := Lib.hid (HI2'.out.below hb4 (by omega))
      have HB4 := Lib.hid (HB.out.trans (hb4.mono (by omega)))
      have HZ4 := Lib.hid (Nat.le_trans hsz hb4.size)
      clear hown4 hb4
      refine (KA1.out _ HI4.out).mono ?_
      rintro e1 w2 ⟨rfl, rfl⟩
      go_wp2_with fail
      refine (KE2.out _ HJ4.out).mono ?_
      rintro e1 w5 ⟨rfl, i5, t5⟩
      have HR5 := Lib.hid (own_turned HR4.out t5 (by omega))
      have HI5 := Lib.hid (HI4.out.turned t5 (by omega))
      have HJ5 := Lib.hid i5
      have HB5 := Lib.hid (HB4.out.trans (below_turned t5 (by omega)))
      have HZ5 := Lib.hid (Nat.le_trans HZ4.out (turned_size t5))
      clear i5 t5
      obtain ⟨g5, c5, e5, hc5, hk5⟩ := own_last HR5.out HLK.out
      cases e5
      go_wp2_with fail
      refine (KE1.out _ HI5.out).mono ?_
      rintro e1 w6 ⟨rfl, i6, t6⟩
      have HR6 := Lib.hid (own_turned HR5.out t6 (by omega))
      have HJ6 := Lib.hid (HJ5.out.turned t6 (by omega))
      have HI6 := Lib.hid i6
      have HB6 := Lib.hid (HB5.out.trans (below_turned t6 (Nat.le_refl _)))
      have HZ6 := Lib.hid (Nat.le_trans HZ5.out (turned_size t6))
      clear i6 t6
      go_wp2
      refine ⟨⟨k + 1, acc ++ [gx - (k : Int)], by omega, by go_num, ?_, HR6.out, ?_, ?_, HB6.out, HZ6.out⟩, by first | (simp [intOf]; done) | (simp [intOf]; omega)⟩
      · show _ = _
        rw [HSN.out, HL.out, HPk.out]
      · show IMap _ _ _ _
        rw [H1.out]; exact HI6.out
      · show IMap _ _ _ _
        rw [H2.out]; exact HJ6.out
    · obtain rfl : k = M := by omega
      have ho := HR.out
      have hl1 := HL.out
      obtain ⟨A1, c2, rfl, g1, g2, g3⟩ := lies_ownI ho
      have HNW : Hid (New w A1) := new_of_own ho (by omega)
      have HLL := Lib.hid g3
      have HAC : Hid (bckV s = acc) := by show _ = _; rw [HALL.out, hl1]
      have hll : acc.length = k := by rw [hl1, bckF_len]
      rw [hll] at g1
      clear ho hl1 g3
      have HLE := Lib.hid hll
      rw [hll]
      clear hll
      go_wp2
      go_ret
      rw [HAC.out]
      exact ⟨A1, c2, by rw [HLE.out]; rfl, by rw [HLE.out]; exact g1, g2, HLL.out, HNW.out, HB.out⟩
end Go.Proofs.Ytehekdahlnpldaa
