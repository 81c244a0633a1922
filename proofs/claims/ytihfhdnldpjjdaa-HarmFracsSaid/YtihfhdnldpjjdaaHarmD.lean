import Derived.Test.YtihfhdnldpjjdaaHarmC

/-! Tables: rows of numbers of the call's own; harm.Table, the reference's Table and Same. -/
namespace Go.Proofs.Ytihfhdnldpjjdaa
open Go.RowKit
set_option linter.unusedVariables false
set_option linter.unusedSimpArgs false

theorem own_ne {w : World} {base : Nat} {v : Value} {n g : Nat} {xs : List Value} {cs : Array Value} {T : TypeId} (h : w.ownsRow base 3 1 v n xs) (hx : Box w g cs T) (hT : T ≠ 3) : v.ownBlock ≠ some g := by
  rcases h.2 with ⟨rfl, _⟩ | ⟨g', cap, cur, rfl, _, hh, _⟩
  · simp [Value.ownBlock]
  · simp only [Value.ownBlock, ne_eq, Option.some.injEq]
    rintro rfl
    unfold Box at hx
    rw [hh] at hx
    simp at hx
    exact hT hx.2.symm
/-- one number more onto a list of the call's own; other blocks stay -/
theorem app_int2 {B : Nat} {wr : World} {ops : Array Oper} {rest : List Oper} {o : Oper} {a : Act} {Q : Exit → Act → World → Prop} (hgd : o.guard = none) (s x : Operand)
    (ho : o.op = .call { callee := .builtin .append, args := #[s, x], argTypes := #[26, 26] })
    (v : Value) (l : List Int) (d : Int) (hs : a.eval s = v) (hown : wr.ownsRow B 3 1 v l.length (lits l)) (hx : a.eval x = .slice (some ⟨wr.heap.size, 0, none⟩) 1 1)
    (hB : B ≤ wr.heap.size) (hn : l.length + 1 ≤ 1000000000)
    (h : ∀ v' w', w'.ownsRow B 3 1 v' (l ++ [d]).length (lits (l ++ [d])) → Below B wr w' → (∀ (g : Nat) (cs : Array Value) (T : TypeId), T ≠ 3 → Box wr g cs T → Box w' g cs T) → wpList Try.prog ops Q rest (a.put o.dst v') w') :
    wpList Try.prog ops Q (o :: rest) a (wr.alloc (.cells #[.int .i64 d] 3)) := by
  obtain ⟨i0, hi, hz0, hz1, hz2⟩ := info_parts info_int
  refine wpList_append_own _ hgd s x 26 ho B 3 i0 (.int .i64 0) 1 8 Try.underlying26 hi hz0 hz1 hz2 rfl (by decide) v l.length (lits l) hs (hown.alloc _) ⟨wr.heap.size, 0, none⟩ 1 1 [.int .i64 d] hx rfl ?_ ?_ ?_ ?_ ?_ ?_
  · intro j u hj
    cases j with
    | zero =>
      simp only [List.getElem?_cons_zero] at hj
      rw [← hj]
      exact cell_of_row _ _ 0 _ _ (0, 0) (heap_alloc_new wr _)
    | succ j => simp at hj
  · intro u hu; rw [List.mem_singleton.1 hu]; rfl
  · unfold maxLen; omega
  · omega
  · simp; omega
  · intro v' w' h1 h2 _
    refine h v' w' ?_ ?_ ?_
    · rw [List.length_append, ← lits_snoc]; exact h1
    · refine ((Below.refl _ _).alloc hB _).grown h2 (by simp; omega) fun k hk => ?_
      rcases hown.2 with ⟨rfl, _⟩ | ⟨g, cap, cur, rfl, hg, _⟩
      · simp [Value.ownBlock] at hk
      · simp only [Value.ownBlock, Option.some.injEq] at hk; omega
    · intro g cs T hT hb
      have hb2 := hb.alloc (.cells #[.int .i64 d] 3)
      exact (h2.block g hb2.lt (fun e => own_ne (hown.alloc (.cells #[.int .i64 d] 3)) hb2 hT e.symm)).trans hb2
theorem own_one (w : World) (d : Int) (B : Nat) (hB : B ≤ w.heap.size) : (w.alloc (.cells #[.int .i64 d] 3)).ownsRow B 3 1 (.slice (some ⟨w.heap.size, 0, none⟩) 1 1) ([d] : List Int).length (lits [d]) :=
  ⟨by simp [lits], .inr ⟨w.heap.size, 1, #[.int .i64 d], rfl, hB, heap_alloc_new w _, Nat.le_refl _, by unfold maxLen; omega, rfl, by simp [lits]⟩⟩
/-- what lies between, of 0, of 1, and so on, k of them -/
def tabL (k : Nat) : List Int := (List.range k).map normN
theorem tabL_s (k : Nat) : tabL (k + 1) = tabL k ++ [normN k] := by unfold tabL; rw [List.range_succ, List.map_append]; rfl
theorem tabL_len (k : Nat) : (tabL k).length = k := by simp [tabL]
/-- it gives a row of these numbers, of the call's own -/
def GivesL (l : List Int) (w : World) (e : Ending) (w' : World) : Prop := ∃ A c, e = .returned (.slice A l.length c) ∧ Lies w' w'.heap.size A l ∧ Below w.heap.size w w'
set_option maxHeartbeats 1000000 in
theorem ref5_table (n : Int) (w : World) : Calls Try.prog 21 #[.int .i64 n] w (GivesL (tabL (heldN n + 1)) w) := by
  have KH := Lib.hid (ref5_held n)
  have hH := heldN_le n
  generalize heldN n = H at *
  go_enter Try.func21, Try.ntmps21
  go_wp2
  go_loopw [3, 4] (fun lv kv wr => ∃ (j : Nat) (l : List Int), j ≤ H + 1 ∧ kv = .int .i64 j ∧ Hid (l = tabL j) ∧ Hid (l.length = j) ∧ wr.ownsRow w.heap.size 3 1 lv l.length (lits l) ∧ Below w.heap.size w wr) (fun _ k _ => H + 1 - (intOf k).toNat)
  case atStart => exact ⟨0, [], by omega, rfl, rfl, rfl, ⟨by simp [lits], .inl ⟨rfl, rfl⟩⟩, Below.refl _ _⟩
  case round =>
    obtain ⟨j, l, hj, rfl, HL, HN, hown, hb⟩ := hrel
    have hbs := hb.size
    by_cases hlt : j < H + 1
    · have KN := Lib.hid (ref5_norm j)
      rw [show heldN (j : Int) = j from by unfold heldN; split <;> (try split) <;> omega] at KN
      have HL' : Hid (l ++ [normN j] = tabL (j + 1)) := by show _ = _; rw [tabL_s, HL.out]
      have HN' : Hid ((l ++ [normN j]).length = j + 1) := by show _ = _; rw [List.length_append, HN.out]; rfl
      generalize normN j = z at *
      have hle : ¬ H < j := by omega
      go_wp2_with fail
      refine (KH.out _).mono ?_
      rintro e w1 ⟨rfl, rfl⟩
      go_wp2_with fail
      refine (KN.out _).mono ?_
      rintro e w2 ⟨rfl, m, rfl⟩
      have hown2 := owns_drewN hown m
      have hb2 := below_drewH hb m
      have hbs2 := hb2.size
      generalize wr.drewN m = w2 at *
      go_wp2_with (at_builtin; refine app_int2 (wr := w2) rfl (.tmp 11) (.tmp 14) rfl _ l z rfl hown2 rfl hbs2 (by have := HN.out; omega) ?_; intro v' w3 hown' hb3 _)
      exact ⟨⟨j + 1, _, by omega, by go_num, HL', HN', hown', hb2.trans hb3⟩, by simp [intOf]; omega⟩
    · obtain rfl : j = H + 1 := by omega
      go_wp2_with fail
      refine (KH.out _).mono ?_
      rintro e w1 ⟨rfl, rfl⟩
      go_wp2
      go_ret
      obtain ⟨A, c, rfl, _, _, hL⟩ := lies_own hown
      rw [HL.out] at hL ⊢
      exact ⟨A, c, rfl, hL, hb⟩
theorem own_below {w w' : World} {base : Nat} {v : Value} {n : Nat} {xs : List Value} {e : TypeId} (h : w.ownsRow base e 1 v n xs) (hb : Below w.heap.size w w') : w'.ownsRow base e 1 v n xs := by
  refine h.kept ⟨hb.os, hb.tape, hb.output, hb.size, fun k hk _ => hb.block k hk⟩ (row := none) ?_
  rcases h.2 with ⟨rfl, _⟩ | ⟨g, cap, cur, rfl, _⟩ <;> simp [Value.ownBlock]
theorem own_off {w : World} {base : Nat} {v : Value} {n : Nat} {xs : List Value} {e : TypeId} (h : w.ownsRow base e 1 v n xs) {p : Addr} (hp : v.ownBlock ≠ some p.block) (u : Value) : (w.setCell p u).ownsRow base e 1 v n xs := by
  rcases h with ⟨h1, ⟨rfl, h2⟩ | ⟨g, cap, cur, rfl, hb, hh, hr⟩⟩
  · exact ⟨h1, .inl ⟨rfl, h2⟩⟩
  · refine ⟨h1, .inr ⟨g, cap, cur, rfl, hb, ?_, hr⟩⟩
    have hx : Box w g cur e := hh
    exact hx.off (fun e2 => hp (by rw [e2]; rfl)) u
theorem keeps_one {B : Nat} {W w w' : World} {x : Nat × Array Value × TypeId} (h : Keeps B W [x] w) (hb : Below B w w') (hx : Box w' x.1 x.2.1 x.2.2) : Keeps B W [x] w' :=
  ⟨fun y hy => by rw [List.mem_singleton.1 hy]; exact hx, h.2.1.trans hb, Nat.le_trans h.2.2 hb.size⟩
set_option maxHeartbeats 2000000 in
theorem harm_table (n : Int) (w : World) : Calls Try.prog 20 #[.int .i64 n] w (GivesL (tabL (heldN n + 1)) w) := by
  have KH := Lib.hid (harm_held n)
  have hH := heldN_le n
  generalize heldN n = H at *
  go_enter Try.func20, Try.ntmps20
  go_wp2_with fail
  refine (KH.out _).mono ?_
  rintro e w1 ⟨rfl, rfl⟩
  go_wp2
  have J0 := Lib.hid ((((Keeps.start w).alloc #[.int .i64 0] 3).alloc #[.int .i64 0, .int .i64 0] 62))
  simp only [alloc_size'] at J0
  go_loopw [3, 5, 9] (fun lv u iv wr => ∃ (j : Nat) (l : List Int), j ≤ H ∧ iv = .int .i64 j ∧ Hid (l = tabL (j + 1)) ∧ Hid (l.length = j + 1) ∧ wr.ownsRow w.heap.size 3 1 lv l.length (lits l) ∧ Hid (Keeps w.heap.size w [(w.heap.size + 1, #[.int .i64 (lowN j), .int .i64 (highN j)], 62)] wr)) (fun _ _ k _ => H - (intOf k).toNat)
  case atStart =>
    refine ⟨0, [0], by omega, rfl, (by show _ = _; decide +kernel), rfl, (own_one w 0 w.heap.size (Nat.le_refl _)).alloc _, ?_⟩
    exact ⟨fun x hx => J0.out.1 x (by simp [lowN, highN] at hx; simp [hx]), J0.out.2⟩
  case round =>
    obtain ⟨j, l, hj, rfl, HL, HN, hown, J⟩ := hrel
    by_cases hlt : j < H
    · have KE := Lib.hid (fun W => harm_ends (j + 1) (lowN j) (highN j) W (by omega) (sum_bds (by omega)).1 (sum_bds (by omega)).2 (fun _ => ⟨rfl, rfl⟩))
      have KW := Lib.hid (fun W => harm_with (lowN j) (highN j) j W (sum_bds (by omega)).1 (sum_bds (by omega)).2 (by omega))
      rw [show lowN j + 1073741824 / ((j : Int) + 1) = lowN (j + 1) from rfl, show highN j + -(-1073741824 / ((j : Int) + 1)) = highN (j + 1) from rfl] at KW
      rw [show ((j + 1 : Nat) : Int) = (j : Int) + 1 from rfl] at KE
      have hbd := ends_bd (n := j + 1) (by omega)
      have KM := Lib.hid (fun W => harm_middle (endLo (j + 1)) (endHi (j + 1)) W (by omega) (by omega))
      rw [show (endLo (j + 1) + endHi (j + 1)) / 2 = normN (j + 1) from rfl] at KM
      have HL' : Hid (l ++ [normN (j + 1)] = tabL (j + 1 + 1)) := by show _ = _; rw [tabL_s, HL.out]
      have HN' : Hid ((l ++ [normN (j + 1)]).length = j + 1 + 1) := by show _ = _; rw [List.length_append, HN.out]; rfl
      obtain ⟨s0, s1, s2, s3⟩ := J.out.head.two
      generalize hL1 : lowN (j + 1) = L1 at *
      generalize hH1 : highN (j + 1) = H1 at *
      have HL1 := Lib.hid hL1
      have HH1 := Lib.hid hH1
      clear hL1 hH1
      generalize normN (j + 1) = z at *
      generalize endLo (j + 1) = x at *
      generalize endHi (j + 1) = y at *
      go_wp2_with fail
      refine (KE.out _).mono ?_
      rintro e w2 ⟨rfl, b2⟩
      have J2 := Lib.hid (J.out.below b2)
      have hown2 := own_below hown b2
      go_wp2_with fail
      refine (KM.out _).mono ?_
      rintro e w3 ⟨rfl, rfl⟩
      have hbs2 := J2.out.2.2
      have hT62 : (62 : TypeId) ≠ 3 := by decide
      go_wp2_with (at_builtin; refine app_int2 (wr := w2) rfl (.tmp 12) (.tmp 20) rfl _ l z rfl hown2 rfl hbs2 (by have := HN.out; omega) ?_; intro v' w4 hown' hb4 hbox4; have J4 := keeps_one J2.out hb4 (hbox4 _ _ _ hT62 J2.out.head); obtain ⟨s0, s1, s2, s3⟩ := J4.head.two)
      refine (KW.out _).mono ?_
      rintro e w5 ⟨rfl, b5⟩
      have J5 := J4.below b5
      obtain ⟨t0, t1, t2, t3⟩ := J5.head.two
      have hown5 := own_below hown' b5
      go_wp2
      have J6 := J5.put2 (by omega) (by intro x hx; cases hx) (.int .i64 L1) (.int .i64 H1)
      have hown6 := own_off (own_off hown5 (p := ⟨w.heap.size + 1, 0, none⟩) (own_ne hown5 J5.head hT62) (.int .i64 L1)) (p := ⟨w.heap.size + 1, 1, none⟩) (own_ne hown5 J5.head hT62) (.int .i64 H1)
      exact ⟨⟨j + 1, _, by omega, by go_num, HL', HN', hown6, by rw [HL1.out, HH1.out]; exact J6⟩, by simp [intOf]; omega⟩
    · obtain rfl : j = H := by omega
      go_wp2
      go_ret
      obtain ⟨A, c, rfl, _, _, hL⟩ := lies_own hown
      rw [HL.out] at hL ⊢
      exact ⟨A, c, rfl, hL, J.out.2.1⟩
end Go.Proofs.Ytihfhdnldpjjdaa
