/- RngJ RngK RngL RngM RngN RngO RngP -/
import Derived.Test.YtdcemcpcjdkpjaaRngT
/-! Layer 17 (ring): what of each event is told, in a row of its own. -/
namespace Go.Proofs.Ytdcemcpcjdkpjaa
open Go.RowKit
set_option linter.unusedVariables false
set_option linter.unusedSimpArgs false

theorem len15 {vs : List Value} (h : vs.length = 15) : ∃ y0 y1 y2 y3 y4 y5 y6 y7 y8 y9 y10 y11 y12 y13 y14, vs = [y0, y1, y2, y3, y4, y5, y6, y7, y8, y9, y10, y11, y12, y13, y14] := by
  match vs, h with
  | [y0, y1, y2, y3, y4, y5, y6, y7, y8, y9, y10, y11, y12, y13, y14], _ => exact ⟨_, _, _, _, _, _, _, _, _, _, _, _, _, _, _, rfl⟩
/-- a region whose call number ci gives C, and whose last store, number N, leaves Fin -/
def EachJ (E : List (Option Value)) (W : World) (N ci : Nat) (C : World → Value → Prop) (Fin : World → Prop) (f : Nat → Bool) (vs : List Value) (X : World) : Prop :=
  RegV E f vs ∧ (f N = true → (∀ j, j < N → f j = true) ∧ Fin X) ∧ (f N = false → Below W.heap.size W X ∧ (f ci = true → C X (vs.getD ci undef)))
section
variable {E : List (Option Value)} {W : World} {N ci : Nat} {C : World → Value → Prop} {Fin : World → Prop} {f : Nat → Bool} {vs : List Value} {X : World}
theorem EachJ.before (h : EachJ E W N ci C Fin f vs X) {i : Nat} (hi : i < N) (hf : f i = false) : f N = false := by
  cases e : f N with
  | false => rfl
  | true => rw [(h.2.1 e).1 i hi] at hf; cases hf
theorem EachJ.low (h : EachJ E W N ci C Fin f vs X) {i : Nat} (hi : i ≤ N) (hf : f i = false) : Below W.heap.size W X := by
  rcases Nat.lt_or_ge i N with g | g
  · exact (h.2.2 (h.before g hf)).1
  · obtain rfl : i = N := by omega
    exact (h.2.2 hf).1
theorem EachJ.step (h : EachJ E W N ci C Fin f vs X) {i : Nat} (hi : i < vs.length) (hN : i ≠ N) (hc : i ≠ ci) (v : Value) (hv : ∀ u, E[i]? = some (some u) → v = u) : EachJ E W N ci C Fin (fun j => if j = i then true else f j) (vs.set i v) X := by
  refine ⟨h.1.set hi hv, fun e => ?_, fun e => ?_⟩
  · dsimp only at e
    rw [if_neg (fun g => hN g.symm)] at e
    refine ⟨fun j hj => ?_, (h.2.1 e).2⟩
    by_cases g : j = i
    · simp [g]
    · simp only [if_neg g]; exact (h.2.1 e).1 j hj
  · dsimp only at e ⊢
    rw [if_neg (fun g => hN g.symm)] at e
    refine ⟨(h.2.2 e).1, fun ec => ?_⟩
    rw [if_neg (fun g => hc g.symm)] at ec
    rw [List.getD_eq_getElem?_getD, List.getElem?_set_ne hc, ← List.getD_eq_getElem?_getD]
    exact (h.2.2 e).2 ec
theorem EachJ.world (h : EachJ E W N ci C Fin f vs X) (hN : f N = false) {X' : World} (hb : Below X.heap.size X X') (hC : ∀ v, C X v → C X' v) : EachJ E W N ci C Fin f vs X' := by
  refine ⟨h.1, fun e => (by rw [hN] at e; cases e), fun e => ⟨(h.2.2 e).1.trans (hb.mono (h.2.2 e).1.size), fun ec => hC _ ((h.2.2 e).2 ec)⟩⟩
theorem EachJ.call (h : EachJ E W N ci C Fin f vs X) (hN : f N = false) (hi : ci < vs.length) (hn : ci ≠ N) (v : Value) (hv : ∀ u, E[ci]? = some (some u) → v = u) (hc : C X v) : EachJ E W N ci C Fin (fun j => if j = ci then true else f j) (vs.set ci v) X := by
  refine ⟨h.1.set hi hv, fun e => ?_, fun e => ⟨(h.2.2 hN).1, fun _ => ?_⟩⟩
  · dsimp only at e
    rw [if_neg (fun g => hn g.symm), hN] at e; cases e
  · rw [List.getD_eq_getElem?_getD, List.getElem?_set_self hi]
    exact hc
theorem EachJ.fin (h : EachJ E W N ci C Fin f vs X) (hi : N < vs.length) (ha : ∀ j, j < N → f j = true) (v : Value) (hv : ∀ u, E[N]? = some (some u) → v = u) {X' : World} (hF : Fin X') : EachJ E W N ci C Fin (fun j => if j = N then true else f j) (vs.set N v) X' := by
  refine ⟨h.1.set hi hv, fun _ => ⟨fun j hj => ?_, hF⟩, fun e => ?_⟩
  · have : j ≠ N := by omega
    simp only [if_neg this]; exact ha j hj
  · dsimp only at e
    rw [if_pos rfl] at e; cases e
theorem EachJ.congr {g : Nat → Bool} {n : Nat} (hn : N < n) (hc : ci < n) (hE : E.length ≤ n) (hfg : ∀ k, k < n → f k = g k) (h : EachJ E W N ci C Fin f vs X) : EachJ E W N ci C Fin g vs X := by
  refine ⟨fun j u hj he => h.1 j u ((hfg j (by have := (List.getElem?_eq_some_iff.1 he).1; omega)).trans hj) he, fun e => ?_, fun e => ?_⟩
  · rw [← hfg N hn] at e
    exact ⟨fun j hj => by rw [← hfg j (by omega)]; exact (h.2.1 e).1 j hj, (h.2.1 e).2⟩
  · rw [← hfg N hn] at e
    exact ⟨(h.2.2 e).1, fun ec => (h.2.2 e).2 (by rw [hfg ci hc]; exact ec)⟩
theorem EachJ.start (hb : Below W.heap.size W X) : EachJ E W N ci C Fin (fun _ => false) vs X := ⟨fun j u h => (by cases h), fun e => (by cases e), fun _ => ⟨hb, fun e => (by cases e)⟩⟩
end
/-- an event of the call's own behind W -/
def OwnE (W : World) (m : SN) (X : World) (v : Value) : Prop := ∃ A c, v = .agg #[.int .i64 m.id, .slice A m.x.length c, .int .i64 m.p, .int .i64 m.q, .bool m.s] ∧ (A = none → c = 0) ∧ (0 < m.x.length → ∃ h, A = some ⟨h, 0, none⟩ ∧ W.heap.size ≤ h ∧ OwnI X h m.x)
theorem OwnE.below {W X X' : World} {m : SN} {v : Value} (h : OwnE W m X v) (hb : Below X.heap.size X X') : OwnE W m X' v := by
  obtain ⟨A, c, e, h1, h2⟩ := h
  exact ⟨A, c, e, h1, fun h0 => by obtain ⟨b, e2, h3, h4⟩ := h2 h0; exact ⟨b, e2, h3, h4.below hb h4.lt⟩⟩
/-- a row of events of the call's own, of which the first k are told -/
def OutAt (w : World) (R cnt : Nat) (S : Nat → Int × List Int × Int × Int × Bool) (k : Nat) : Prop :=
  ∃ L : List SN, L.length = cnt ∧ Box w R (snL L).toArray 34 ∧ (∀ j, j < k → sgS (L.getD j sn0) = S j) ∧ ∀ m ∈ L, NX w R m
theorem OutAt.lt {w : World} {R cnt k : Nat} {S : Nat → Int × List Int × Int × Int × Bool} (h : OutAt w R cnt S k) : R < w.heap.size := by obtain ⟨L, -, hb, -⟩ := h; exact hb.lt
theorem OutAt.below {w w' : World} {R cnt k : Nat} {S : Nat → Int × List Int × Int × Int × Bool} (h : OutAt w R cnt S k) (hb : Below w.heap.size w w') : OutAt w' R cnt S k := by
  obtain ⟨L, h1, h2, h3, h4⟩ := h
  exact ⟨L, h1, h2.below hb h2.lt, h3, fun m hm => (h4 m hm).below hb⟩
theorem out_put {wr X : World} {R cnt k : Nat} {S : Nat → Int × List Int × Int × Int × Bool} (h : OutAt wr R cnt S k) (hb : Below wr.heap.size wr X) (hk : k < cnt) {m : SN} {A : Option Addr} {c : Nat} (hm : sgS m = S k) (hl : m.x.length ≤ 1000) (hA : A = none → c = 0)
    (hO : 0 < m.x.length → ∃ b, A = some ⟨b, 0, none⟩ ∧ wr.heap.size ≤ b ∧ OwnI X b m.x) :
    OutAt (((((X.setCell ⟨R, k * 5, none⟩ (.int .i64 m.id)).setCell ⟨R, k * 5 + 1, none⟩ (.slice A m.x.length c)).setCell ⟨R, k * 5 + 2, none⟩ (.int .i64 m.p)).setCell ⟨R, k * 5 + 3, none⟩ (.int .i64 m.q)).setCell ⟨R, k * 5 + 4, none⟩ (.bool m.s)) R cnt S (k + 1) := by
  have hR := h.lt
  obtain ⟨L, h1, h2, h3, h4⟩ := h.below hb
  have off : ∀ {b : Nat} {x : List Int}, OwnI X b x → R ≠ b → OwnI (((((X.setCell ⟨R, k * 5, none⟩ (.int .i64 m.id)).setCell ⟨R, k * 5 + 1, none⟩ (.slice A m.x.length c)).setCell ⟨R, k * 5 + 2, none⟩ (.int .i64 m.p)).setCell ⟨R, k * 5 + 3, none⟩ (.int .i64 m.q)).setCell ⟨R, k * 5 + 4, none⟩ (.bool m.s)) b x := fun ho hne => ((((ho.off (p := ⟨R, k * 5, none⟩) hne _).off (p := ⟨R, k * 5 + 1, none⟩) hne _).off (p := ⟨R, k * 5 + 2, none⟩) hne _).off (p := ⟨R, k * 5 + 3, none⟩) hne _).off (p := ⟨R, k * 5 + 4, none⟩) hne _
  refine ⟨L.set k ⟨m.id, A, c, m.x, m.p, m.q, m.s⟩, by rw [List.length_set]; exact h1, sn_put h2 (by omega) ⟨m.id, A, c, m.x, m.p, m.q, m.s⟩, fun j hj => ?_, fun y hy => ?_⟩
  · by_cases e : j = k
    · subst e
      rw [sn_setD (by omega)]
      exact hm
    · rw [List.getD_eq_getElem?_getD, List.getElem?_set_ne (fun g => e g.symm), ← List.getD_eq_getElem?_getD]
      exact h3 j (by omega)
  · rcases List.mem_or_eq_of_mem_set hy with hy | rfl
    · obtain ⟨g1, g2, g3⟩ := h4 y hy
      exact ⟨g1, g2, fun h0 => by obtain ⟨b, e, hb2, ho⟩ := g3 h0; exact ⟨b, e, hb2, off ho (by omega)⟩⟩
    · exact ⟨hA, hl, fun h0 => by obtain ⟨b, e, hb2, ho⟩ := hO h0; exact ⟨b, e, by omega, off ho (by omega)⟩⟩
end Go.Proofs.Ytdcemcpcjdkpjaa
/-! Layer 17 (ring): each, with own. -/
namespace Go.Proofs.Ytdcemcpcjdkpjaa
open Go.RowKit
set_option linter.unusedVariables false
set_option linter.unusedSimpArgs false

set_option maxRecDepth 100000 in
set_option maxHeartbeats 8000000 in
theorem ring_each_own (B g G n kk : Nat) (S : Nat → Int × List Int × Int × Int × Bool) (w : World) (h : RingAt w B g G n S kk) (hn0 : 0 < n) (hn2 : n ≤ 1000) :
    Calls Try.prog 84 #[.pointer (some ⟨g, 0, none⟩), .func (.func 83) #[] #[]] w fun e w' => e = .returned (.slice (some ⟨w.heap.size, 0, none⟩) (cntK n kk) (cntK n kk)) ∧ OutAt w' w.heap.size (cntK n kk) (fun j => S (kk - cntK n kk + j)) (cntK n kk) ∧ Below w.heap.size w w' := by
  obtain ⟨P, hP, hb, hG, hBG, hgG, hPS, hNX⟩ := h
  have hst : stK n kk ≤ 1000 := by
    unfold stK; split
    · omega
    · have := Nat.mod_lt kk hn0; omega
  have hcn : cntK n kk ≤ n := by unfold cntK; omega
  have hck : cntK n kk ≤ kk := by unfold cntK; omega
  have hck2 : kk ≤ cntK n kk ∨ cntK n kk = n := by unfold cntK; omega
  have HG := Lib.hid (fun X (hX : Below w.heap.size w X) => hb.below hX hb.lt)
  have HGP := Lib.hid (fun X (hX : Below w.heap.size w X) i (hi : i < P.length) => sn_at (hG.below hX hG.lt) hi)
  have HPA := Lib.hid (fun i (hi : i < cntK n kk) => place_at (n := n) (k := kk) hn0 hi)
  have HPS : Hid (∀ k, k < cntK n kk → sgS (P.getD ((kk - cntK n kk + k) % n) sn0) = S (kk - cntK n kk + k)) := fun k hk => hPS _ (by omega) (by omega)
  have HMP := Lib.hid (fun i (hi : i < P.length) => hNX _ (mem_sn hi))
  have KPL := Lib.hid (fun k (hk : k ≤ 1000) X hX => ring_place g G n (stK n kk) (cntK n kk) k X hX hn0 hn2 hst hk)
  have hP' := Lib.hid hP
  have y2 := (hb.cell 2).trans rfl
  have hbl := hb.lt
  clear hP hG hPS hNX
  generalize hcnt : cntK n kk = cnt at *
  clear hcnt
  have hc1000 : cnt ≤ 1000 := by omega
  generalize hST : stK n kk = st at *
  clear hST
  generalize hR : w.heap.size = R at *
  go_enter Try.func84, Try.ntmps84
  go_wp2_with (at_make; refine make_seen rfl (.tmp 10) (.tmp 10) rfl cnt rfl rfl hc1000 ?_; intro w1 hb1 hw1)
  have HO1 : Hid (OutAt w1 R cnt (fun j => S (kk - cnt + j)) 0) := ⟨List.replicate cnt sn0, by simp, (by first | exact hb1 | (rw [← hR]; exact hb1)), fun j hj => absurd hj (by omega), fun m hm => by
    obtain ⟨_, rfl⟩ := List.mem_replicate.1 hm
    exact ⟨fun _ => rfl, by simp [sn0], fun h => absurd h (by simp [sn0])⟩⟩
  have HB1 : Hid (Below R w w1) := (by have h := hw1; rw [hR] at h; exact h)
  clear hb1 hw1 y2
  go_loopw [14] (fun i wr => ∃ k : Nat, k ≤ cnt ∧ i = .int .i64 k ∧ Hid (OutAt wr R cnt (fun j => S (kk - cnt + j)) k) ∧ Hid (Below R w wr)) (fun i _ => cnt - (intOf i).toNat)
  case atStart => exact ⟨0, by omega, rfl, HO1, HB1⟩
  case round =>
    obtain ⟨k, hk, rfl, HO, HB⟩ := hrel
    clear HO1 HB1
    by_cases hkc : k < cnt
    · have hki : (k : Int) < (cnt : Int) := by omega
      obtain ⟨i, hi⟩ : ∃ i, i = (kk - cnt + k) % n := ⟨_, rfl⟩
      have hin : i < n := by rw [hi]; exact Nat.mod_lt _ hn0
      have hing : (i : Int) < (n : Int) := by omega
      have hpl : (st + k) % n = i := by rw [hi]; exact HPA.out k hkc
      have KP := Lib.hid (fun X hX => KPL.out k (by omega) X hX)
      rw [hpl] at KP
      have HSG := Lib.hid (HPS.out k hkc)
      rw [← hi] at HSG
      have HGG := Lib.hid (fun X hX => HGP.out X hX i (by rw [hP'.out]; exact hin))
      have hm := HMP.out i (by rw [hP'.out]; exact hin)
      clear HPS HGP HMP KPL HPA hi hpl
      generalize P.getD i sn0 = m at *
      have HML := Lib.hid hm.2.1
      have KO : Hid (∀ X, Below R w X → Calls Try.prog 83 #[.agg #[.int .i64 m.id, .slice m.a m.x.length m.c, .int .i64 m.p, .int .i64 m.q, .bool m.s]] X fun e w' => ∃ A' c', e = .returned (.agg #[.int .i64 m.id, .slice A' m.x.length c', .int .i64 m.p, .int .i64 m.q, .bool m.s]) ∧ (A' = none → c' = 0) ∧ NewX X w' A' m.x ∧ Below X.heap.size X w') := fun X hX => by
        have hl : Lies X X.heap.size m.a m.x := fun h0 => by
          obtain ⟨b, e, _, ho⟩ := hm.2.2 h0
          have := (ho.below hX (by have := ho.lt; omega)).lies h0
          rw [e]; exact this
        exact ring_own m.id m.p m.q m.s m.a m.x m.c X.heap.size X hl hm.2.1 (Nat.le_refl _)
      clear hm
      have hRw : R ≤ R := Nat.le_refl _
      go_wp2
      refine wp_region_steps (EachJ [some (.slice (some ⟨R, 0, none⟩) cnt cnt), some (.int .i64 (k : Int)), some (.func (.func 83) #[] #[]), some (.pointer (some ⟨g, 0, none⟩)), some (.pointer (some ⟨g, 0, none⟩)), some (.pointer (some ⟨g, 0, none⟩)), some (.slice (some ⟨G, 0, none⟩) n n), some (.pointer (some ⟨g, 0, none⟩)), some (.int .i64 (k : Int)), some (.int .i64 (i : Int)), some (.pointer (some ⟨G, i * 5, none⟩)), some (.agg #[.int .i64 m.id, .slice m.a m.x.length m.c, .int .i64 m.p, .int .i64 m.q, .bool m.s]), none, some (.pointer (some ⟨R, k * 5, none⟩)), none] wr 14 12 (OwnE wr m) (fun X => OutAt X R cnt (fun j => S (kk - cnt + j)) (k + 1) ∧ Below R w X))
        [[], [], [], [], [3], [4], [5], [], [], [7, 8], [6, 9], [10], [2, 11, 9], [0, 1, 0, 1, 2, 3, 4, 5, 6, 7, 8, 9, 10, 11, 12], [13, 12, 12, 0, 1, 2, 3, 4, 5, 6, 7, 8, 9, 10, 11, 12]] (by kernel_rfl) (by kernel_rfl) (by kernel_rfl) (by kernel_rfl) ?_ ?_ ?_ ?_
      · exact fun f g vs X hfg h => EachJ.congr (n := 15) (by omega) (by omega) (by simp) hfg h
      · intro vs _
        exact EachJ.start (below_drewN2 (Below.refl _ _) 1)
      · refine ⟨?_, ?_, ?_, ?_, ?_, ?_, ?_, ?_, ?_, ?_, ?_, ?_, ?_, ?_, ?_, trivial⟩
        all_goals
          intro f vs X hlen hf hp hj K hK
          obtain ⟨y0, y1, y2, y3, y4, y5, y6, y7, y8, y9, y10, y11, y12, y13, y14, rfl⟩ := len15 hlen
          clear hlen
          have HJ := Lib.hid hj
          clear hj
        · rw [if_pos (by rfl)]
          simp only [putAll, Act.put, List.setIfInBounds_toArray, List.set_cons_zero, List.set_cons_succ] at hK ⊢
          go_simp
          refine hK _ X ?_
          exact HJ.out.step (i := 0) (by simp) (by omega) (by omega) _ (fun u hu => by simpa using hu)
        · rw [if_pos (by rfl)]
          simp only [putAll, Act.put, List.setIfInBounds_toArray, List.set_cons_zero, List.set_cons_succ] at hK ⊢
          go_simp
          refine hK _ X ?_
          exact HJ.out.step (i := 1) (by simp) (by omega) (by omega) _ (fun u hu => by simpa using hu)
        · rw [if_pos (by rfl)]
          simp only [putAll, Act.put, List.setIfInBounds_toArray, List.set_cons_zero, List.set_cons_succ] at hK ⊢
          go_simp
          refine hK _ X ?_
          exact HJ.out.step (i := 2) (by simp) (by omega) (by omega) _ (fun u hu => by simpa using hu)
        · rw [if_pos (by rfl)]
          simp only [putAll, Act.put, List.setIfInBounds_toArray, List.set_cons_zero, List.set_cons_succ] at hK ⊢
          go_simp
          refine hK _ X ?_
          exact HJ.out.step (i := 3) (by simp) (by omega) (by omega) _ (fun u hu => by simpa using hu)
        · rw [if_pos (by rfl)]
          simp only [putAll, Act.put, List.setIfInBounds_toArray, List.set_cons_zero, List.set_cons_succ] at hK ⊢
          have e3 : y3 = .pointer (some ⟨g, 0, none⟩) := HJ.out.1 3 _ (hp 3 (by simp)) rfl
          subst e3
          go_simp
          refine hK _ X ?_
          exact HJ.out.step (i := 4) (by simp) (by omega) (by omega) _ (fun u hu => by simpa using hu)
        · rw [if_pos (by rfl)]
          simp only [putAll, Act.put, List.setIfInBounds_toArray, List.set_cons_zero, List.set_cons_succ] at hK ⊢
          have e4 : y4 = .pointer (some ⟨g, 0, none⟩) := HJ.out.1 4 _ (hp 4 (by simp)) rfl
          subst e4
          go_simp
          refine hK _ X ?_
          exact HJ.out.step (i := 5) (by simp) (by omega) (by omega) _ (fun u hu => by simpa using hu)
        · rw [if_pos (by rfl)]
          simp only [putAll, Act.put, List.setIfInBounds_toArray, List.set_cons_zero, List.set_cons_succ] at hK ⊢
          have e5 : y5 = .pointer (some ⟨g, 0, none⟩) := HJ.out.1 5 _ (hp 5 (by simp)) rfl
          subst e5
          have hlow := HJ.out.low (i := 6) (by omega) hf
          have hBw : Below R w X := HB.out.trans (hlow.mono (by have := HB.out.size; omega))
          have b0 := ((HG.out X hBw).cell 0).trans rfl
          go_simp
          refine hK _ X ?_
          exact HJ.out.step (i := 6) (by simp) (by omega) (by omega) _ (fun u hu => by simpa using hu)
        · rw [if_pos (by rfl)]
          simp only [putAll, Act.put, List.setIfInBounds_toArray, List.set_cons_zero, List.set_cons_succ] at hK ⊢
          go_simp
          refine hK _ X ?_
          exact HJ.out.step (i := 7) (by simp) (by omega) (by omega) _ (fun u hu => by simpa using hu)
        · rw [if_pos (by rfl)]
          simp only [putAll, Act.put, List.setIfInBounds_toArray, List.set_cons_zero, List.set_cons_succ] at hK ⊢
          go_simp
          refine hK _ X ?_
          exact HJ.out.step (i := 8) (by simp) (by omega) (by omega) _ (fun u hu => by simpa using hu)
        · rw [if_pos (by rfl)]
          simp only [putAll, Act.put, List.setIfInBounds_toArray, List.set_cons_zero, List.set_cons_succ] at hK ⊢
          have e7 : y7 = .pointer (some ⟨g, 0, none⟩) := HJ.out.1 7 _ (hp 7 (by simp)) rfl
          subst e7
          have e8 : y8 = .int .i64 (k : Int) := HJ.out.1 8 _ (hp 8 (by simp)) rfl
          subst e8
          have hlow := HJ.out.low (i := 9) (by omega) hf
          have hBw : Below R w X := HB.out.trans (hlow.mono (by have := HB.out.size; omega))
          have hN := HJ.out.before (i := 9) (by omega) hf
          go_simp
          refine (KP.out X (HG.out X hBw)).mono ?_
          rintro e w3 ⟨rfl, md, rfl⟩
          refine hK _ _ ?_
          have HJ2 := HJ.out.world hN (below_drewN2 (Below.refl X.heap.size X) md) (fun v hv => hv.below (below_drewN2 (Below.refl _ _) md))
          exact HJ2.step (i := 9) (by simp) (by omega) (by omega) _ (fun u hu => by simpa using hu)
        · rw [if_pos (by rfl)]
          simp only [putAll, Act.put, List.setIfInBounds_toArray, List.set_cons_zero, List.set_cons_succ] at hK ⊢
          have e6 : y6 = .slice (some ⟨G, 0, none⟩) n n := HJ.out.1 6 _ (hp 6 (by simp)) rfl
          subst e6
          have e9 : y9 = .int .i64 (i : Int) := HJ.out.1 9 _ (hp 9 (by simp)) rfl
          subst e9
          go_simp
          refine hK _ X ?_
          exact HJ.out.step (i := 10) (by simp) (by omega) (by omega) _ (fun u hu => by simpa using hu)
        · rw [if_pos (by rfl)]
          simp only [putAll, Act.put, List.setIfInBounds_toArray, List.set_cons_zero, List.set_cons_succ] at hK ⊢
          have e10 : y10 = .pointer (some ⟨G, i * 5, none⟩) := HJ.out.1 10 _ (hp 10 (by simp)) rfl
          subst e10
          have hlow := HJ.out.low (i := 11) (by omega) hf
          have hBw : Below R w X := HB.out.trans (hlow.mono (by have := HB.out.size; omega))
          obtain ⟨b0, b1, b2, b3, b4⟩ := HGG.out X hBw
          go_simp
          refine hK _ X ?_
          exact HJ.out.step (i := 11) (by simp) (by omega) (by omega) _ (fun u hu => by simpa using hu)
        · rw [if_pos (by rfl)]
          simp only [putAll, Act.put, List.setIfInBounds_toArray, List.set_cons_zero, List.set_cons_succ] at hK ⊢
          have e2 : y2 = .func (.func 83) #[] #[] := HJ.out.1 2 _ (hp 2 (by simp)) rfl
          subst e2
          have e11 : y11 = .agg #[.int .i64 m.id, .slice m.a m.x.length m.c, .int .i64 m.p, .int .i64 m.q, .bool m.s] := HJ.out.1 11 _ (hp 11 (by simp)) rfl
          subst e11
          have hlow := HJ.out.low (i := 12) (by omega) hf
          have hBw : Below R w X := HB.out.trans (hlow.mono (by have := HB.out.size; omega))
          have hN := HJ.out.before (i := 12) (by omega) hf
          go_simp
          refine (KO.out X hBw).mono ?_
          rintro e w3 ⟨A', c', rfl, q1, q2, q3⟩
          refine hK _ w3 ?_
          have HJ2 := HJ.out.world hN q3 (fun v hv => hv.below q3)
          refine HJ2.call hN (by simp) (by omega) _ (fun u hu => by simp at hu) ⟨A', c', rfl, q1, fun h0 => ?_⟩
          obtain ⟨b, e, hb, ho⟩ := q2 h0
          exact ⟨b, e, Nat.le_trans hlow.size hb, ho⟩
        · rw [if_pos (by rfl)]
          simp only [putAll, Act.put, List.setIfInBounds_toArray, List.set_cons_zero, List.set_cons_succ] at hK ⊢
          have e0 : y0 = .slice (some ⟨R, 0, none⟩) cnt cnt := HJ.out.1 0 _ (hp 0 (by simp)) rfl
          subst e0
          have e1 : y1 = .int .i64 (k : Int) := HJ.out.1 1 _ (hp 1 (by simp)) rfl
          subst e1
          go_simp
          refine hK _ X ?_
          exact HJ.out.step (i := 13) (by simp) (by omega) (by omega) _ (fun u hu => by simpa using hu)
        · rw [if_pos (by rfl)]
          simp only [putAll, Act.put, List.setIfInBounds_toArray, List.set_cons_zero, List.set_cons_succ] at hK ⊢
          have e13 : y13 = .pointer (some ⟨R, k * 5, none⟩) := HJ.out.1 13 _ (hp 13 (by simp)) rfl
          subst e13
          have hlow := HJ.out.low (i := 14) (by omega) hf
          have hc := (HJ.out.2.2 hf).2 (hp 12 (by simp))
          obtain ⟨A', c', e12, q1, q2⟩ := hc
          have e12 : y12 = .agg #[.int .i64 m.id, .slice A' m.x.length c', .int .i64 m.p, .int .i64 m.q, .bool m.s] := e12
          subst e12
          obtain ⟨L, l1, l2, -, -⟩ := HO.out.below hlow
          have hRX := l2.lt
          obtain ⟨o0, o1, o2, o3, o4⟩ := sn_at l2 (k := k) (by omega)
          have f0 := l2.free (k * 5)
          have f1 := l2.free (k * 5 + 1)
          have f2 := l2.free (k * 5 + 2)
          have f3 := l2.free (k * 5 + 3)
          have f4 := l2.free (k * 5 + 4)
          have HFIN := Lib.hid (out_put HO.out hlow hkc HSG.out HML.out q1 q2)
          have HBX := Lib.hid (HB.out.trans (hlow.mono (by have := HB.out.size; omega)))
          clear l2
          go_simp
          refine hK undef _ ?_
          refine HJ.out.fin (by simp) (fun j hj => hp j ?_) _ (fun u hu => by simp at hu) ⟨HFIN.out, ((((HBX.out.setCell (p := ⟨R, k * 5, none⟩) hRw _).setCell (p := ⟨R, k * 5 + 1, none⟩) hRw _).setCell (p := ⟨R, k * 5 + 2, none⟩) hRw _).setCell (p := ⟨R, k * 5 + 3, none⟩) hRw _).setCell (p := ⟨R, k * 5 + 4, none⟩) hRw _⟩
          have : j = 0 ∨ j = 1 ∨ j = 2 ∨ j = 3 ∨ j = 4 ∨ j = 5 ∨ j = 6 ∨ j = 7 ∨ j = 8 ∨ j = 9 ∨ j = 10 ∨ j = 11 ∨ j = 12 ∨ j = 13 := by omega
          rcases this with rfl | rfl | rfl | rfl | rfl | rfl | rfl | rfl | rfl | rfl | rfl | rfl | rfl | rfl <;> simp
      · intro vs X hl hj
        obtain ⟨y0, y1, y2, y3, y4, y5, y6, y7, y8, y9, y10, y11, y12, y13, y14, rfl⟩ := len15 hl
        obtain ⟨h1, h2⟩ := (hj.2.1 rfl).2
        have H1 := Lib.hid h1
        have H2 := Lib.hid h2
        clear hj h1 h2
        simp only [putAll, Act.put, List.setIfInBounds_toArray, List.set_cons_zero, List.set_cons_succ]
        go_wp2
        exact ⟨⟨k + 1, by omega, by go_num, H1, H2⟩, by first | (simp [intOf]; done) | (simp [intOf]; omega)⟩
    · obtain rfl : k = cnt := by omega
      go_wp2
      go_ret
      exact ⟨rfl, HO.out, HB.out⟩
end Go.Proofs.Ytdcemcpcjdkpjaa
/-! Layer 17 (ring): All, Room, At; nobody's ring. -/
namespace Go.Proofs.Ytdcemcpcjdkpjaa
open Go.RowKit
set_option linter.unusedVariables false
set_option linter.unusedSimpArgs false

set_option maxRecDepth 100000 in
set_option maxHeartbeats 4000000 in
theorem ring_All (B g G n kk : Nat) (S : Nat → Int × List Int × Int × Int × Bool) (w : World) (h : RingAt w B g G n S kk) (hn0 : 0 < n) (hn2 : n ≤ 1000) :
    Calls Try.prog 23 #[.pointer (some ⟨g, 0, none⟩)] w fun e w' => e = .returned (.slice (some ⟨w.heap.size, 0, none⟩) (cntK n kk) (cntK n kk)) ∧ OutAt w' w.heap.size (cntK n kk) (fun j => S (kk - cntK n kk + j)) (cntK n kk) ∧ Below w.heap.size w w' := by
  have K := Lib.hid (ring_each_own B g G n kk S w h hn0 hn2)
  clear h
  generalize cntK n kk = cnt at *
  go_enter Try.func23, Try.ntmps23
  go_wp2_with fail
  refine (K.out).mono ?_
  rintro e w1 ⟨rfl, h1, h2⟩
  have H1 := Lib.hid h1
  have H2 := Lib.hid h2
  clear h1 h2
  go_wp2
  go_ret
  exact ⟨rfl, H1.out, H2.out⟩
set_option maxRecDepth 100000 in
set_option maxHeartbeats 4000000 in
theorem ring_Room (B g G n k : Nat) (S : Nat → Int × List Int × Int × Int × Bool) (w : World) (h : RingAt w B g G n S k) :
    Calls Try.prog 18 #[.pointer (some ⟨g, 0, none⟩)] w fun e w' => e = .returned (.int .i64 (n : Nat)) ∧ w' = w := by
  obtain ⟨P, -, hb, -⟩ := h
  have y0 := (hb.cell 0).trans rfl
  clear hb
  go_enter Try.func18, Try.ntmps18
  go_wp2
  go_ret
  exact ⟨rfl, rfl⟩
theorem ring_Len_nil (w : World) : Calls Try.prog 17 #[.pointer none] w fun e w' => e = .returned (.int .i64 0) ∧ w' = w := by
  go_enter Try.func17, Try.ntmps17
  go_wp2
  go_ret
  exact ⟨rfl, rfl⟩
set_option maxRecDepth 100000 in
set_option maxHeartbeats 4000000 in
theorem ring_At_nil (i : Int) (w : World) : Calls Try.prog 24 #[.pointer none, .int .i64 i] w fun e w' => e = .returned (.tuple #[.agg #[.int .i64 0, .slice none 0 0, .int .i64 0, .int .i64 0, .bool false], .int .i64 7]) ∧ Below w.heap.size w w' := by
  have HX := Lib.hid ((Kpc.start w).alloc #[.int .i64 0, .slice none 0 0, .int .i64 0, .int .i64 0, .bool false] 34)
  obtain ⟨x0, x1, x2, x3, x4⟩ := box5 HX.out.head
  go_enter Try.func24, Try.ntmps24
  go_wp2
  refine bodyPost_ret (v := .tuple #[.agg #[.int .i64 0, .slice none 0 0, .int .i64 0, .int .i64 0, .bool false], .int .i64 7]) ?_ rfl ⟨rfl, HX.out.2.1⟩
  simp only [results, show Try.f24.results = #[.cell 4 34, .tmp 5] from rfl]
  go_simp
set_option maxRecDepth 100000 in
set_option maxHeartbeats 4000000 in
theorem ring_At_bad (B g G n kk : Nat) (S : Nat → Int × List Int × Int × Int × Bool) (i : Int) (w : World) (h : RingAt w B g G n S kk) (hi : i < 0 ∨ (cntK n kk : Int) ≤ i) : Calls Try.prog 24 #[.pointer (some ⟨g, 0, none⟩), .int .i64 i] w fun e w' => e = .returned (.tuple #[.agg #[.int .i64 0, .slice none 0 0, .int .i64 0, .int .i64 0, .bool false], .int .i64 4]) ∧ Below w.heap.size w w' := by
  obtain ⟨P, -, hb, -⟩ := h
  have HX := Lib.hid ((Kpc.start w).alloc #[.int .i64 0, .slice none 0 0, .int .i64 0, .int .i64 0, .bool false] 34)
  obtain ⟨x0, x1, x2, x3, x4⟩ := box5 HX.out.head
  have HG := hb.below HX.out.2.1 hb.lt
  have y2 := (HG.cell 2).trans rfl
  clear hb HG
  generalize cntK n kk = cnt at *
  by_cases h0 : i < 0
  · clear hi
    go_enter Try.func24, Try.ntmps24
    go_wp2
    refine bodyPost_ret (v := .tuple #[.agg #[.int .i64 0, .slice none 0 0, .int .i64 0, .int .i64 0, .bool false], .int .i64 4]) ?_ rfl ⟨rfl, HX.out.2.1⟩
    simp only [results, show Try.f24.results = #[.cell 4 34, .tmp 5] from rfl]
    go_simp
  · have h1 : (cnt : Int) ≤ i := by omega
    clear hi
    go_enter Try.func24, Try.ntmps24
    go_wp2
    refine bodyPost_ret (v := .tuple #[.agg #[.int .i64 0, .slice none 0 0, .int .i64 0, .int .i64 0, .bool false], .int .i64 4]) ?_ rfl ⟨rfl, HX.out.2.1⟩
    simp only [results, show Try.f24.results = #[.cell 4 34, .tmp 5] from rfl]
    go_simp
/-- what At tells of an event -/
def AtE (w : World) (m : Int × List Int × Int × Int × Bool) (e : Ending) (w' : World) : Prop := ∃ A c, e = .returned (.tuple #[.agg #[.int .i64 m.1, .slice A m.2.1.length c, .int .i64 m.2.2.1, .int .i64 m.2.2.2.1, .bool m.2.2.2.2], .int .i64 0]) ∧ (A = none → c = 0) ∧ m.2.1.length ≤ 1000 ∧ (0 < m.2.1.length → ∃ h, A = some ⟨h, 0, none⟩ ∧ w.heap.size ≤ h ∧ OwnI w' h m.2.1) ∧ Below w.heap.size w w'
set_option maxRecDepth 100000 in
set_option maxHeartbeats 8000000 in
theorem ring_At (B g G n kk k : Nat) (S : Nat → Int × List Int × Int × Int × Bool) (w : World) (h : RingAt w B g G n S kk) (hn0 : 0 < n) (hn2 : n ≤ 1000) (hk : k < cntK n kk) :
    Calls Try.prog 24 #[.pointer (some ⟨g, 0, none⟩), .int .i64 (k : Int)] w (AtE w (S (kk - cntK n kk + k))) := by
  obtain ⟨P, hP, hb, hG, hBG, hgG, hPS, hNX⟩ := h
  have hst : stK n kk ≤ 1000 := by
    unfold stK; split
    · omega
    · have := Nat.mod_lt kk hn0; omega
  have hcn : cntK n kk ≤ n := by unfold cntK; omega
  have hck : cntK n kk ≤ kk := by unfold cntK; omega
  have hck2 : kk ≤ cntK n kk ∨ cntK n kk = n := by unfold cntK; omega
  have HG := Lib.hid (fun X (hX : Below w.heap.size w X) => hb.below hX hb.lt)
  obtain ⟨i, hi⟩ : ∃ i, i = (kk - cntK n kk + k) % n := ⟨_, rfl⟩
  have hin : i < n := by rw [hi]; exact Nat.mod_lt _ hn0
  have hing : (i : Int) < (n : Int) := by omega
  have hpl : (stK n kk + k) % n = i := by rw [hi]; exact place_at hn0 hk
  have KP := Lib.hid (fun X hX => ring_place g G n (stK n kk) (cntK n kk) k X hX hn0 hn2 hst (by omega))
  rw [hpl] at KP
  have HSG : Hid (sgS (P.getD i sn0) = S (kk - cntK n kk + k)) := by
    have := hPS (kk - cntK n kk + k) (by omega) (by omega)
    rw [hi]; exact this
  have HGG := Lib.hid (fun X (hX : Below w.heap.size w X) => sn_at (hG.below hX hG.lt) (k := i) (by omega))
  have hm := hNX _ (mem_sn (k := i) (by omega))
  have hbl := hb.lt
  clear hP hG hPS hNX hi hpl
  generalize P.getD i sn0 = m at *
  have KO : Hid (∀ X, Below w.heap.size w X → Calls Try.prog 83 #[.agg #[.int .i64 m.id, .slice m.a m.x.length m.c, .int .i64 m.p, .int .i64 m.q, .bool m.s]] X fun e w' => ∃ A' c', e = .returned (.agg #[.int .i64 m.id, .slice A' m.x.length c', .int .i64 m.p, .int .i64 m.q, .bool m.s]) ∧ (A' = none → c' = 0) ∧ NewX X w' A' m.x ∧ Below X.heap.size X w') := fun X hX => by
    have hl : Lies X X.heap.size m.a m.x := fun h0 => by
      obtain ⟨b, e, _, ho⟩ := hm.2.2 h0
      have := (ho.below hX ho.lt).lies h0
      rw [e]; exact this
    exact ring_own m.id m.p m.q m.s m.a m.x m.c X.heap.size X hl hm.2.1 (Nat.le_refl _)
  have HML := Lib.hid hm.2.1
  have HRES : Hid (∀ e w', (∃ A c, e = .returned (.tuple #[.agg #[.int .i64 m.id, .slice A m.x.length c, .int .i64 m.p, .int .i64 m.q, .bool m.s], .int .i64 0]) ∧ (A = none → c = 0) ∧ (0 < m.x.length → ∃ h, A = some ⟨h, 0, none⟩ ∧ w.heap.size ≤ h ∧ OwnI w' h m.x) ∧ Below w.heap.size w w') → AtE w (S (kk - cntK n kk + k)) e w') := by
    rintro e w' ⟨A, c, h1, h2, h3, h4⟩
    rw [← HSG.out]
    exact ⟨A, c, h1, h2, HML.out, h3, h4⟩
  clear hm HSG
  have hkc : (k : Int) < (cntK n kk : Int) := by omega
  have HX := Lib.hid ((Kpc.start w).alloc #[.int .i64 0, .slice none 0 0, .int .i64 0, .int .i64 0, .bool false] 34)
  have HB := Lib.hid HX.out.2.1
  have u2 := ((HG.out _ HX.out.2.1).cell 2).trans rfl
  generalize hcnt : cntK n kk = cnt at *
  clear hcnt
  generalize hST : stK n kk = st at *
  clear hST
  have hkd : decide (cnt ≤ k) = false := decide_eq_false (by omega)
  have hkz : decide ((k : Int) < 0) = false := decide_eq_false (by omega)
  go_enter Try.func24, Try.ntmps24
  go_wp2
  generalize (w.alloc (.cells #[.int .i64 0, .slice none 0 0, .int .i64 0, .int .i64 0, .bool false] 34)) = wr at *
  refine wp_region_steps (EachJ [some (.pointer (some ⟨g, 0, none⟩)), some (.pointer (some ⟨g, 0, none⟩)), some (.pointer (some ⟨g, 0, none⟩)), some (.pointer (some ⟨g, 0, none⟩)), some (.slice (some ⟨G, 0, none⟩) n n), some (.pointer (some ⟨g, 0, none⟩)), some (.pointer (some ⟨g, 0, none⟩)), some (.pointer (some ⟨g, 0, none⟩)), some (.int .i64 (k : Int)), some (.int .i64 (i : Int)), some (.pointer (some ⟨G, i * 5, none⟩)), some (.agg #[.int .i64 m.id, .slice m.a m.x.length m.c, .int .i64 m.p, .int .i64 m.q, .bool m.s]), none, none, some (.int .i64 0)] wr 13 12 (OwnE wr m) (fun X => ∃ A c, Box X w.heap.size #[.int .i64 m.id, .slice A m.x.length c, .int .i64 m.p, .int .i64 m.q, .bool m.s] 34 ∧ (A = none → c = 0) ∧ (0 < m.x.length → ∃ h, A = some ⟨h, 0, none⟩ ∧ w.heap.size ≤ h ∧ OwnI X h m.x) ∧ Below w.heap.size w X))
    [[], [0], [1], [2], [3], [], [5], [6], [], [7, 8], [4, 9], [10], [11, 9], [12, 12, 0, 1, 2, 3, 4, 5, 6, 7, 8, 9, 10, 11, 12], [13, 0, 1, 2, 3, 4, 5, 6, 7, 8, 9, 10, 11, 12, 13]] (by kernel_rfl) (by kernel_rfl) (by kernel_rfl) (by kernel_rfl) ?_ ?_ ?_ ?_
  · exact fun f g vs X hfg h => EachJ.congr (n := 15) (by omega) (by omega) (by simp) hfg h
  · intro vs _
    exact EachJ.start (below_drewN2 (Below.refl _ _) 1)
  · refine ⟨?_, ?_, ?_, ?_, ?_, ?_, ?_, ?_, ?_, ?_, ?_, ?_, ?_, ?_, ?_, trivial⟩
    all_goals
      intro f vs X hlen hf hp hj K hK
      obtain ⟨y0, y1, y2, y3, y4, y5, y6, y7, y8, y9, y10, y11, y12, y13, y14, rfl⟩ := len15 hlen
      clear hlen
      have HJ := Lib.hid hj
      clear hj
    · rw [if_pos (by rfl)]
      simp only [putAll, Act.put, List.setIfInBounds_toArray, List.set_cons_zero, List.set_cons_succ] at hK ⊢
      go_simp
      refine hK _ X ?_
      exact HJ.out.step (i := 0) (by simp) (by omega) (by omega) _ (fun u hu => by simpa using hu)
    · rw [if_pos (by rfl)]
      simp only [putAll, Act.put, List.setIfInBounds_toArray, List.set_cons_zero, List.set_cons_succ] at hK ⊢
      have e0 : y0 = .pointer (some ⟨g, 0, none⟩) := HJ.out.1 0 _ (hp 0 (by simp)) rfl
      subst e0
      go_simp
      refine hK _ X ?_
      exact HJ.out.step (i := 1) (by simp) (by omega) (by omega) _ (fun u hu => by simpa using hu)
    · rw [if_pos (by rfl)]
      simp only [putAll, Act.put, List.setIfInBounds_toArray, List.set_cons_zero, List.set_cons_succ] at hK ⊢
      have e1 : y1 = .pointer (some ⟨g, 0, none⟩) := HJ.out.1 1 _ (hp 1 (by simp)) rfl
      subst e1
      go_simp
      refine hK _ X ?_
      exact HJ.out.step (i := 2) (by simp) (by omega) (by omega) _ (fun u hu => by simpa using hu)
    · rw [if_pos (by rfl)]
      simp only [putAll, Act.put, List.setIfInBounds_toArray, List.set_cons_zero, List.set_cons_succ] at hK ⊢
      have e2 : y2 = .pointer (some ⟨g, 0, none⟩) := HJ.out.1 2 _ (hp 2 (by simp)) rfl
      subst e2
      go_simp
      refine hK _ X ?_
      exact HJ.out.step (i := 3) (by simp) (by omega) (by omega) _ (fun u hu => by simpa using hu)
    · rw [if_pos (by rfl)]
      simp only [putAll, Act.put, List.setIfInBounds_toArray, List.set_cons_zero, List.set_cons_succ] at hK ⊢
      have e3 : y3 = .pointer (some ⟨g, 0, none⟩) := HJ.out.1 3 _ (hp 3 (by simp)) rfl
      subst e3
      have hlow := HJ.out.low (i := 4) (by omega) hf
      have hBw : Below w.heap.size w X := HB.out.trans (hlow.mono HB.out.size)
      have b0 := ((HG.out X hBw).cell 0).trans rfl
      go_simp
      refine hK _ X ?_
      exact HJ.out.step (i := 4) (by simp) (by omega) (by omega) _ (fun u hu => by simpa using hu)
    · rw [if_pos (by rfl)]
      simp only [putAll, Act.put, List.setIfInBounds_toArray, List.set_cons_zero, List.set_cons_succ] at hK ⊢
      go_simp
      refine hK _ X ?_
      exact HJ.out.step (i := 5) (by simp) (by omega) (by omega) _ (fun u hu => by simpa using hu)
    · rw [if_pos (by rfl)]
      simp only [putAll, Act.put, List.setIfInBounds_toArray, List.set_cons_zero, List.set_cons_succ] at hK ⊢
      have e5 : y5 = .pointer (some ⟨g, 0, none⟩) := HJ.out.1 5 _ (hp 5 (by simp)) rfl
      subst e5
      go_simp
      refine hK _ X ?_
      exact HJ.out.step (i := 6) (by simp) (by omega) (by omega) _ (fun u hu => by simpa using hu)
    · rw [if_pos (by rfl)]
      simp only [putAll, Act.put, List.setIfInBounds_toArray, List.set_cons_zero, List.set_cons_succ] at hK ⊢
      have e6 : y6 = .pointer (some ⟨g, 0, none⟩) := HJ.out.1 6 _ (hp 6 (by simp)) rfl
      subst e6
      go_simp
      refine hK _ X ?_
      exact HJ.out.step (i := 7) (by simp) (by omega) (by omega) _ (fun u hu => by simpa using hu)
    · rw [if_pos (by rfl)]
      simp only [putAll, Act.put, List.setIfInBounds_toArray, List.set_cons_zero, List.set_cons_succ] at hK ⊢
      go_simp
      refine hK _ X ?_
      exact HJ.out.step (i := 8) (by simp) (by omega) (by omega) _ (fun u hu => by simpa using hu)
    · rw [if_pos (by rfl)]
      simp only [putAll, Act.put, List.setIfInBounds_toArray, List.set_cons_zero, List.set_cons_succ] at hK ⊢
      have e7 : y7 = .pointer (some ⟨g, 0, none⟩) := HJ.out.1 7 _ (hp 7 (by simp)) rfl
      subst e7
      have e8 : y8 = .int .i64 (k : Int) := HJ.out.1 8 _ (hp 8 (by simp)) rfl
      subst e8
      have hlow := HJ.out.low (i := 9) (by omega) hf
      have hBw : Below w.heap.size w X := HB.out.trans (hlow.mono HB.out.size)
      have hN := HJ.out.before (i := 9) (by omega) hf
      go_simp
      refine (KP.out X (HG.out X hBw)).mono ?_
      rintro e w3 ⟨rfl, md, rfl⟩
      refine hK _ _ ?_
      have HJ2 := HJ.out.world hN (below_drewN2 (Below.refl X.heap.size X) md) (fun v hv => hv.below (below_drewN2 (Below.refl _ _) md))
      exact HJ2.step (i := 9) (by simp) (by omega) (by omega) _ (fun u hu => by simpa using hu)
    · rw [if_pos (by rfl)]
      simp only [putAll, Act.put, List.setIfInBounds_toArray, List.set_cons_zero, List.set_cons_succ] at hK ⊢
      have e4 : y4 = .slice (some ⟨G, 0, none⟩) n n := HJ.out.1 4 _ (hp 4 (by simp)) rfl
      subst e4
      have e9 : y9 = .int .i64 (i : Int) := HJ.out.1 9 _ (hp 9 (by simp)) rfl
      subst e9
      go_simp
      refine hK _ X ?_
      exact HJ.out.step (i := 10) (by simp) (by omega) (by omega) _ (fun u hu => by simpa using hu)
    · rw [if_pos (by rfl)]
      simp only [putAll, Act.put, List.setIfInBounds_toArray, List.set_cons_zero, List.set_cons_succ] at hK ⊢
      have e10 : y10 = .pointer (some ⟨G, i * 5, none⟩) := HJ.out.1 10 _ (hp 10 (by simp)) rfl
      subst e10
      have hlow := HJ.out.low (i := 11) (by omega) hf
      have hBw : Below w.heap.size w X := HB.out.trans (hlow.mono HB.out.size)
      obtain ⟨b0, b1, b2, b3, b4⟩ := HGG.out X hBw
      go_simp
      refine hK _ X ?_
      exact HJ.out.step (i := 11) (by simp) (by omega) (by omega) _ (fun u hu => by simpa using hu)
    · rw [if_pos (by rfl)]
      simp only [putAll, Act.put, List.setIfInBounds_toArray, List.set_cons_zero, List.set_cons_succ] at hK ⊢
      have e11 : y11 = .agg #[.int .i64 m.id, .slice m.a m.x.length m.c, .int .i64 m.p, .int .i64 m.q, .bool m.s] := HJ.out.1 11 _ (hp 11 (by simp)) rfl
      subst e11
      have hlow := HJ.out.low (i := 12) (by omega) hf
      have hBw : Below w.heap.size w X := HB.out.trans (hlow.mono HB.out.size)
      have hN := HJ.out.before (i := 12) (by omega) hf
      go_simp
      refine (KO.out X hBw).mono ?_
      rintro e w3 ⟨A', c', rfl, q1, q2, q3⟩
      refine hK _ w3 ?_
      have HJ2 := HJ.out.world hN q3 (fun v hv => hv.below q3)
      refine HJ2.call hN (by simp) (by omega) _ (fun u hu => by simp at hu) ⟨A', c', rfl, q1, fun h0 => ?_⟩
      obtain ⟨b, e, hb, ho⟩ := q2 h0
      exact ⟨b, e, Nat.le_trans hlow.size hb, ho⟩
    · rw [if_pos (by rfl)]
      simp only [putAll, Act.put, List.setIfInBounds_toArray, List.set_cons_zero, List.set_cons_succ] at hK ⊢
      have hlow := HJ.out.low (i := 13) (by omega) hf
      have hc := (HJ.out.2.2 hf).2 (hp 12 (by simp))
      obtain ⟨A', c', e12, q1, q2⟩ := hc
      have e12 : y12 = .agg #[.int .i64 m.id, .slice A' m.x.length c', .int .i64 m.p, .int .i64 m.q, .bool m.s] := e12
      subst e12
      have hxb := HX.out.head.below hlow HX.out.head.lt
      obtain ⟨o0, o1, o2, o3, o4⟩ := box5 hxb
      have f0 := hxb.free 0
      have f1 := hxb.free 1
      have f2 := hxb.free 2
      have f3 := hxb.free 3
      have f4 := hxb.free 4
      have HXB := Lib.hid hxb
      have HBX := Lib.hid (HB.out.trans (hlow.mono HB.out.size))
      have HQ := Lib.hid q2
      have hsw := HX.out.head.lt
      clear hxb q2
      go_simp
      refine hK undef _ ?_
      refine HJ.out.fin (by simp) (fun j hj => hp j ?_) _ (fun u hu => by simp at hu) ⟨A', c', (((((HXB.out.set 0 _).set 1 _).set 2 _).set 3 _).set 4 _), q1, fun h0 => ?_, ((((HBX.out.setCell (p := ⟨w.heap.size, 0, none⟩) (Nat.le_refl _) _).setCell (p := ⟨w.heap.size, 1, none⟩) (Nat.le_refl _) _).setCell (p := ⟨w.heap.size, 2, none⟩) (Nat.le_refl _) _).setCell (p := ⟨w.heap.size, 3, none⟩) (Nat.le_refl _) _).setCell (p := ⟨w.heap.size, 4, none⟩) (Nat.le_refl _) _⟩
      · have : j = 0 ∨ j = 1 ∨ j = 2 ∨ j = 3 ∨ j = 4 ∨ j = 5 ∨ j = 6 ∨ j = 7 ∨ j = 8 ∨ j = 9 ∨ j = 10 ∨ j = 11 ∨ j = 12 := by omega
        rcases this with rfl | rfl | rfl | rfl | rfl | rfl | rfl | rfl | rfl | rfl | rfl | rfl | rfl <;> simp
      · obtain ⟨b, e, hb, ho⟩ := HQ.out h0
        have hbn : ∀ j, (⟨w.heap.size, j, none⟩ : Addr).block ≠ b := fun j => by show w.heap.size ≠ b; omega
        exact ⟨b, e, by omega, ((((ho.off (hbn 0) _).off (hbn 1) _).off (hbn 2) _).off (hbn 3) _).off (hbn 4) _⟩
    · rw [if_pos (by rfl)]
      simp only [putAll, Act.put, List.setIfInBounds_toArray, List.set_cons_zero, List.set_cons_succ] at hK ⊢
      go_simp
      refine hK _ X ?_
      exact HJ.out.step (i := 14) (by simp) (by omega) (by omega) _ (fun u hu => by simpa using hu)
  · intro vs X hl hj
    obtain ⟨y0, y1, y2, y3, y4, y5, y6, y7, y8, y9, y10, y11, y12, y13, y14, rfl⟩ := len15 hl
    have e14 : y14 = .int .i64 0 := hj.1 14 _ rfl rfl
    subst e14
    obtain ⟨A, c, h1, h2, h3, h4⟩ := (hj.2.1 rfl).2
    obtain ⟨b0, b1, b2, b3, b4⟩ := box5 h1
    have H3 := Lib.hid h3
    have H4 := Lib.hid h4
    clear hj h1 h3 h4 u2
    simp only [putAll, Act.put, List.setIfInBounds_toArray, List.set_cons_zero, List.set_cons_succ]
    go_wp2
    refine bodyPost_ret (v := .tuple #[.agg #[.int .i64 m.id, .slice A m.x.length c, .int .i64 m.p, .int .i64 m.q, .bool m.s], .int .i64 0]) ?_ rfl (HRES.out _ _ ⟨A, c, rfl, h2, H3.out, H4.out⟩)
    simp only [results, show Try.f24.results = #[.cell 4 34, .tmp 5] from rfl]
    go_simp
end Go.Proofs.Ytdcemcpcjdkpjaa
/-! Layer 17 (ring): each, with vector; Points. -/
namespace Go.Proofs.Ytdcemcpcjdkpjaa
open Go.RowKit
set_option linter.unusedVariables false
set_option linter.unusedSimpArgs false

def vcC (m : SN) : Value := .slice m.a m.x.length m.c
theorem info_vec : (Try.prog.info? 30).map (fun i => (i.zero, i.size, i.bytes)) = some (some (.slice none 0 0), 1, 24) := by kernel_rfl
theorem madeV (n : Nat) : (madeCells (Value.slice none 0 0).cells (n * 1)).toList = (List.replicate n sn0).map vcC := by
  show (madeCells #[.slice none 0 0] (n * 1)).toList = _
  apply List.ext_getElem?
  intro j
  rw [List.map_replicate, List.getElem?_replicate]
  by_cases hj : j < n
  · simp [madeCells, hj, Nat.mod_one, vcC, sn0]
  · simp [madeCells, hj]
theorem make_vecs {wr : World} {ops : Array Oper} {rest : List Oper} {o : Oper} {a : Act} {Q : Exit → Act → World → Prop} (hgd : o.guard = none) (l c : Operand)
    (ho : o.op = Op.makeSlice 48 l c) (n : Nat) (hl : a.eval l = .int .i64 n) (hc : a.eval c = .int .i64 n) (hn : n ≤ 1000)
    (h : ∀ w', Box w' wr.heap.size ((List.replicate n sn0).map vcC).toArray 30 → Below wr.heap.size wr w' → wpList Try.prog ops Q rest (a.put o.dst (.slice (some ⟨wr.heap.size, 0, none⟩) n n)) w') :
    wpList Try.prog ops Q (o :: rest) a wr := by
  obtain ⟨i0, hi, hz0, hz1, hz2⟩ := info_parts5 info_vec
  refine wpList_make_full wr hgd l c 48 ho wr.heap.size 30 i0 (.slice none 0 0) 1 Try.underlying48 hi hz0 hz1 .i64 .i64 n n n hl hc rfl rfl (by rw [hz2]; omega) (by unfold maxLen; omega) (Nat.le_refl _) ?_
  intro w' h1 h2
  refine h w' ?_ ((Below.refl _ _).grown h2 (Nat.le_refl _) (fun k hk => by cases hk))
  rw [madeV] at h1
  rcases h1.2 with ⟨e, _⟩ | ⟨g, cap, cur, e, hb, hh, hnc, hm, hsz, hx⟩
  · cases e
  · cases e
    have : cur = ((List.replicate n sn0).map vcC).toArray := by
      rw [← hx]
      apply Array.ext'
      simp only [List.toList_toArray]
      rw [List.take_of_length_le (by simp [hsz])]
    subst this
    exact hh
/-- a vector of the call's own behind W -/
def OwnV (W : World) (m : SN) (X : World) (v : Value) : Prop := ∃ A c, v = .slice A m.x.length c ∧ (A = none → c = 0) ∧ (0 < m.x.length → ∃ h, A = some ⟨h, 0, none⟩ ∧ W.heap.size ≤ h ∧ OwnI X h m.x)
theorem OwnV.below {W X X' : World} {m : SN} {v : Value} (h : OwnV W m X v) (hb : Below X.heap.size X X') : OwnV W m X' v := by
  obtain ⟨A, c, e, h1, h2⟩ := h
  exact ⟨A, c, e, h1, fun h0 => by obtain ⟨b, e2, h3, h4⟩ := h2 h0; exact ⟨b, e2, h3, h4.below hb h4.lt⟩⟩
/-- a row of vectors of the call's own, of which the first k are told -/
def OutV (w : World) (R cnt : Nat) (S : Nat → Int × List Int × Int × Int × Bool) (k : Nat) : Prop :=
  ∃ L : List SN, L.length = cnt ∧ Box w R (L.map vcC).toArray 30 ∧ (∀ j, j < k → (L.getD j sn0).x = (S j).2.1) ∧ ∀ m ∈ L, NX w R m
theorem OutV.lt {w : World} {R cnt k : Nat} {S : Nat → Int × List Int × Int × Int × Bool} (h : OutV w R cnt S k) : R < w.heap.size := by obtain ⟨L, -, hb, -⟩ := h; exact hb.lt
theorem OutV.below {w w' : World} {R cnt k : Nat} {S : Nat → Int × List Int × Int × Int × Bool} (h : OutV w R cnt S k) (hb : Below w.heap.size w w') : OutV w' R cnt S k := by
  obtain ⟨L, h1, h2, h3, h4⟩ := h
  exact ⟨L, h1, h2.below hb h2.lt, h3, fun m hm => (h4 m hm).below hb⟩
theorem vec_at {w : World} {R : Nat} {L : List SN} {t : TypeId} (h : Box w R (L.map vcC).toArray t) {k : Nat} (hk : k < L.length) : w.cell? ⟨R, k, none⟩ = some (vcC (L.getD k sn0)) := by
  rw [h.cell k]
  simp [List.getD, hk]
theorem outV_put {wr X : World} {R cnt k : Nat} {S : Nat → Int × List Int × Int × Int × Bool} (h : OutV wr R cnt S k) (hb : Below wr.heap.size wr X) (hk : k < cnt) {m : SN} {A : Option Addr} {c : Nat} (hm : m.x = (S k).2.1) (hl : m.x.length ≤ 1000) (hA : A = none → c = 0)
    (hO : 0 < m.x.length → ∃ b, A = some ⟨b, 0, none⟩ ∧ wr.heap.size ≤ b ∧ OwnI X b m.x) :
    OutV (X.setCell ⟨R, k, none⟩ (.slice A m.x.length c)) R cnt S (k + 1) := by
  have hR := h.lt
  obtain ⟨L, h1, h2, h3, h4⟩ := h.below hb
  refine ⟨L.set k ⟨m.id, A, c, m.x, m.p, m.q, m.s⟩, by rw [List.length_set]; exact h1, ?_, fun j hj => ?_, fun y hy => ?_⟩
  · have h5 := Box.set h2 k (.slice A m.x.length c)
    rw [show (List.map vcC (L.set k ⟨m.id, A, c, m.x, m.p, m.q, m.s⟩)).toArray = (L.map vcC).toArray.setIfInBounds k (.slice A m.x.length c) from ?_]
    · exact h5
    · apply Array.ext'
      rw [Array.toList_setIfInBounds, List.map_set]
      rfl
  · by_cases e : j = k
    · subst e
      rw [sn_setD (by omega)]
      exact hm
    · rw [List.getD_eq_getElem?_getD, List.getElem?_set_ne (fun g => e g.symm), ← List.getD_eq_getElem?_getD]
      exact h3 j (by omega)
  · rcases List.mem_or_eq_of_mem_set hy with hy | rfl
    · obtain ⟨g1, g2, g3⟩ := h4 y hy
      exact ⟨g1, g2, fun h0 => by obtain ⟨b, e, hb2, ho⟩ := g3 h0; exact ⟨b, e, hb2, ho.off (p := ⟨R, k, none⟩) (by show R ≠ b; omega) _⟩⟩
    · exact ⟨hA, hl, fun h0 => by obtain ⟨b, e, hb2, ho⟩ := hO h0; exact ⟨b, e, by omega, ho.off (p := ⟨R, k, none⟩) (by show R ≠ b; omega) _⟩⟩
set_option maxRecDepth 100000 in
set_option maxHeartbeats 8000000 in
theorem ring_each_vector (B g G n kk : Nat) (S : Nat → Int × List Int × Int × Int × Bool) (w : World) (h : RingAt w B g G n S kk) (hn0 : 0 < n) (hn2 : n ≤ 1000) :
    Calls Try.prog 89 #[.pointer (some ⟨g, 0, none⟩), .func (.func 90) #[] #[]] w fun e w' => e = .returned (.slice (some ⟨w.heap.size, 0, none⟩) (cntK n kk) (cntK n kk)) ∧ OutV w' w.heap.size (cntK n kk) (fun j => S (kk - cntK n kk + j)) (cntK n kk) ∧ Below w.heap.size w w' := by
  obtain ⟨P, hP, hb, hG, hBG, hgG, hPS, hNX⟩ := h
  have hst : stK n kk ≤ 1000 := by
    unfold stK; split
    · omega
    · have := Nat.mod_lt kk hn0; omega
  have hcn : cntK n kk ≤ n := by unfold cntK; omega
  have hck : cntK n kk ≤ kk := by unfold cntK; omega
  have hck2 : kk ≤ cntK n kk ∨ cntK n kk = n := by unfold cntK; omega
  have HG := Lib.hid (fun X (hX : Below w.heap.size w X) => hb.below hX hb.lt)
  have HGP := Lib.hid (fun X (hX : Below w.heap.size w X) i (hi : i < P.length) => sn_at (hG.below hX hG.lt) hi)
  have HPA := Lib.hid (fun i (hi : i < cntK n kk) => place_at (n := n) (k := kk) hn0 hi)
  have HPS : Hid (∀ k, k < cntK n kk → sgS (P.getD ((kk - cntK n kk + k) % n) sn0) = S (kk - cntK n kk + k)) := fun k hk => hPS _ (by omega) (by omega)
  have HMP := Lib.hid (fun i (hi : i < P.length) => hNX _ (mem_sn hi))
  have KPL := Lib.hid (fun k (hk : k ≤ 1000) X hX => ring_place g G n (stK n kk) (cntK n kk) k X hX hn0 hn2 hst hk)
  have hP' := Lib.hid hP
  have y2 := (hb.cell 2).trans rfl
  have hbl := hb.lt
  clear hP hG hPS hNX
  generalize hcnt : cntK n kk = cnt at *
  clear hcnt
  have hc1000 : cnt ≤ 1000 := by omega
  generalize hST : stK n kk = st at *
  clear hST
  generalize hR : w.heap.size = R at *
  go_enter Try.func89, Try.ntmps89
  go_wp2_with (at_make; refine make_vecs rfl (.tmp 10) (.tmp 10) rfl cnt rfl rfl hc1000 ?_; intro w1 hb1 hw1)
  have HO1 : Hid (OutV w1 R cnt (fun j => S (kk - cnt + j)) 0) := ⟨List.replicate cnt sn0, by simp, (by first | exact hb1 | (rw [← hR]; exact hb1)), fun j hj => absurd hj (by omega), fun m hm => by
    obtain ⟨_, rfl⟩ := List.mem_replicate.1 hm
    exact ⟨fun _ => rfl, by simp [sn0], fun h => absurd h (by simp [sn0])⟩⟩
  have HB1 : Hid (Below R w w1) := (by have h := hw1; rw [hR] at h; exact h)
  clear hb1 hw1 y2
  go_loopw [14] (fun i wr => ∃ k : Nat, k ≤ cnt ∧ i = .int .i64 k ∧ Hid (OutV wr R cnt (fun j => S (kk - cnt + j)) k) ∧ Hid (Below R w wr)) (fun i _ => cnt - (intOf i).toNat)
  case atStart => exact ⟨0, by omega, rfl, HO1, HB1⟩
  case round =>
    obtain ⟨k, hk, rfl, HO, HB⟩ := hrel
    clear HO1 HB1
    by_cases hkc : k < cnt
    · have hki : (k : Int) < (cnt : Int) := by omega
      obtain ⟨i, hi⟩ : ∃ i, i = (kk - cnt + k) % n := ⟨_, rfl⟩
      have hin : i < n := by rw [hi]; exact Nat.mod_lt _ hn0
      have hing : (i : Int) < (n : Int) := by omega
      have hpl : (st + k) % n = i := by rw [hi]; exact HPA.out k hkc
      have KP := Lib.hid (fun X hX => KPL.out k (by omega) X hX)
      rw [hpl] at KP
      have HSG := Lib.hid (HPS.out k hkc)
      rw [← hi] at HSG
      have HGG := Lib.hid (fun X hX => HGP.out X hX i (by rw [hP'.out]; exact hin))
      have hm := HMP.out i (by rw [hP'.out]; exact hin)
      clear HPS HGP HMP KPL HPA hi hpl
      generalize P.getD i sn0 = m at *
      have HML := Lib.hid hm.2.1
      have KO : Hid (∀ X, Below R w X → Calls Try.prog 90 #[.agg #[.int .i64 m.id, .slice m.a m.x.length m.c, .int .i64 m.p, .int .i64 m.q, .bool m.s]] X fun e w' => ∃ A' c', e = .returned (.slice A' m.x.length c') ∧ (A' = none → c' = 0) ∧ NewX X w' A' m.x ∧ Below X.heap.size X w') := fun X hX => by
        have hl : Lies X X.heap.size m.a m.x := fun h0 => by
          obtain ⟨b, e, _, ho⟩ := hm.2.2 h0
          have := (ho.below hX (by have := ho.lt; omega)).lies h0
          rw [e]; exact this
        exact ring_vector m.id m.p m.q m.s m.a m.x m.c X.heap.size X hl hm.2.1 (Nat.le_refl _)
      clear hm
      have hRw : R ≤ R := Nat.le_refl _
      go_wp2
      refine wp_region_steps (EachJ [some (.slice (some ⟨R, 0, none⟩) cnt cnt), some (.int .i64 (k : Int)), some (.func (.func 90) #[] #[]), some (.pointer (some ⟨g, 0, none⟩)), some (.pointer (some ⟨g, 0, none⟩)), some (.pointer (some ⟨g, 0, none⟩)), some (.slice (some ⟨G, 0, none⟩) n n), some (.pointer (some ⟨g, 0, none⟩)), some (.int .i64 (k : Int)), some (.int .i64 (i : Int)), some (.pointer (some ⟨G, i * 5, none⟩)), some (.agg #[.int .i64 m.id, .slice m.a m.x.length m.c, .int .i64 m.p, .int .i64 m.q, .bool m.s]), none, some (.pointer (some ⟨R, k, none⟩)), none] wr 14 12 (OwnV wr m) (fun X => OutV X R cnt (fun j => S (kk - cnt + j)) (k + 1) ∧ Below R w X))
        [[], [], [], [], [3], [4], [5], [], [], [7, 8], [6, 9], [10], [2, 11, 9], [0, 1, 0, 1, 2, 3, 4, 5, 6, 7, 8, 9, 10, 11, 12], [13, 12, 12, 0, 1, 2, 3, 4, 5, 6, 7, 8, 9, 10, 11, 12]] (by kernel_rfl) (by kernel_rfl) (by kernel_rfl) (by kernel_rfl) ?_ ?_ ?_ ?_
      · exact fun f g vs X hfg h => EachJ.congr (n := 15) (by omega) (by omega) (by simp) hfg h
      · intro vs _
        exact EachJ.start (below_drewN2 (Below.refl _ _) 1)
      · refine ⟨?_, ?_, ?_, ?_, ?_, ?_, ?_, ?_, ?_, ?_, ?_, ?_, ?_, ?_, ?_, trivial⟩
        all_goals
          intro f vs X hlen hf hp hj K hK
          obtain ⟨y0, y1, y2, y3, y4, y5, y6, y7, y8, y9, y10, y11, y12, y13, y14, rfl⟩ := len15 hlen
          clear hlen
          have HJ := Lib.hid hj
          clear hj
        · rw [if_pos (by rfl)]
          simp only [putAll, Act.put, List.setIfInBounds_toArray, List.set_cons_zero, List.set_cons_succ] at hK ⊢
          go_simp
          refine hK _ X ?_
          exact HJ.out.step (i := 0) (by simp) (by omega) (by omega) _ (fun u hu => by simpa using hu)
        · rw [if_pos (by rfl)]
          simp only [putAll, Act.put, List.setIfInBounds_toArray, List.set_cons_zero, List.set_cons_succ] at hK ⊢
          go_simp
          refine hK _ X ?_
          exact HJ.out.step (i := 1) (by simp) (by omega) (by omega) _ (fun u hu => by simpa using hu)
        · rw [if_pos (by rfl)]
          simp only [putAll, Act.put, List.setIfInBounds_toArray, List.set_cons_zero, List.set_cons_succ] at hK ⊢
          go_simp
          refine hK _ X ?_
          exact HJ.out.step (i := 2) (by simp) (by omega) (by omega) _ (fun u hu => by simpa using hu)
        · rw [if_pos (by rfl)]
          simp only [putAll, Act.put, List.setIfInBounds_toArray, List.set_cons_zero, List.set_cons_succ] at hK ⊢
          go_simp
          refine hK _ X ?_
          exact HJ.out.step (i := 3) (by simp) (by omega) (by omega) _ (fun u hu => by simpa using hu)
        · rw [if_pos (by rfl)]
          simp only [putAll, Act.put, List.setIfInBounds_toArray, List.set_cons_zero, List.set_cons_succ] at hK ⊢
          have e3 : y3 = .pointer (some ⟨g, 0, none⟩) := HJ.out.1 3 _ (hp 3 (by simp)) rfl
          subst e3
          go_simp
          refine hK _ X ?_
          exact HJ.out.step (i := 4) (by simp) (by omega) (by omega) _ (fun u hu => by simpa using hu)
        · rw [if_pos (by rfl)]
          simp only [putAll, Act.put, List.setIfInBounds_toArray, List.set_cons_zero, List.set_cons_succ] at hK ⊢
          have e4 : y4 = .pointer (some ⟨g, 0, none⟩) := HJ.out.1 4 _ (hp 4 (by simp)) rfl
          subst e4
          go_simp
          refine hK _ X ?_
          exact HJ.out.step (i := 5) (by simp) (by omega) (by omega) _ (fun u hu => by simpa using hu)
        · rw [if_pos (by rfl)]
          simp only [putAll, Act.put, List.setIfInBounds_toArray, List.set_cons_zero, List.set_cons_succ] at hK ⊢
          have e5 : y5 = .pointer (some ⟨g, 0, none⟩) := HJ.out.1 5 _ (hp 5 (by simp)) rfl
          subst e5
          have hlow := HJ.out.low (i := 6) (by omega) hf
          have hBw : Below R w X := HB.out.trans (hlow.mono (by have := HB.out.size; omega))
          have b0 := ((HG.out X hBw).cell 0).trans rfl
          go_simp
          refine hK _ X ?_
          exact HJ.out.step (i := 6) (by simp) (by omega) (by omega) _ (fun u hu => by simpa using hu)
        · rw [if_pos (by rfl)]
          simp only [putAll, Act.put, List.setIfInBounds_toArray, List.set_cons_zero, List.set_cons_succ] at hK ⊢
          go_simp
          refine hK _ X ?_
          exact HJ.out.step (i := 7) (by simp) (by omega) (by omega) _ (fun u hu => by simpa using hu)
        · rw [if_pos (by rfl)]
          simp only [putAll, Act.put, List.setIfInBounds_toArray, List.set_cons_zero, List.set_cons_succ] at hK ⊢
          go_simp
          refine hK _ X ?_
          exact HJ.out.step (i := 8) (by simp) (by omega) (by omega) _ (fun u hu => by simpa using hu)
        · rw [if_pos (by rfl)]
          simp only [putAll, Act.put, List.setIfInBounds_toArray, List.set_cons_zero, List.set_cons_succ] at hK ⊢
          have e7 : y7 = .pointer (some ⟨g, 0, none⟩) := HJ.out.1 7 _ (hp 7 (by simp)) rfl
          subst e7
          have e8 : y8 = .int .i64 (k : Int) := HJ.out.1 8 _ (hp 8 (by simp)) rfl
          subst e8
          have hlow := HJ.out.low (i := 9) (by omega) hf
          have hBw : Below R w X := HB.out.trans (hlow.mono (by have := HB.out.size; omega))
          have hN := HJ.out.before (i := 9) (by omega) hf
          go_simp
          refine (KP.out X (HG.out X hBw)).mono ?_
          rintro e w3 ⟨rfl, md, rfl⟩
          refine hK _ _ ?_
          have HJ2 := HJ.out.world hN (below_drewN2 (Below.refl X.heap.size X) md) (fun v hv => hv.below (below_drewN2 (Below.refl _ _) md))
          exact HJ2.step (i := 9) (by simp) (by omega) (by omega) _ (fun u hu => by simpa using hu)
        · rw [if_pos (by rfl)]
          simp only [putAll, Act.put, List.setIfInBounds_toArray, List.set_cons_zero, List.set_cons_succ] at hK ⊢
          have e6 : y6 = .slice (some ⟨G, 0, none⟩) n n := HJ.out.1 6 _ (hp 6 (by simp)) rfl
          subst e6
          have e9 : y9 = .int .i64 (i : Int) := HJ.out.1 9 _ (hp 9 (by simp)) rfl
          subst e9
          go_simp
          refine hK _ X ?_
          exact HJ.out.step (i := 10) (by simp) (by omega) (by omega) _ (fun u hu => by simpa using hu)
        · rw [if_pos (by rfl)]
          simp only [putAll, Act.put, List.setIfInBounds_toArray, List.set_cons_zero, List.set_cons_succ] at hK ⊢
          have e10 : y10 = .pointer (some ⟨G, i * 5, none⟩) := HJ.out.1 10 _ (hp 10 (by simp)) rfl
          subst e10
          have hlow := HJ.out.low (i := 11) (by omega) hf
          have hBw : Below R w X := HB.out.trans (hlow.mono (by have := HB.out.size; omega))
          obtain ⟨b0, b1, b2, b3, b4⟩ := HGG.out X hBw
          go_simp
          refine hK _ X ?_
          exact HJ.out.step (i := 11) (by simp) (by omega) (by omega) _ (fun u hu => by simpa using hu)
        · rw [if_pos (by rfl)]
          simp only [putAll, Act.put, List.setIfInBounds_toArray, List.set_cons_zero, List.set_cons_succ] at hK ⊢
          have e2 : y2 = .func (.func 90) #[] #[] := HJ.out.1 2 _ (hp 2 (by simp)) rfl
          subst e2
          have e11 : y11 = .agg #[.int .i64 m.id, .slice m.a m.x.length m.c, .int .i64 m.p, .int .i64 m.q, .bool m.s] := HJ.out.1 11 _ (hp 11 (by simp)) rfl
          subst e11
          have hlow := HJ.out.low (i := 12) (by omega) hf
          have hBw : Below R w X := HB.out.trans (hlow.mono (by have := HB.out.size; omega))
          have hN := HJ.out.before (i := 12) (by omega) hf
          go_simp
          refine (KO.out X hBw).mono ?_
          rintro e w3 ⟨A', c', rfl, q1, q2, q3⟩
          refine hK _ w3 ?_
          have HJ2 := HJ.out.world hN q3 (fun v hv => hv.below q3)
          refine HJ2.call hN (by simp) (by omega) _ (fun u hu => by simp at hu) ⟨A', c', rfl, q1, fun h0 => ?_⟩
          obtain ⟨b, e, hb, ho⟩ := q2 h0
          exact ⟨b, e, Nat.le_trans hlow.size hb, ho⟩
        · rw [if_pos (by rfl)]
          simp only [putAll, Act.put, List.setIfInBounds_toArray, List.set_cons_zero, List.set_cons_succ] at hK ⊢
          have e0 : y0 = .slice (some ⟨R, 0, none⟩) cnt cnt := HJ.out.1 0 _ (hp 0 (by simp)) rfl
          subst e0
          have e1 : y1 = .int .i64 (k : Int) := HJ.out.1 1 _ (hp 1 (by simp)) rfl
          subst e1
          go_simp
          refine hK _ X ?_
          exact HJ.out.step (i := 13) (by simp) (by omega) (by omega) _ (fun u hu => by simpa using hu)
        · rw [if_pos (by rfl)]
          simp only [putAll, Act.put, List.setIfInBounds_toArray, List.set_cons_zero, List.set_cons_succ] at hK ⊢
          have e13 : y13 = .pointer (some ⟨R, k, none⟩) := HJ.out.1 13 _ (hp 13 (by simp)) rfl
          subst e13
          have hlow := HJ.out.low (i := 14) (by omega) hf
          have hc := (HJ.out.2.2 hf).2 (hp 12 (by simp))
          obtain ⟨A', c', e12, q1, q2⟩ := hc
          have e12 : y12 = .slice A' m.x.length c' := e12
          subst e12
          obtain ⟨L, l1, l2, -, -⟩ := HO.out.below hlow
          have hRX := l2.lt
          have o0 := vec_at l2 (k := k) (by omega)
          have f0 := l2.free k
          have HFIN := Lib.hid (outV_put HO.out hlow hkc (congrArg (fun y => y.2.1) HSG.out) HML.out q1 q2)
          have HBX := Lib.hid (HB.out.trans (hlow.mono (by have := HB.out.size; omega)))
          clear l2
          go_simp
          refine hK undef _ ?_
          refine HJ.out.fin (by simp) (fun j hj => hp j ?_) _ (fun u hu => by simp at hu) ⟨HFIN.out, HBX.out.setCell (p := ⟨R, k, none⟩) hRw _⟩
          have : j = 0 ∨ j = 1 ∨ j = 2 ∨ j = 3 ∨ j = 4 ∨ j = 5 ∨ j = 6 ∨ j = 7 ∨ j = 8 ∨ j = 9 ∨ j = 10 ∨ j = 11 ∨ j = 12 ∨ j = 13 := by omega
          rcases this with rfl | rfl | rfl | rfl | rfl | rfl | rfl | rfl | rfl | rfl | rfl | rfl | rfl | rfl <;> simp
      · intro vs X hl hj
        obtain ⟨y0, y1, y2, y3, y4, y5, y6, y7, y8, y9, y10, y11, y12, y13, y14, rfl⟩ := len15 hl
        obtain ⟨h1, h2⟩ := (hj.2.1 rfl).2
        have H1 := Lib.hid h1
        have H2 := Lib.hid h2
        clear hj h1 h2
        simp only [putAll, Act.put, List.setIfInBounds_toArray, List.set_cons_zero, List.set_cons_succ]
        go_wp2
        exact ⟨⟨k + 1, by omega, by go_num, H1, H2⟩, by first | (simp [intOf]; done) | (simp [intOf]; omega)⟩
    · obtain rfl : k = cnt := by omega
      go_wp2
      go_ret
      exact ⟨rfl, HO.out, HB.out⟩
set_option maxRecDepth 100000 in
set_option maxHeartbeats 4000000 in
theorem ring_Points (B g G n kk : Nat) (S : Nat → Int × List Int × Int × Int × Bool) (w : World) (h : RingAt w B g G n S kk) (hn0 : 0 < n) (hn2 : n ≤ 1000) :
    Calls Try.prog 28 #[.pointer (some ⟨g, 0, none⟩)] w fun e w' => e = .returned (.slice (some ⟨w.heap.size, 0, none⟩) (cntK n kk) (cntK n kk)) ∧ OutV w' w.heap.size (cntK n kk) (fun j => S (kk - cntK n kk + j)) (cntK n kk) ∧ Below w.heap.size w w' := by
  have K := Lib.hid (ring_each_vector B g G n kk S w h hn0 hn2)
  clear h
  generalize cntK n kk = cnt at *
  go_enter Try.func28, Try.ntmps28
  go_wp2_with fail
  refine (K.out).mono ?_
  rintro e w1 ⟨rfl, h1, h2⟩
  have H1 := Lib.hid h1
  have H2 := Lib.hid h2
  clear h1 h2
  go_wp2
  go_ret
  exact ⟨rfl, H1.out, H2.out⟩
end Go.Proofs.Ytdcemcpcjdkpjaa
/-! Layer 17 (ring): Find. -/
namespace Go.Proofs.Ytdcemcpcjdkpjaa
open Go.RowKit
set_option linter.unusedVariables false
set_option linter.unusedSimpArgs false

theorem len11 {vs : List Value} (h : vs.length = 11) : ∃ y0 y1 y2 y3 y4 y5 y6 y7 y8 y9 y10, vs = [y0, y1, y2, y3, y4, y5, y6, y7, y8, y9, y10] := by
  match vs, h with
  | [y0, y1, y2, y3, y4, y5, y6, y7, y8, y9, y10], _ => exact ⟨_, _, _, _, _, _, _, _, _, _, _, rfl⟩
def PlainJ (E : List (Option Value)) (W : World) (f : Nat → Bool) (vs : List Value) (X : World) : Prop := RegV E f vs ∧ Below W.heap.size W X
theorem PlainJ.step {E : List (Option Value)} {W : World} {f : Nat → Bool} {vs : List Value} {X : World} (h : PlainJ E W f vs X) {i : Nat} (hi : i < vs.length) (v : Value) (hv : ∀ u, E[i]? = some (some u) → v = u) : PlainJ E W (fun j => if j = i then true else f j) (vs.set i v) X := ⟨h.1.set hi hv, h.2⟩
theorem PlainJ.world {E : List (Option Value)} {W : World} {f : Nat → Bool} {vs : List Value} {X X' : World} (h : PlainJ E W f vs X) (hb : Below X.heap.size X X') : PlainJ E W f vs X' := ⟨h.1, h.2.trans (hb.mono h.2.size)⟩
/-- the last one of the first k with that id -/
def fndK (S : Nat → Int × List Int × Int × Int × Bool) (id : Int) : Nat → Nat × Bool
  | 0 => (0, false)
  | k + 1 => if (S k).1 = id then (k, true) else fndK S id k
set_option maxRecDepth 100000 in
set_option maxHeartbeats 4000000 in
theorem ring_is (m : SN) (id : Int) (b0 : Nat) (w : World) (hb : Box w b0 #[.int .i64 id] 3) :
    Calls Try.prog 87 #[.agg #[.int .i64 m.id, .slice m.a m.x.length m.c, .int .i64 m.p, .int .i64 m.q, .bool m.s], .pointer (some ⟨b0, 0, none⟩)] w fun e w' => e = .returned (.bool (decide (m.id = id))) ∧ Below w.heap.size w w' := by
  have HX := Lib.hid ((Kpc.start w).alloc #[.int .i64 m.id, .slice m.a m.x.length m.c, .int .i64 m.p, .int .i64 m.q, .bool m.s] 34)
  obtain ⟨x0, x1, x2, x3, x4⟩ := box5 HX.out.head
  have HG := hb.below HX.out.2.1 hb.lt
  have y0 := (HG.cell 0).trans rfl
  clear hb HG
  by_cases h : m.id = id
  · have e : (m.id == id) = true := by simpa using h
    rw [decide_eq_true h]
    clear h
    generalize m.id = mi at *
    generalize m.x.length = xl at *
    go_enter Try.func87, Try.ntmps87
    go_wp2
    go_ret
    exact ⟨rfl, HX.out.2.1⟩
  · have e : (m.id == id) = false := by simpa using h
    rw [decide_eq_false h]
    clear h
    generalize m.id = mi at *
    generalize m.x.length = xl at *
    go_enter Try.func87, Try.ntmps87
    go_wp2
    go_ret
    exact ⟨rfl, HX.out.2.1⟩
set_option maxRecDepth 100000 in
set_option maxHeartbeats 8000000 in
theorem ring_find (B g G n kk b0 : Nat) (id : Int) (S : Nat → Int × List Int × Int × Int × Bool) (w : World) (h : RingAt w B g G n S kk) (hn0 : 0 < n) (hn2 : n ≤ 1000) (hb0 : Box w b0 #[.int .i64 id] 3) :
    Calls Try.prog 86 #[.pointer (some ⟨g, 0, none⟩), .func (.func 87) #[] #[.pointer (some ⟨b0, 0, none⟩)]] w fun e w' => e = .returned (.tuple #[.int .i64 ((fndK (fun j => S (kk - cntK n kk + j)) id (cntK n kk)).1 : Nat), .bool (fndK (fun j => S (kk - cntK n kk + j)) id (cntK n kk)).2]) ∧ Below w.heap.size w w' := by
  obtain ⟨P, hP, hb, hG, hBG, hgG, hPS, hNX⟩ := h
  have hst : stK n kk ≤ 1000 := by
    unfold stK; split
    · omega
    · have := Nat.mod_lt kk hn0; omega
  have hcn : cntK n kk ≤ n := by unfold cntK; omega
  have hck : cntK n kk ≤ kk := by unfold cntK; omega
  have hck2 : kk ≤ cntK n kk ∨ cntK n kk = n := by unfold cntK; omega
  have HG := Lib.hid (fun X (hX : Below w.heap.size w X) => hb.below hX hb.lt)
  have HI := Lib.hid (fun X (hX : Below w.heap.size w X) => hb0.below hX hb0.lt)
  have HGP := Lib.hid (fun X (hX : Below w.heap.size w X) i (hi : i < P.length) => sn_at (hG.below hX hG.lt) hi)
  have HPA := Lib.hid (fun i (hi : i < cntK n kk) => place_at (n := n) (k := kk) hn0 hi)
  have HPS : Hid (∀ k, k < cntK n kk → sgS (P.getD ((kk - cntK n kk + k) % n) sn0) = S (kk - cntK n kk + k)) := fun k hk => hPS _ (by omega) (by omega)
  have KPL := Lib.hid (fun k (hk : k ≤ 1000) X hX => ring_place g G n (stK n kk) (cntK n kk) k X hX hn0 hn2 hst hk)
  have hP' := Lib.hid hP
  have y2 := (hb.cell 2).trans rfl
  clear hP hG hPS hNX hb hb0
  have HSC : Hid (∀ k, fndK (fun j => S (kk - cntK n kk + j)) id (k + 1) = if (S (kk - cntK n kk + k)).1 = id then (k, true) else fndK (fun j => S (kk - cntK n kk + j)) id k) := fun k => rfl
  generalize hT : (fun j => S (kk - cntK n kk + j)) = T at *
  clear hT
  generalize hcnt : cntK n kk = cnt at *
  clear hcnt
  have hc1000 : cnt ≤ 1000 := by omega
  generalize hST : stK n kk = st at *
  clear hST
  generalize hRES : fndK T id cnt = res at *
  have hwc : wrap64 ((cnt : Int) - 1) = (cnt : Int) - 1 := by unfold wrap64; omega
  go_enter Try.func86, Try.ntmps86
  go_wp2
  go_loopw [6] (fun i wr => ∃ (k : Nat) (v : Int), k ≤ cnt ∧ i = .int .i64 v ∧ v = (k : Int) - 1 ∧ Hid (fndK T id k = res) ∧ Hid (Below w.heap.size w wr)) (fun i _ => (intOf i + 1).toNat)
  case atStart => exact ⟨cnt, _, Nat.le_refl _, rfl, rfl, hRES, Below.refl _ _⟩
  case round =>
    obtain ⟨k, v, hk, rfl, hv, HR, HB⟩ := hrel
    cases k with
    | zero =>
      have hvn : v < 0 := by omega
      have hd : decide ((0 : Int) ≤ v) = false := decide_eq_false (by omega)
      have hd2 : decide (v ≥ (0 : Int)) = false := decide_eq_false (by omega)
      clear hv
      have hr : res = (0, false) := HR.out.symm
      subst hr
      clear HSC HPS HGP HPA KPL
      go_wp2
      go_ret2
      exact ⟨rfl, HB.out⟩
    | succ k =>
      obtain rfl : v = (k : Int) := by omega
      clear hv
      obtain ⟨i, hi⟩ : ∃ i, i = (kk - cnt + k) % n := ⟨_, rfl⟩
      have hin : i < n := by rw [hi]; exact Nat.mod_lt _ hn0
      have hing : (i : Int) < (n : Int) := by omega
      have hpl : (st + k) % n = i := by rw [hi]; exact HPA.out k (by omega)
      have KP := Lib.hid (fun X hX => KPL.out k (by omega) X hX)
      rw [hpl] at KP
      have HSG := HPS.out k (by omega)
      rw [← hi] at HSG
      have HGG := Lib.hid (fun X hX => HGP.out X hX i (by rw [hP'.out]; exact hin))
      have HSk := HSC.out k
      rw [← HSG] at HSk
      clear HPS HGP KPL HPA hi hpl HSC HSG hRES
      generalize P.getD i sn0 = m at *
      have HSk := Lib.hid (show fndK T id (k + 1) = if m.id = id then (k, true) else fndK T id k from HSk)
      have KF := Lib.hid (fun X hX => ring_is m id b0 X hX)
      go_wp2
      refine wp_region_steps (PlainJ [some (.func (.func 87) #[] #[.pointer (some ⟨b0, 0, none⟩)]), some (.pointer (some ⟨g, 0, none⟩)), some (.pointer (some ⟨g, 0, none⟩)), some (.pointer (some ⟨g, 0, none⟩)), some (.slice (some ⟨G, 0, none⟩) n n), some (.pointer (some ⟨g, 0, none⟩)), some (.int .i64 (k : Int)), some (.int .i64 (i : Int)), some (.pointer (some ⟨G, i * 5, none⟩)), some (.agg #[.int .i64 m.id, .slice m.a m.x.length m.c, .int .i64 m.p, .int .i64 m.q, .bool m.s]), some (.bool (decide (m.id = id)))] wr)
        [[], [], [1], [2], [3], [], [], [5, 6], [4, 7], [8], [0, 9, 7]] (by kernel_rfl) (by kernel_rfl) (by kernel_rfl) (by kernel_rfl) ?_ ?_ ?_ ?_
      · rintro f g vs X hfg ⟨h1, h2⟩
        exact ⟨fun j u hj he => h1 j u ((hfg j (by have := (List.getElem?_eq_some_iff.1 he).1; simpa using this)).trans hj) he, h2⟩
      · intro vs _
        exact ⟨fun j u h => (by cases h), below_drewN2 (Below.refl _ _) 1⟩
      · refine ⟨?_, ?_, ?_, ?_, ?_, ?_, ?_, ?_, ?_, ?_, ?_, trivial⟩
        all_goals
          intro f vs X hlen hf hp hj K hK
          obtain ⟨y0, y1, y2, y3, y4, y5, y6, y7, y8, y9, y10, rfl⟩ := len11 hlen
          clear hlen
          have HJ := Lib.hid hj
          clear hj
        · rw [if_pos (by rfl)]
          simp only [putAll, Act.put, List.setIfInBounds_toArray, List.set_cons_zero, List.set_cons_succ] at hK ⊢
          go_simp
          refine hK _ X ?_
          exact HJ.out.step (i := 0) (by simp) _ (fun u hu => by simpa using hu)
        · rw [if_pos (by rfl)]
          simp only [putAll, Act.put, List.setIfInBounds_toArray, List.set_cons_zero, List.set_cons_succ] at hK ⊢
          go_simp
          refine hK _ X ?_
          exact HJ.out.step (i := 1) (by simp) _ (fun u hu => by simpa using hu)
        · rw [if_pos (by rfl)]
          simp only [putAll, Act.put, List.setIfInBounds_toArray, List.set_cons_zero, List.set_cons_succ] at hK ⊢
          have e1 : y1 = .pointer (some ⟨g, 0, none⟩) := HJ.out.1 1 _ (hp 1 (by simp)) rfl
          subst e1
          go_simp
          refine hK _ X ?_
          exact HJ.out.step (i := 2) (by simp) _ (fun u hu => by simpa using hu)
        · rw [if_pos (by rfl)]
          simp only [putAll, Act.put, List.setIfInBounds_toArray, List.set_cons_zero, List.set_cons_succ] at hK ⊢
          have e2 : y2 = .pointer (some ⟨g, 0, none⟩) := HJ.out.1 2 _ (hp 2 (by simp)) rfl
          subst e2
          go_simp
          refine hK _ X ?_
          exact HJ.out.step (i := 3) (by simp) _ (fun u hu => by simpa using hu)
        · rw [if_pos (by rfl)]
          simp only [putAll, Act.put, List.setIfInBounds_toArray, List.set_cons_zero, List.set_cons_succ] at hK ⊢
          have e3 : y3 = .pointer (some ⟨g, 0, none⟩) := HJ.out.1 3 _ (hp 3 (by simp)) rfl
          subst e3
          have hBw : Below w.heap.size w X := HB.out.trans (HJ.out.2.mono HB.out.size)
          have c0 := ((HG.out X hBw).cell 0).trans rfl
          go_simp
          refine hK _ X ?_
          exact HJ.out.step (i := 4) (by simp) _ (fun u hu => by simpa using hu)
        · rw [if_pos (by rfl)]
          simp only [putAll, Act.put, List.setIfInBounds_toArray, List.set_cons_zero, List.set_cons_succ] at hK ⊢
          go_simp
          refine hK _ X ?_
          exact HJ.out.step (i := 5) (by simp) _ (fun u hu => by simpa using hu)
        · rw [if_pos (by rfl)]
          simp only [putAll, Act.put, List.setIfInBounds_toArray, List.set_cons_zero, List.set_cons_succ] at hK ⊢
          go_simp
          refine hK _ X ?_
          exact HJ.out.step (i := 6) (by simp) _ (fun u hu => by simpa using hu)
        · rw [if_pos (by rfl)]
          simp only [putAll, Act.put, List.setIfInBounds_toArray, List.set_cons_zero, List.set_cons_succ] at hK ⊢
          have e5 : y5 = .pointer (some ⟨g, 0, none⟩) := HJ.out.1 5 _ (hp 5 (by simp)) rfl
          subst e5
          have e6 : y6 = .int .i64 (k : Int) := HJ.out.1 6 _ (hp 6 (by simp)) rfl
          subst e6
          have hBw : Below w.heap.size w X := HB.out.trans (HJ.out.2.mono HB.out.size)
          go_simp
          refine (KP.out X (HG.out X hBw)).mono ?_
          rintro e w3 ⟨rfl, md, rfl⟩
          refine hK _ _ ?_
          exact (HJ.out.world (below_drewN2 (Below.refl X.heap.size X) md)).step (i := 7) (by simp) _ (fun u hu => by simpa using hu)
        · rw [if_pos (by rfl)]
          simp only [putAll, Act.put, List.setIfInBounds_toArray, List.set_cons_zero, List.set_cons_succ] at hK ⊢
          have e4 : y4 = .slice (some ⟨G, 0, none⟩) n n := HJ.out.1 4 _ (hp 4 (by simp)) rfl
          subst e4
          have e7 : y7 = .int .i64 (i : Int) := HJ.out.1 7 _ (hp 7 (by simp)) rfl
          subst e7
          go_simp
          refine hK _ X ?_
          exact HJ.out.step (i := 8) (by simp) _ (fun u hu => by simpa using hu)
        · rw [if_pos (by rfl)]
          simp only [putAll, Act.put, List.setIfInBounds_toArray, List.set_cons_zero, List.set_cons_succ] at hK ⊢
          have e8 : y8 = .pointer (some ⟨G, i * 5, none⟩) := HJ.out.1 8 _ (hp 8 (by simp)) rfl
          subst e8
          have hBw : Below w.heap.size w X := HB.out.trans (HJ.out.2.mono HB.out.size)
          obtain ⟨c0, c1, c2, c3, c4⟩ := HGG.out X hBw
          go_simp
          refine hK _ X ?_
          exact HJ.out.step (i := 9) (by simp) _ (fun u hu => by simpa using hu)
        · rw [if_pos (by rfl)]
          simp only [putAll, Act.put, List.setIfInBounds_toArray, List.set_cons_zero, List.set_cons_succ] at hK ⊢
          have e0 : y0 = .func (.func 87) #[] #[.pointer (some ⟨b0, 0, none⟩)] := HJ.out.1 0 _ (hp 0 (by simp)) rfl
          subst e0
          have e9 : y9 = .agg #[.int .i64 m.id, .slice m.a m.x.length m.c, .int .i64 m.p, .int .i64 m.q, .bool m.s] := HJ.out.1 9 _ (hp 9 (by simp)) rfl
          subst e9
          have hBw : Below w.heap.size w X := HB.out.trans (HJ.out.2.mono HB.out.size)
          go_simp
          refine (KF.out X (HI.out X hBw)).mono ?_
          rintro e w3 ⟨rfl, q3⟩
          refine hK _ w3 ?_
          exact (HJ.out.world q3).step (i := 10) (by simp) _ (fun u hu => by simpa using hu)
      · intro vs X hl hj
        obtain ⟨y0, y1, y2, y3, y4, y5, y6, y7, y8, y9, y10, rfl⟩ := len11 hl
        have e10 : y10 = .bool (decide (m.id = id)) := hj.1 10 _ rfl rfl
        subst e10
        have HBX := Lib.hid (HB.out.trans (hj.2.mono HB.out.size))
        clear hj
        by_cases hmi : m.id = id
        · have hr : res = (k, true) := by have := HSk.out; rw [if_pos hmi] at this; rw [← HR.out, this]
          subst hr
          rw [decide_eq_true hmi]
          simp only [putAll, Act.put, List.setIfInBounds_toArray, List.set_cons_zero, List.set_cons_succ]
          clear hmi HSk HR
          go_wp2
          go_ret2
          exact ⟨rfl, HBX.out⟩
        · have HR2 : Hid (fndK T id k = res) := by have := HSk.out; rw [if_neg hmi] at this; rw [← HR.out, this]; rfl
          rw [decide_eq_false hmi]
          simp only [putAll, Act.put, List.setIfInBounds_toArray, List.set_cons_zero, List.set_cons_succ]
          clear hmi HSk HR
          go_wp2
          exact ⟨⟨k, _, by omega, rfl, by omega, HR2, HBX⟩, by first | (simp [intOf]; done) | (simp [intOf]; omega)⟩
set_option maxRecDepth 100000 in
set_option maxHeartbeats 4000000 in
theorem ring_Find (B g G n kk : Nat) (id : Int) (S : Nat → Int × List Int × Int × Int × Bool) (w : World) (h : RingAt w B g G n S kk) (hn0 : 0 < n) (hn2 : n ≤ 1000) :
    Calls Try.prog 25 #[.pointer (some ⟨g, 0, none⟩), .int .i64 id] w fun e w' => e = .returned (.tuple #[.int .i64 ((fndK (fun j => S (kk - cntK n kk + j)) id (cntK n kk)).1 : Nat), .bool (fndK (fun j => S (kk - cntK n kk + j)) id (cntK n kk)).2]) ∧ Below w.heap.size w w' := by
  have hal := (Below.refl w.heap.size w).alloc (Nat.le_refl _) (.cells #[.int .i64 id] 3)
  have K := Lib.hid (ring_find B g G n kk w.heap.size id S (w.alloc (.cells #[.int .i64 id] 3)) (h.below hal) hn0 hn2 (Box.new w _ _))
  have HB := Lib.hid hal
  clear h hal
  generalize fndK (fun j => S (kk - cntK n kk + j)) id (cntK n kk) = res at *
  go_enter Try.func25, Try.ntmps25
  go_wp2_with fail
  refine (K.out).mono ?_
  rintro e w1 ⟨rfl, h2⟩
  have H2 := Lib.hid (HB.out.trans (h2.mono HB.out.size))
  clear h2
  go_wp2
  go_ret2
  exact ⟨rfl, H2.out⟩
end Go.Proofs.Ytdcemcpcjdkpjaa

/-! Layer 17 (ring): what the statements ask of every program. -/
namespace Go.Proofs.Ytdcemcpcjdkpjaa
open Go.RowKit
set_option linter.unusedVariables false
set_option linter.unusedSimpArgs false

def S17 : Nat → Int × List Int × Int × Int × Bool := fun j => if j = 0 then (7, [1], 0, 0, false) else if j = 1 then (8, [2], 0, 0, false) else (9, [3], 0, 0, false)
theorem push17 (B g G k : Nat) (i v : Int) (b : Bool) (z : Nat) (W : World) (hz : z = W.heap.size) (h : RingAt W B g G 2 S17 k) (hB : B ≤ W.heap.size) (hS : S17 k = (i, [v], 0, 0, false)) (hb : decide (2 ≤ k) = b) :
    Calls Try.prog 20 #[.pointer (some ⟨g, 0, none⟩), .agg #[.int .i64 i, .slice (some ⟨z, 0, none⟩) 1 1, .int .i64 0, .int .i64 0, .bool false]] (W.alloc (.cells #[.int .i64 v] 3)) fun e w' => ∃ o : SN, e = .returned (.tuple #[.agg #[.int .i64 o.id, .slice o.a o.x.length o.c, .int .i64 o.p, .int .i64 o.q, .bool o.s], .bool b]) ∧ RingAt w' B g G 2 S17 (k + 1) ∧ Below B W w' ∧ (2 ≤ k → o.id = (S17 (k - 2)).1) := by
  subst hz
  have hbl := (Below.refl W.heap.size W).alloc (Nat.le_refl _) (.cells #[.int .i64 v] 3)
  refine (ring_Push B g G 2 k (W.heap.size + 1) S17 i 0 0 false (some ⟨W.heap.size, 0, none⟩) [v] 1 _ (h.below hbl) (by omega) (by omega) (lies_new W [v]) (by rw [alloc_size']; exact Nat.le_refl _) (by simp) hS).mono ?_
  rintro e w' ⟨o, rfl, h1, h2, h3, h4⟩
  rw [hb]
  exact ⟨o, rfl, h1, (hbl.mono hB).trans h2, fun h5 => by rw [← h3 h5]; rfl⟩
theorem n17 : cntK 2 3 = 2 ∧ fndK (fun j => S17 (3 - 2 + j)) 8 2 = (0, true) ∧ S17 (3 - 2 + 1) = (9, [3], 0, 0, false) ∧ S17 0 = (7, [1], 0, 0, false) := by decide +kernel
theorem RingAt.bd {w : World} {B g G n k : Nat} {S : Nat → Int × List Int × Int × Int × Bool} (h : RingAt w B g G n S k) : B ≤ w.heap.size ∧ g < w.heap.size := by
  obtain ⟨P, -, hb, hG, h1, h2, -⟩ := h
  exact ⟨by have := hG.lt; omega, hb.lt⟩
set_option maxRecDepth 100000 in
set_option maxHeartbeats 8000000 in
theorem lives17 (w : World) : Calls Try.prog 15 #[] w fun e w' => e = .returned (.bool true) ∧ Below w.heap.size w w' := by
  obtain ⟨v1, v2, v3, v4⟩ := n17
  have KN : Hid (∀ W, Calls Try.prog 16 #[.int .i64 2] W fun e w' => ∃ g G, e = .returned (.tuple #[.pointer (some ⟨g, 0, none⟩), .int .i64 0]) ∧ RingAt w' W.heap.size g G 2 S17 0 ∧ Below W.heap.size W w') := fun W => ring_New 2 W S17 (by omega) (by omega)
  have KP1 := Lib.hid (fun B g G z W hz h hB => push17 B g G 0 7 1 false z W hz h hB rfl (by decide))
  have KP2 := Lib.hid (fun B g G z W hz h hB => push17 B g G 1 8 2 false z W hz h hB rfl (by decide))
  have KP3 := Lib.hid (fun B g G z W hz h hB => push17 B g G 2 9 3 true z W hz h hB rfl (by decide))
  have KA : Hid (∀ B g G W, RingAt W B g G 2 S17 3 → Calls Try.prog 24 #[.pointer (some ⟨g, 0, none⟩), .int .i64 1] W (AtE W (9, [3], 0, 0, false))) := by
    intro B g G W h
    have := ring_At B g G 2 3 1 S17 W h (by omega) (by omega) (by rw [v1]; omega)
    rw [v1, v3] at this
    exact this
  have KF : Hid (∀ B g G W, RingAt W B g G 2 S17 3 → Calls Try.prog 25 #[.pointer (some ⟨g, 0, none⟩), .int .i64 8] W fun e w' => e = .returned (.tuple #[.int .i64 0, .bool true]) ∧ Below W.heap.size W w') := by
    intro B g G W h
    have := ring_Find B g G 2 3 8 S17 W h (by omega) (by omega)
    rw [v1, v2] at this
    exact this
  have KL : Hid (∀ B g G W, RingAt W B g G 2 S17 3 → Calls Try.prog 17 #[.pointer (some ⟨g, 0, none⟩)] W fun e w' => e = .returned (.int .i64 2) ∧ w' = W) := by
    intro B g G W h
    have := ring_Len B g G 2 3 S17 W h
    rw [v1] at this
    exact this
  have KR : Hid (∀ B g G W, RingAt W B g G 2 S17 3 → Calls Try.prog 18 #[.pointer (some ⟨g, 0, none⟩)] W fun e w' => e = .returned (.int .i64 2) ∧ w' = W) := fun B g G W h => ring_Room B g G 2 3 S17 W h
  have KAl : Hid (∀ B g G W, RingAt W B g G 2 S17 3 → Calls Try.prog 23 #[.pointer (some ⟨g, 0, none⟩)] W fun e w' => e = .returned (.slice (some ⟨W.heap.size, 0, none⟩) 2 2) ∧ Below W.heap.size W w') := by
    intro B g G W h
    have := ring_All B g G 2 3 S17 W h (by omega) (by omega)
    rw [v1] at this
    exact this.mono fun e w' h => ⟨h.1, h.2.2⟩
  have KPo : Hid (∀ B g G W, RingAt W B g G 2 S17 3 → Calls Try.prog 28 #[.pointer (some ⟨g, 0, none⟩)] W fun e w' => e = .returned (.slice (some ⟨W.heap.size, 0, none⟩) 2 2) ∧ Below W.heap.size W w') := by
    intro B g G W h
    have := ring_Points B g G 2 3 S17 W h (by omega) (by omega)
    rw [v1] at this
    exact this.mono fun e w' h => ⟨h.1, h.2.2⟩
  have KAn := Lib.hid (fun W => ring_At_nil 0 W)
  have KNb := Lib.hid (fun W => ring_New_bad 0 W (.inl (by omega)))
  have KLn := Lib.hid (fun W => ring_Len_nil W)
  clear v1 v2 v3
  have hw0 : Hid (∀ X, Below w.heap.size w X → w.heap.size ≤ X.heap.size) := fun X h => h.size
  go_enter Try.func15, Try.ntmps15
  go_wp2_with fail
  refine (KN.out _).mono ?_
  rintro e w0 ⟨g, G, rfl, hR, hb⟩
  have HR := Lib.hid hR
  have HB := Lib.hid hb
  clear hR hb
  go_wp2_with fail
  refine (KP1.out _ _ _ _ _ (by first | rfl | rw [alloc_size']) HR.out HR.out.bd.1).mono ?_
  rintro e w1 ⟨o1, rfl, hR, hb, -⟩
  have hal := (Below.refl w1.heap.size w1).alloc (Nat.le_refl _) (.cells #[.int .i64 o1.id, .slice o1.a o1.x.length o1.c, .int .i64 o1.p, .int .i64 o1.q, .bool o1.s] 34)
  have HR := Lib.hid (hR.below hal)
  have HB := Lib.hid ((HB.out.trans hb).trans (hal.mono hR.bd.1))
  clear hR hb hal
  go_wp2_with fail
  refine (KP2.out _ _ _ _ _ (by first | rfl | rw [alloc_size']) HR.out HR.out.bd.1).mono ?_
  rintro e w2 ⟨o2, rfl, hR, hb, -⟩
  have hal := (Below.refl w2.heap.size w2).alloc (Nat.le_refl _) (.cells #[.int .i64 o2.id, .slice o2.a o2.x.length o2.c, .int .i64 o2.p, .int .i64 o2.q, .bool o2.s] 34)
  have HR := Lib.hid (hR.below hal)
  have HB := Lib.hid ((HB.out.trans hb).trans (hal.mono hR.bd.1))
  clear hR hb hal
  go_wp2_with fail
  refine (KP3.out _ _ _ _ _ (by first | rfl | rw [alloc_size']) HR.out HR.out.bd.1).mono ?_
  rintro e w3 ⟨o3, rfl, hR, hb, hs⟩
  have hal := (Below.refl w3.heap.size w3).alloc (Nat.le_refl _) (.cells #[.int .i64 o3.id, .slice o3.a o3.x.length o3.c, .int .i64 o3.p, .int .i64 o3.q, .bool o3.s] 34)
  have HR := Lib.hid (hR.below hal)
  have HB := Lib.hid ((HB.out.trans hb).trans (hal.mono hR.bd.1))
  have HS := Lib.hid (Box.new w3 #[.int .i64 o3.id, .slice o3.a o3.x.length o3.c, .int .i64 o3.p, .int .i64 o3.q, .bool o3.s] 34)
  have ho3 : Hid (o3.id = 7) := (hs (Nat.le_refl 2)).trans (by decide +kernel)
  clear hs
  clear hR hb hal
  go_wp2_with fail
  refine (KA.out _ _ _ _ HR.out).mono ?_
  rintro e w4 ⟨A4, c4, rfl, -, -, -, hb⟩
  have hb := hb.trans (((Below.refl w4.heap.size w4).alloc (Nat.le_refl _) (.cells #[.int .i64 9, .slice A4 1 c4, .int .i64 0, .int .i64 0, .bool false] 34)).mono hb.size)
  have HX := Lib.hid (Box.new w4 #[.int .i64 9, .slice A4 1 c4, .int .i64 0, .int .i64 0, .bool false] 34)
  have HS := Lib.hid (HS.out.below hb HS.out.lt)
  have HR := Lib.hid (HR.out.below hb)
  have HB := Lib.hid (HB.out.trans (hb.mono HB.out.size))
  clear hb
  go_wp2_with fail
  refine (KF.out _ _ _ _ HR.out).mono ?_
  rintro e w5 ⟨rfl, hb⟩
  have HS := Lib.hid (HS.out.below hb HS.out.lt)
  have HX := Lib.hid (HX.out.below hb HX.out.lt)
  have HR := Lib.hid (HR.out.below hb)
  have HB := Lib.hid (HB.out.trans (hb.mono HB.out.size))
  clear hb
  go_wp2_with fail
  refine (KAn.out _).mono ?_
  rintro e w6 ⟨rfl, hb⟩
  have hb := hb.trans (((Below.refl w6.heap.size w6).alloc (Nat.le_refl _) (.cells #[.int .i64 0, .slice none 0 0, .int .i64 0, .int .i64 0, .bool false] 34)).mono hb.size)
  have HS := Lib.hid (HS.out.below hb HS.out.lt)
  have HX := Lib.hid (HX.out.below hb HX.out.lt)
  have HR := Lib.hid (HR.out.below hb)
  have HB := Lib.hid (HB.out.trans (hb.mono HB.out.size))
  clear hb
  go_wp2_with fail
  refine (KNb.out _).mono ?_
  rintro e w7 ⟨rfl, rfl⟩
  obtain ⟨s0, s1, s2, s3, s4⟩ := box5 HS.out
  obtain ⟨x0, x1, x2, x3, x4⟩ := box5 HX.out
  rw [ho3.out] at s0
  go_wp2_with fail
  refine (KL.out _ _ _ _ HR.out).mono ?_
  rintro e w8 ⟨rfl, rfl⟩
  go_wp2_with fail
  refine (KR.out _ _ _ _ HR.out).mono ?_
  rintro e w9 ⟨rfl, rfl⟩
  go_wp2_with fail
  refine (KAl.out _ _ _ _ HR.out).mono ?_
  rintro e w10 ⟨rfl, hb⟩
  have HR := Lib.hid (HR.out.below hb)
  have HB := Lib.hid (HB.out.trans (hb.mono HB.out.size))
  clear hb
  go_wp2_with fail
  refine (KPo.out _ _ _ _ HR.out).mono ?_
  rintro e w11 ⟨rfl, hb⟩
  have HR := Lib.hid (HR.out.below hb)
  have HB := Lib.hid (HB.out.trans (hb.mono HB.out.size))
  clear hb
  go_wp2_with fail
  refine (KLn.out _).mono ?_
  rintro e w12 ⟨rfl, rfl⟩
  go_wp2
  go_ret
  exact ⟨rfl, HB.out⟩
end Go.Proofs.Ytdcemcpcjdkpjaa

/-! Layer 17 (ring): what the statement of the last ones asks: the events that lie, from one on. -/
namespace Go.Proofs.Ytdcemcpcjdkpjaa
open Go.RowKit
set_option linter.unusedVariables false
set_option linter.unusedSimpArgs false

theorem addr_add0 (G j : Nat) : (⟨G, 0, none⟩ : Addr).add j = ⟨G, j, none⟩ := by unfold Addr.add; split <;> simp_all
theorem OutAt.lies {w : World} {R cnt k : Nat} {S : Nat → Int × List Int × Int × Int × Bool} (h : OutAt w R cnt S k) : ∃ L1 : List SN, L1.length = cnt ∧ LiesSs w w.heap.size (some ⟨R, 0, none⟩) L1 ∧ (∀ j, j < k → sgS (L1.getD j sn0) = S j) ∧ ∀ m ∈ L1, m.x.length ≤ 1000 := by
  obtain ⟨L, h1, h2, h3, h4⟩ := h
  refine ⟨L, h1, ⟨fun h0 => ⟨_, rfl, h2.lt, fun k hk j hj => ?_⟩, fun m hm h0 => ?_⟩, h3, fun m hm => (h4 m hm).2.1⟩
  · rw [addr_add0]
    obtain ⟨a0, a1, a2, a3, a4⟩ := sn_at h2 hk
    match j, hj with
    | 0, _ => exact a0
    | 1, _ => exact a1
    | 2, _ => exact a2
    | 3, _ => exact a3
    | 4, _ => exact a4
  · obtain ⟨b, e, hb, ho⟩ := (h4 m hm).2.2 h0
    rw [e]
    exact ho.lies h0
theorem drop_at (L : List SN) (f k : Nat) : (L.drop f).getD k sn0 = L.getD (f + k) sn0 := by
  simp [List.getD_eq_getElem?_getD, List.getElem?_drop]
theorem lies_drop {w : World} {B f : Nat} {ad : Addr} {L : List SN} (h : LiesSs w B (some ad) L) : LiesSs w B (some (ad.add (f * 5))) (L.drop f) :=
  ⟨fun h0 => by
    rw [List.length_drop] at h0
    obtain ⟨ad', e, hb, hc⟩ := h.1 (by omega)
    cases e
    refine ⟨_, rfl, by rw [add_block]; exact hb, fun k hk j hj => ?_⟩
    rw [List.length_drop] at hk
    rw [add_addT, show f * 5 + (k * 5 + j) = (f + k) * 5 + j from by omega, hc (f + k) (by omega) j hj, drop_at], fun n hn => h.2 n (List.mem_of_mem_drop hn)⟩
theorem same_last {L : List SN} {f R cnt c2 : Nat} {A2 : Option Addr} (w X : World) (hl : L.length ≤ 300) (hc : cnt + f = L.length) (hA : LiesSs w w.heap.size A2 (L.drop f)) (hX : Below w.heap.size w X) (hO : OutAt X R cnt (fun j => sgS (L.getD (L.length - cnt + j) sn0)) cnt) :
    Calls Try.prog 22 #[.slice (some ⟨R, 0, none⟩) cnt cnt, .slice A2 cnt c2] X fun e w' => e = .returned (.bool true) ∧ Below X.heap.size X w' := by
  obtain ⟨L1, e1, h1, h2, h3⟩ := hO.lies
  have hm : L1.map sgS = (L.drop f).map sgS := by
    apply List.ext_getElem?
    intro j
    rw [List.getElem?_map, List.getElem?_map]
    by_cases hj : j < cnt
    · have a := h2 j hj
      rw [show L.length - cnt + j = f + j from by omega, ← drop_at] at a
      rw [List.getD_eq_getElem?_getD, List.getD_eq_getElem?_getD, List.getElem?_eq_getElem (by omega), List.getElem?_eq_getElem (by rw [List.length_drop]; omega)] at a
      rw [List.getElem?_eq_getElem (by omega), List.getElem?_eq_getElem (by rw [List.length_drop]; omega)]
      exact congrArg some a
    · rw [List.getElem?_eq_none (by omega), List.getElem?_eq_none (by rw [List.length_drop]; omega)]
  have h := ref_SameAll17 L1 (L.drop f) (some ⟨R, 0, none⟩) A2 cnt c2 X.heap.size X (by omega) h3 hm h1 ((hA.below hX).mono hX.size) (Nat.le_refl _)
  rw [List.length_drop, e1, show L.length - f = cnt from by omega] at h
  exact h
end Go.Proofs.Ytdcemcpcjdkpjaa
