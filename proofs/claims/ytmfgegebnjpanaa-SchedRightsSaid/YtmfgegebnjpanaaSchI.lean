/- Layer 20 (sched): Plan of the code. -/
import Derived.Test.YtmfgegebnjpanaaSchH
import Derived.Deep.Upon
namespace Go.Proofs.Ytmfgegebnjpanaa
open Go.RowKit
set_option linter.unusedVariables false
set_option linter.unusedSimpArgs false

theorem Two.below {B : Nat} {w w' : World} {v1 v2 : Value} {l1 l2 : List Int} (h : Two B w v1 l1 v2 l2) (hb : Below w.heap.size w w') : Two B w' v1 l1 v2 l2 := ⟨ownI_below h.1 hb, ownI_below h.2.1 hb, h.2.2⟩
theorem own_atI {w : World} {B g n c : Nat} {l : List Int} (h : w.ownsRow B 3 1 (.slice (some ⟨g, 0, none⟩) n c) l.length (litI l)) : OwnI w g l := by
  rcases h.2 with ⟨e, h1⟩ | ⟨g', cap, cur, e, hb, hh, hnc, hm, hsz, hx⟩
  · cases e
  · cases e
    exact ⟨cur, hh, by simpa using hx⟩
theorem own_setI {w : World} {B g n c : Nat} {l : List Int} (h : w.ownsRow B 3 1 (.slice (some ⟨g, 0, none⟩) n c) l.length (litI l)) (k : Nat) (x : Int) :
    (w.setCell ⟨g, k, none⟩ (.int .i64 x)).ownsRow B 3 1 (.slice (some ⟨g, 0, none⟩) n c) (l.set k x).length (litI (l.set k x)) := by
  rcases h.2 with ⟨e, h1⟩ | ⟨g', cap, cur, e, hb, hh, hnc, hm, hsz, hx⟩
  · cases e
  · cases e
    refine ⟨by rw [litI_len]; omega, .inr ⟨g, c, cur.setIfInBounds k (.int .i64 x), by rw [List.length_set], hb, Box.set (t := 3) hh k _, by rw [List.length_set]; exact hnc, hm, by simpa using hsz, ?_⟩⟩
    have hx' : cur.toList.take l.length = litI l := by simpa using hx
    rw [Array.toList_setIfInBounds, List.length_set, Nat.mul_one, List.take_set, hx']
    unfold litI
    rw [List.map_set]
theorem own_offI {w : World} {B : Nat} {v : Value} {n : Nat} {xs : List Value} (h : w.ownsRow B 3 1 v n xs) {p : Addr} (hp : v.ownBlock ≠ some p.block) (u : Value) : (w.setCell p u).ownsRow B 3 1 v n xs := by
  refine ⟨h.1, ?_⟩
  rcases h.2 with h1 | ⟨g, cap, cur, rfl, hb, hh, hr⟩
  · exact .inl h1
  · exact .inr ⟨g, cap, cur, rfl, hb, Box.off (t := 3) hh (fun e => hp (by simp [Value.ownBlock, e])) u, hr⟩
theorem Two.put {B : Nat} {w : World} {v1 : Value} {l1 l2 : List Int} {g n c : Nat} (h : Two B w v1 l1 (.slice (some ⟨g, 0, none⟩) n c) l2) (k : Nat) (x : Int) :
    Two B (w.setCell ⟨g, k, none⟩ (.int .i64 x)) v1 l1 (.slice (some ⟨g, 0, none⟩) n c) (l2.set k x) := by
  refine ⟨own_offI h.1 ?_ _, own_setI h.2.1 k x, h.2.2⟩
  rcases h.2.2 with e | e
  · rw [e]; simp
  · intro e2; exact e (by rw [e2]; rfl)
theorem src_nilI {size : Nat} {t : TypeId} {e : TypeId} (ht : Try.prog.underlying t = some (.slice e)) (X : Option Addr) (c : Nat) (w : World) : Src Try.prog size t (.slice X 0 c) 0 [] w := by
  refine ⟨.inl ⟨e, ht⟩, fun w' => by simp [Builtin.lenOf], ?_, ?_, by simp, by simp⟩
  · cases X with
    | none => exact run_firstCells_none _ _ _ _ _
    | some b => exact run_firstCells_some (P := Try.prog) w size 0 b 0 c [] (by simp) (by simp)
  · cases X with
    | none => exact run_firstCells_none _ _ _ _ _
    | some b => exact run_firstCells_some (P := Try.prog) w.drew size 0 b 0 c [] (by simp) (by simp)
/-- a list onto one of the call's own -/
theorem app_rowI {B : Nat} {wr : World} {ops : Array Oper} {rest : List Oper} {o : Oper} {a : Act} {Q : Exit → Act → World → Prop} (hgd : o.guard = none) (s x : Operand)
    (ho : o.op = .call { callee := .builtin .append, args := #[s, x], argTypes := #[30, 30] })
    (v : Value) (l news : List Int) (X : Option Addr) (c K : Nat) (hs : a.eval s = v) (hown : wr.ownsRow B 3 1 v l.length (litI l)) (hx : a.eval x = .slice X news.length c) (hL : Lies wr K X news)
    (hB : B ≤ wr.heap.size) (hn : l.length + news.length ≤ 1000000000)
    (h : ∀ v' w', w'.ownsRow B 3 1 v' (l ++ news).length (litI (l ++ news)) → Below B wr w' → wpList Try.prog ops Q rest (a.put o.dst v') w') :
    wpList Try.prog ops Q (o :: rest) a wr := by
  obtain ⟨i0, hi, hz0, hz1, hz2⟩ := info_parts infoI
  rcases Nat.eq_zero_or_pos news.length with h0 | h0
  · obtain rfl : news = [] := List.eq_nil_of_length_eq_zero h0
    have hf : ∃ b n cc, v = .slice b n cc ∧ n ≤ cc := by
      rcases hown.2 with ⟨rfl, h1⟩ | ⟨g, cap, cur, rfl, _, _, hnc, _⟩
      · exact ⟨_, _, _, rfl, by omega⟩
      · exact ⟨_, _, _, rfl, hnc⟩
    obtain ⟨b, n, cc, rfl, hle⟩ := hf
    have hr := run_append_nothing (P := Try.prog) wr 30 30 o.type 3 i0 Try.underlying30 hi b n cc hle (.slice X 0 c) (src_nilI Try.underlying30 X c wr)
    refine wpList_plain hgd fun _ hK => ?_
    unfold Oper.wp execOp
    simp only [ho, resolve, invoke, builtin, Sem.run_bind, Sem.run_pure, Result.andThen_ok, List.map_toArray, List.map_cons, List.map_nil, hs, hx, List.length_nil, hr]
    refine hK _ _ (h _ _ ?_ (Below.refl _ _))
    simpa using hown
  · obtain ⟨ad, rfl, _, hc⟩ := hL h0
    refine wpList_append_own _ hgd s x 30 ho B 3 i0 (.int .i64 0) 1 8 Try.underlying30 hi hz0 hz1 hz2 rfl (by decide) v l.length (litI l) hs hown ad news.length c (litI news) hx (by simp [litI]) ?_ ?_ ?_ ?_ ?_ ?_
    · intro j u hj
      have hjl : j < news.length := by
        rcases Nat.lt_or_ge j news.length with h1 | h1
        · exact h1
        · rw [List.getElem?_eq_none (by simpa [litI] using h1)] at hj; cases hj
      rw [litI_get _ _ hjl] at hj
      rw [← hj]; exact hc j hjl
    · intro u hu
      simp only [litI, List.mem_map] at hu
      obtain ⟨y, _, rfl⟩ := hu; rfl
    · unfold maxLen; omega
    · omega
    · exact hB
    · intro v' w' h1 h2 _
      refine h v' w' ?_ ?_
      · rw [List.length_append, show litI (l ++ news) = litI l ++ litI news from by simp [litI]]; exact h1
      · refine (Below.refl _ _).grown h2 hB fun k hk => ?_
        rcases hown.2 with ⟨rfl, _⟩ | ⟨g, cap, cur, rfl, hg, _⟩
        · simp [Value.ownBlock] at hk
        · simp only [Value.ownBlock, Option.some.injEq] at hk; omega
/-- two lists and an error -/
def GivesPl (I L : List Int) (e0 : Int) (w : World) (e : Ending) (w' : World) : Prop :=
  ∃ A1 c1 A2 c2, e = .returned (.tuple #[.slice A1 I.length c1, .slice A2 L.length c2, .int .i64 e0]) ∧ Lies w' w'.heap.size A1 I ∧ Lies w' w'.heap.size A2 L ∧ Below w.heap.size w w'
theorem givesPl_nil {w w' : World} {e0 : Int} (h : Below w.heap.size w w') : GivesPl [] [] e0 w (.returned (.tuple #[.slice none 0 0, .slice none 0 0, .int .i64 e0])) w' := ⟨none, 0, none, 0, rfl, Lies.nil, Lies.nil, h⟩
theorem Two.gives {B : Nat} {w w' : World} {v1 v2 : Value} {I L : List Int} (h : Two B w' v1 I v2 L) (hb : Below w.heap.size w w') : GivesPl I L 0 w (.returned (.tuple #[v1, v2, .int .i64 0])) w' := by
  obtain ⟨A1, c1, rfl, _, _, L1⟩ := lies_ownI h.1
  obtain ⟨A2, c2, rfl, _, _, L2⟩ := lies_ownI h.2.1
  exact ⟨A1, c1, A2, c2, rfl, L1, L2, hb⟩
theorem plI_succ (T : Nat) (ev X : Int) (b : List Int) (k : Nat) : plI T ev X b k ++ [((placeV T (plB T ev X b k) : Nat) : Int)] = plI T ev X b (k + 1) := rfl
theorem plB_app {T : Nat} {ev X : Int} {b : List Int} {k : Nat} (h : (plB T ev X b k).length < T) : plB T ev X b k ++ [X + ev * k] = plB T ev X b (k + 1) := by
  show _ = bornV _ _ _
  unfold bornV; rw [if_pos h]
theorem plB_set {T : Nat} {ev X : Int} {b : List Int} {k : Nat} (h : ¬ (plB T ev X b k).length < T) : (plB T ev X b k).set (placeV T (plB T ev X b k)) (X + ev * k) = plB T ev X b (k + 1) := by
  show _ = bornV _ _ _
  unfold bornV; rw [if_neg h]
set_option maxRecDepth 100000 in
set_option maxHeartbeats 8000000 in
theorem sch_Plan_ok (dim win sam ev kind part whole tries keep notes : Int) (T : Nat) (n : Int) (b : List Int) (t : Nat) (A : Option Addr) (c : Nat) (w : World) (hwh : I64 whole) (hok : CfOk dim win (T : Nat) sam ev kind part whole tries keep notes) (hn : inC n) (hf : fitB T n b) (ht : t ≤ 64) (hA : Lies w w.heap.size A b) :
    Calls Try.prog 66 #[cfV dim win (T : Nat) sam ev kind part whole tries keep notes, .int .i64 n, .slice A b.length c, .int .i64 t] w (GivesPl (plI T ev (nextV sam ev n) b t) (plB T ev (nextV sam ev n) b t) 0 w) := by
  have HX := Lib.hid (Box.new w #[.int .i64 dim, .int .i64 win, .int .i64 ((T : Nat) : Int), .int .i64 sam, .int .i64 ev, .int .i64 kind, .int .i64 part, .int .i64 whole, .int .i64 tries, .int .i64 keep, .int .i64 notes] 88)
  obtain ⟨y0, y1, y2, y3, y4, y5, y6, y7, y8, y9, y10⟩ := box11 HX.out
  have HB := Lib.hid ((Below.refl w.heap.size w).alloc (Nat.le_refl _) (.cells #[.int .i64 dim, .int .i64 win, .int .i64 ((T : Nat) : Int), .int .i64 sam, .int .i64 ev, .int .i64 kind, .int .i64 part, .int .i64 whole, .int .i64 tries, .int .i64 keep, .int .i64 notes] 88))
  have K1 := Lib.hid (fun g W hg => check20_one dim win (T : Nat) sam ev kind part whole tries keep notes hwh n g W hg)
  rw [okB.1 hok, (ck_one n).1 hn] at K1
  have hev : 1 ≤ ev ∧ ev ≤ 256 := by unfold CfOk at hok; omega
  have hsa : 2 ≤ sam ∧ sam ≤ 64 := by unfold CfOk at hok; omega
  have htr : 1 ≤ T ∧ T ≤ 16 := by unfold CfOk at hok; omega
  have HA := Lib.hid (fun W (h : Below w.heap.size w W) => (hA.below h).mono h.size)
  have K2 := Lib.hid (fun W (h : Lies W W.heap.size A b) => sch_fits dim win sam ev kind part whole tries keep notes T n A b c W h (by omega) (by have := hf.1; omega))
  rw [decide_eq_true hf] at K2
  have K3 := Lib.hid (fun W => sch_next dim win (T : Nat) sam ev kind part whole tries keep notes n W hev hsa hn)
  have K4 := Lib.hid (fun (l : List Int) A c W (h : Lies W W.heap.size A l) (hl : l.length ≤ 1000000) => sch_place dim win sam ev kind part whole tries keep notes T A l c W.heap.size W h (Nat.le_refl _) (by omega) (by omega) hl)
  have hXb := next_bd (sam := sam) (n := n) hev.1
  have HL := Lib.hid (plB_len (ev := ev) (n := nextV sam ev n) hf.1)
  have HLI := Lib.hid (plI_len T ev (nextV sam ev n) b)
  have hbl := hf.1
  unfold inC at hn
  have HS1 := Lib.hid (plI_succ T ev (nextV sam ev n) b)
  have HS2 := Lib.hid (fun k => plB_app (T := T) (ev := ev) (X := nextV sam ev n) (b := b) (k := k))
  have HS3 := Lib.hid (fun k => plB_set (T := T) (ev := ev) (X := nextV sam ev n) (b := b) (k := k))
  have HPL := Lib.hid (fun (l : List Int) h => placeV_full (tr := T) (b := l) (by omega) h) 
  have HPA : Hid (∀ l : List Int, l.length < T → placeV T l = l.length) := fun l h => by unfold placeV; rw [if_pos h]
  generalize nextV sam ev n = X at *
  clear hok hf hA hwh
  generalize hN : b.length = N at *
  have HN := Lib.hid hN
  clear hN
  have ht0 : ¬ (t : Int) < 0 := by omega
  have ht1 : ¬ (64 : Int) < (t : Int) := by omega
  go_enter Try.func66, Try.ntmps66
  go_wp2_with fail
  refine (K1.out _ _ (by simp)).mono ?_
  rintro e w1 ⟨rfl, b1⟩
  have HX1 := Lib.hid (HX.out.below b1 HX.out.lt)
  have HB1 := Lib.hid (HB.out.trans (b1.mono HB.out.size))
  clear b1 y0 y1 y2 y3 y4 y5 y6 y7 y8 y9 y10 HX HB K1
  obtain ⟨y0, y1, y2, y3, y4, y5, y6, y7, y8, y9, y10⟩ := box11 HX1.out
  go_wp2_with fail
  refine (K2.out _ (HA.out _ HB1.out)).mono ?_
  rintro e w2 ⟨rfl, b2⟩
  have HX2 := Lib.hid (HX1.out.below b2 HX1.out.lt)
  have HB2 := Lib.hid (HB1.out.trans (b2.mono HB1.out.size))
  clear b2 y0 y1 y2 y3 y4 y5 y6 y7 y8 y9 y10 K2
  obtain ⟨y0, y1, y2, y3, y4, y5, y6, y7, y8, y9, y10⟩ := box11 HX2.out
  have hs2 : w.heap.size + 1 ≤ w2.heap.size := HX2.out.lt
  have HS0 := Lib.hid (show Value.slice A N c = .slice A b.length c from by rw [HN.out])
  have hnl : ([] : List Int).length + b.length ≤ 1000000000 := by rw [HN.out]; simp; omega
  go_wp2_with (at_builtin; refine app_rowI rfl (.const (.slice none 0 0)) (.tmp 36) rfl (.slice none 0 0) [] b A c w2.heap.size rfl (World.ownsRow_nil _ _ _ _) HS0.out (HA.out _ HB2.out) hs2 hnl ?_; intro va w3 hva b3; have HX3 := Lib.hid (HX2.out.below b3 (Nat.lt_succ_self _)); obtain ⟨y0, y1, y2, y3, y4, y5, y6, y7, y8, y9, y10⟩ := box11 HX3.out)
  have HT3 : Hid (Two (w.heap.size + 1) w3 (.slice none 0 0) (plI T ev X b 0) va (plB T ev X b 0)) := ⟨World.ownsRow_nil _ _ _ _, (by rw [List.nil_append] at hva; exact hva), .inl rfl⟩
  have HB3 := Lib.hid (HB2.out.trans (b3.mono (Nat.le_succ _)))
  clear b3 hva
  refine (K3.out _).mono ?_
  rintro e w4 ⟨rfl, b4⟩
  have HT4 := Lib.hid (HT3.out.below b4)
  have HX4 := Lib.hid (HX3.out.below b4 HX3.out.lt)
  have HB4 := Lib.hid (HB3.out.trans (b4.mono HB3.out.size))
  clear b4 y0 y1 y2 y3 y4 y5 y6 y7 y8 y9 y10 K3 HT3 HX3 HB3 HX2 HB2 HX1 HB1
  go_wp2
  go_loopw [42, 12, 13, 14] (fun i p q m wr => ∃ k : Nat, k ≤ t ∧ i = .int .i64 k ∧ m = .int .i64 (X + ev * k) ∧ Hid (Two (w.heap.size + 1) wr p (plI T ev X b k) q (plB T ev X b k)) ∧ Hid (Box wr w.heap.size #[.int .i64 dim, .int .i64 win, .int .i64 ((T : Nat) : Int), .int .i64 sam, .int .i64 ev, .int .i64 kind, .int .i64 part, .int .i64 whole, .int .i64 tries, .int .i64 keep, .int .i64 notes] 88) ∧ Hid (Below w.heap.size w wr)) (fun i _ _ _ _ => t - (intOf i).toNat)
  case atStart => exact ⟨0, by omega, rfl, by simp, HT4, HX4, HB4⟩
  case round =>
    obtain ⟨k, hk, rfl, rfl, HT, HX, HB⟩ := hrel
    clear HT4 HX4 HB4 HA
    by_cases hlt : k < t
    · have hki : (k : Int) < (t : Int) := by omega
      obtain ⟨y0, y1, y2, y3, y4, y5, y6, y7, y8, y9, y10⟩ := box11 HX.out
      have hek : 0 ≤ ev * (k : Int) := Int.mul_nonneg (by omega) (by omega)
      have hek2 : ev * (k : Int) ≤ 256 * (k : Int) := Int.mul_le_mul_of_nonneg_right hev.2 (by omega)
      have hE1 : X + ev * (k : Int) + ev = X + ev * ((k + 1 : Nat) : Int) := by rw [show ((k + 1 : Nat) : Int) = (k : Int) + 1 from by omega, Int.mul_add, Int.mul_one]; omega
      have S1 := Lib.hid (HS1.out k)
      have HLk := HL.out k
      have HLIk := Lib.hid (HLI.out k)
      have hsz : w.heap.size + 1 ≤ wr.heap.size := HX.out.lt
      by_cases hfull : (plB T ev X b k).length < T
      · have S2 := Lib.hid (HS2.out k hfull)
        have hP := HPA.out _ hfull
        obtain ⟨A2, c2, hq, _, _, L2⟩ := lies_ownI HT.out.b
        subst hq
        have K5 := Lib.hid (K4.out _ A2 c2 wr L2 (by omega))
        rw [hP] at K5 S1
        clear K4 HS1 HS2 HS3 HPL HPA HL HLI L2 hP
        have HE1 := Lib.hid hE1
        clear hE1
        generalize hI' : plI T ev X b (k + 1) = I' at *
        have HI' := Lib.hid hI'
        clear hI'
        generalize hL' : plB T ev X b (k + 1) = L' at *
        have HL' := Lib.hid hL'
        clear hL'
        generalize plI T ev X b k = I at *
        generalize plB T ev X b k = L at *
        generalize ev * (k : Int) = E at *
        have hm1 : wrap64 (X + E + ev) = X + E + ev := by unfold wrap64; omega
        obtain ⟨M, hM⟩ : ∃ M, L.length = M := ⟨_, rfl⟩
        have HM := Lib.hid hM
        rw [hM] at K5 S1 hfull HLk ⊢
        rw [hM] at HT
        clear hM
        have hpe : ((M : Int) == (M : Int)) = true := by simp
        go_wp2_with fail
        refine (K5.out).mono ?_
        rintro e w5 ⟨rfl, b5⟩
        have HT5 := Lib.hid (HT.out.below b5)
        have HX5 := Lib.hid (HX.out.below b5 HX.out.lt)
        have HB5 := Lib.hid (HB.out.trans (b5.mono HB.out.size))
        have hs5 := HX5.out.lt
        clear b5 y0 y1 y2 y3 y4 y5 y6 y7 y8 y9 y10 HT HX HB
        go_wp2_with (first | (at_builtin; refine app_int_at rfl (.tmp 47) (.tmp 49) rfl _ I (M : Int) _ L rfl HT5.out.a HT5.out.b HT5.out.c rfl hs5 (by rw [HLIk.out]; omega) ?_; intro v6 w6 hT6 b6; have hb6 := ((Below.refl w5.heap.size w5).alloc (Nat.le_refl _) (.cells #[.int .i64 (M : Int)] 3)); have HX6 := Lib.hid (HX5.out.below b6 (Nat.lt_succ_self _)); have HB6 := Lib.hid (HB5.out.trans (b6.mono (Nat.le_succ _))); have hs6 := HX6.out.lt; have y4 := (HX6.out.cell 4).trans rfl; rw [S1.out] at hT6) | (at_builtin; refine app_int_at rfl (.tmp 55) (.tmp 57) rfl _ L (X + E) _ I' rfl hT6.b hT6.a hT6.swap.c rfl hs6 (by rw [HM.out]; omega) ?_; intro v7 w7 hT7 b7; have HX7 := Lib.hid (HX6.out.below b7 (Nat.lt_succ_self _)); have HB7 := Lib.hid (HB6.out.trans (b7.mono (Nat.le_succ _))); have y4 := (HX7.out.cell 4).trans rfl))
        rw [S2.out] at hT7
        exact ⟨⟨k + 1, by omega, by go_num, by rw [← HE1.out], Lib.hid (by rw [HI'.out, HL'.out]; exact hT7.swap), HX7, HB7⟩, by simp [intOf]; omega⟩
      · have S2 := Lib.hid (HS3.out k hfull)
        have hP := HPL.out _ hfull
        obtain ⟨g, c2, hq, hg, hc2, hO⟩ := own_to HT.out.b (by omega)
        subst hq
        have K5 := Lib.hid (K4.out _ (some ⟨g, 0, none⟩) c2 wr hO.lies (by omega))
        clear K4 HS1 HS2 HS3 HPL HPA HL HLI hO
        have HE1 := Lib.hid hE1
        clear hE1
        generalize placeV T (plB T ev X b k) = P at *
        generalize hI' : plI T ev X b (k + 1) = I' at *
        have HI' := Lib.hid hI'
        clear hI'
        generalize hL' : plB T ev X b (k + 1) = L' at *
        have HL' := Lib.hid hL'
        clear hL'
        generalize plI T ev X b k = I at *
        generalize plB T ev X b k = L at *
        generalize ev * (k : Int) = E at *
        have hm1 : wrap64 (X + E + ev) = X + E + ev := by unfold wrap64; omega
        obtain ⟨M, hM⟩ : ∃ M, L.length = M := ⟨_, rfl⟩
        have HM := Lib.hid hM
        rw [hM] at K5 hfull HLk hP ⊢
        rw [hM] at HT
        clear hM
        have hpe : ((P : Int) == (M : Int)) = false := by simp; omega
        have hpm : (P : Int) < (M : Int) := by omega
        have n1 : ¬ w.heap.size = g := by omega
        have n2 : ¬ g = w.heap.size := by omega
        go_wp2_with fail
        refine (K5.out).mono ?_
        rintro e w5 ⟨rfl, b5⟩
        have HT5 := Lib.hid (HT.out.below b5)
        have HX5 := Lib.hid (HX.out.below b5 HX.out.lt)
        have HB5 := Lib.hid (HB.out.trans (b5.mono HB.out.size))
        have hs5 := HX5.out.lt
        clear b5 y0 y1 y2 y3 y4 y5 y6 y7 y8 y9 y10 HT HX HB
        go_wp2_with (first | (at_builtin; refine app_int_at rfl (.tmp 47) (.tmp 49) rfl _ I (P : Int) _ L rfl HT5.out.a HT5.out.b HT5.out.c rfl hs5 (by rw [HLIk.out]; omega) ?_; intro v6 w6 hT6 b6; have hb6 := ((Below.refl w5.heap.size w5).alloc (Nat.le_refl _) (.cells #[.int .i64 (P : Int)] 3)); have HX6 := Lib.hid (HX5.out.below b6 (Nat.lt_succ_self _)); have HB6 := Lib.hid (HB5.out.trans (b6.mono (Nat.le_succ _))); have hs6 := HX6.out.lt; have y4 := (HX6.out.cell 4).trans rfl; have c1 := (own_atI hT6.b).cell (k := P) (by rw [HM.out]; omega); have f1 := (own_atI hT6.b).free P))
        rw [S1.out] at hT6
        have hT7 := hT6.put P (X + E)
        rw [S2.out] at hT7
        exact ⟨⟨k + 1, by omega, by go_num, by rw [← HE1.out], Lib.hid (by rw [HI'.out, HL'.out]; exact hT7), Lib.hid (HX6.out.off n2 _), Lib.hid (HB6.out.setCell (p := ⟨g, P, none⟩) (by show w.heap.size ≤ g; omega) _)⟩, by simp [intOf]; omega⟩
    · obtain rfl : k = t := by omega
      go_wp2
      go_ret3
      exact HT.out.gives HB.out
end Go.Proofs.Ytmfgegebnjpanaa
