import Derived.Test.YtehekdahlnpldaaVecB

/-! Package vec: dot, Dot, gap, Gap, Order, In. -/
namespace Go.Proofs.Ytehekdahlnpldaa
open Go.RowKit
set_option linter.unusedVariables false
set_option linter.unusedSimpArgs false

theorem dre3' (w : World) (a b c : Nat) : ∃ n, ((w.drewN a).drewN b).drewN c = w.drewN n := by
  obtain ⟨n, h⟩ := dre2' w a b
  rw [h]; exact dre2' _ _ _
def okC (x : Int) : Prop := -4 ≤ x ∧ x ≤ 4
theorem mul_okC {x y : Int} (hx : okC x) (hy : okN y) : -8589934592 ≤ x * y ∧ x * y ≤ 8589934592 := by
  unfold okC at hx; unfold okN at hy
  have h : x = -4 ∨ x = -3 ∨ x = -2 ∨ x = -1 ∨ x = 0 ∨ x = 1 ∨ x = 2 ∨ x = 3 ∨ x = 4 := by omega
  rcases h with rfl | rfl | rfl | rfl | rfl | rfl | rfl | rfl | rfl <;> omega
theorem getD_okC {l : List Int} (h : ∀ x ∈ l, okC x) (k : Nat) : okC (l.getD k 0) := by
  rcases Nat.lt_or_ge k l.length with g | g
  · rw [List.getD_eq_getElem?_getD, List.getElem?_eq_getElem g]; exact h _ (List.getElem_mem g)
  · rw [List.getD_eq_getElem?_getD, List.getElem?_eq_none g]; unfold okC; simp
theorem getD_okN {l : List Int} (h : ∀ x ∈ l, okN x) (k : Nat) : okN (l.getD k 0) := by
  rcases Nat.lt_or_ge k l.length with g | g
  · rw [List.getD_eq_getElem?_getD, List.getElem?_eq_getElem g]; exact h _ (List.getElem_mem g)
  · rw [List.getD_eq_getElem?_getD, List.getElem?_eq_none g]; unfold okN; simp
theorem dotI_v {c v : List Int} (hc : ∀ x ∈ c, okC x) (hv : ∀ x ∈ v, okN x) (k : Nat) : -(8589934592 * (k : Int)) ≤ dotI c v k ∧ dotI c v k ≤ 8589934592 * k := by
  induction k with
  | zero => simp [dotI]
  | succ k ih =>
    have h := mul_okC (getD_okC hc k) (getD_okN hv k)
    simp only [dotI]
    omega
set_option maxHeartbeats 1000000 in
theorem vec_dot (A A2 : Option Addr) (a b : List Int) (c c2 B : Nat) (w : World) (hA : Lies w B A a) (hA2 : Lies w B A2 b) (ha : ∀ x ∈ a, okC x) (hb : ∀ x ∈ b, okN x) (hl : b.length = a.length) (hn : a.length ≤ 8) :
    Calls Try.prog 136 #[.slice A a.length c, .slice A2 b.length c2] w fun e w' => e = .returned (.int .i64 (dotI a b a.length)) ∧ w = w' := by
  rw [hl]
  have HA := Lib.hid hA
  have HA2 := Lib.hid hA2
  have HC := Lib.hid (getD_okC ha)
  have HO := Lib.hid (getD_okN hb)
  have HD := Lib.hid (dotI_v ha hb)
  have HL := Lib.hid hl
  clear hA hA2 hl ha hb
  generalize hN : a.length = N at *
  have HN := Lib.hid hN
  clear hN
  go_enter Try.func136, Try.ntmps136
  go_wp2
  go_loop [5, 10] (fun s i => ∃ k : Nat, k ≤ N ∧ i = .int .i64 k ∧ s = .int .i64 (dotI a b k)) (fun _ i => N - (intOf i).toNat)
  case atStart => exact ⟨0, by omega, rfl, rfl⟩
  case round =>
    obtain ⟨k, hk, rfl, rfl⟩ := hrel
    by_cases hlt : k < N
    · obtain ⟨ad, rfl, _, hc1⟩ := HA.out.at (k := k) (by have := HN.out; omega)
      obtain ⟨ad2, rfl, _, hc2⟩ := HA2.out.at (k := k) (by have := HN.out; have := HL.out; omega)
      have hm := mul_okC (HC.out k) (HO.out k)
      have hd := HD.out k
      have HS : Hid (dotI a b (k + 1) = dotI a b k + a.getD k 0 * b.getD k 0) := rfl
      obtain ⟨hm1, hm2⟩ := hm
      obtain ⟨hd1, hd2⟩ := hd
      generalize a.getD k 0 = x at *
      generalize b.getD k 0 = y at *
      generalize dotI a b k = z at *
      go_wp2
      go_round
      case rel => exact ⟨k + 1, by omega, by go_num, by rw [HS.out]⟩
      case measure => simp [intOf]; omega
    · obtain rfl : k = N := by omega
      go_wp2
      go_ret
      exact ⟨rfl, rfl⟩
/-- what Dot tells -/
def dotE (a b : List Int) : Bool := partsV a a.length && isV b a.length
def dotN (a b : List Int) : Int := if dotE a b then dotI a b a.length else 0
def dotC (a b : List Int) : Int := if dotE a b then 0 else 80
theorem dotE_iff {a b : List Int} : dotE a b = true ↔ partsV a a.length = true ∧ isV b a.length = true := by unfold dotE; simp
theorem dotE_ok {a b : List Int} (h : dotE a b = true) : (∀ x ∈ a, okC x) ∧ (∀ x ∈ b, okN x) ∧ b.length = a.length ∧ a.length ≤ 8 := by
  obtain ⟨h1, h2⟩ := dotE_iff.1 h
  obtain ⟨_, g1, _, g2, _⟩ := partsV_iff.1 h1
  obtain ⟨_, _, g3, g4⟩ := isV_iff.1 h2
  exact ⟨g2, g4, by omega, by omega⟩
set_option maxHeartbeats 1000000 in
theorem vec_Dot (A A2 : Option Addr) (a b : List Int) (c c2 B : Nat) (w : World) (hA : Lies w B A a) (hA2 : Lies w B A2 b) (hla : (a.length : Int) ≤ 9223372036854775807) (hlb : (b.length : Int) ≤ 9223372036854775807) (hca : a.length ≤ c) (hcb : b.length ≤ c2) :
    Calls Try.prog 119 #[.slice A a.length c, .slice A2 b.length c2] w fun e w' => e = .returned (.tuple #[.int .i64 (dotN a b), .int .i64 (dotC a b)]) ∧ ∃ n, w' = w.drewN n := by
  have K1 := Lib.hid (vec_parts A a c B a.length w hA hla hca)
  have K2 := Lib.hid (fun n => vec_is A2 b c2 B a.length (w.drewN n) hA2 hlb hcb)
  have HN : Hid (dotN a b = if dotE a b then dotI a b a.length else 0) := rfl
  have HC : Hid (dotC a b = if dotE a b then 0 else 80) := rfl
  have HE : Hid (dotE a b = (partsV a a.length && isV b a.length)) := rfl
  have HK := Lib.hid (fun (h : dotE a b = true) n => vec_dot A A2 a b c c2 B (w.drewN n) hA hA2 (dotE_ok h).1 (dotE_ok h).2.1 (dotE_ok h).2.2.1 (dotE_ok h).2.2.2)
  generalize dotN a b = n at *
  generalize dotC a b = m at *
  generalize dotE a b = q at *
  generalize dotI a b a.length = z at *
  generalize partsV a a.length = p1 at *
  generalize isV b a.length = p2 at *
  clear hA hA2 hca hcb
  generalize a.length = N at *
  generalize b.length = M at *
  cases p1 <;> cases p2
  all_goals
    first
    | (go_enter Try.func119, Try.ntmps119
       go_wp2_with fail
       refine K1.out.mono ?_
       rintro e w1 ⟨rfl, n1, rfl⟩
       go_wp2
       go_ret2
       exact ⟨ret2i (by rw [HN.out, HE.out]; rfl) (by rw [HC.out, HE.out]; rfl), n1, rfl⟩)
    | (go_enter Try.func119, Try.ntmps119
       go_wp2_with fail
       refine K1.out.mono ?_
       rintro e w1 ⟨rfl, n1, rfl⟩
       go_wp2_with fail
       refine (K2.out _).mono ?_
       rintro e w1 ⟨rfl, n2, rfl⟩
       go_wp2
       go_ret2
       exact ⟨ret2i (by rw [HN.out, HE.out]; rfl) (by rw [HC.out, HE.out]; rfl), _, rfl⟩)
    | (go_enter Try.func119, Try.ntmps119
       go_wp2_with fail
       refine K1.out.mono ?_
       rintro e w1 ⟨rfl, n1, rfl⟩
       go_wp2_with fail
       refine (K2.out _).mono ?_
       rintro e w1 ⟨rfl, n2, rfl⟩
       go_wp2_with fail
       refine (HK.out HE.out _).mono ?_
       rintro e w1 ⟨rfl, rfl⟩
       go_wp2
       go_ret2
       exact ⟨ret2i (by rw [HN.out, HE.out]; rfl) (by rw [HC.out, HE.out]; rfl), _, rfl⟩)
def gapNN (a b : List Int) : Int := if gapE a b then gapI a b a.length else 0
def gapCC (a b : List Int) : Int := if gapE a b then 0 else 80
theorem gapE_ok {a b : List Int} (h : gapE a b = true) : (∀ x ∈ a, okN x) ∧ (∀ x ∈ b, okN x) ∧ b.length = a.length ∧ a.length ≤ 8 := by
  obtain ⟨h1, h2⟩ := gapE_iff.1 h
  obtain ⟨_, g1, _, g2⟩ := isV_iff.1 h1
  obtain ⟨_, _, g3, g4⟩ := isV_iff.1 h2
  exact ⟨g2, g4, by omega, by omega⟩
set_option maxHeartbeats 1000000 in
theorem vec_Order (A A2 : Option Addr) (a b : List Int) (c c2 B : Nat) (w : World) (hA : Lies w B A a) (hA2 : Lies w B A2 b) (hla : (a.length : Int) ≤ 9223372036854775807) (hlb : (b.length : Int) ≤ 9223372036854775807) :
    Calls Try.prog 106 #[.slice A a.length c, .slice A2 b.length c2] w fun e w' => e = .returned (.int .i64 (ordL a b)) ∧ ∃ n, w' = w.drewN n := by
  have HA := Lib.hid hA
  have HA2 := Lib.hid hA2
  have HAT := Lib.hid (fun k h g e => ord_at (a := a) (b := b) (k := k) h g e)
  have HEN := Lib.hid (ord_end (a := a) (b := b))
  generalize ordL a b = R at *
  clear hA hA2
  generalize hN : a.length = N at *
  generalize hM : b.length = M at *
  have HN := Lib.hid hN
  have HM := Lib.hid hM
  clear hN hM
  rcases Nat.lt_or_ge M N with hc | hc
  · go_enter Try.func106, Try.ntmps106
    go_wp2
    go_loopw [12] (fun i wr => ∃ k : Nat, k ≤ M ∧ i = .int .i64 k ∧ Hid (∀ j, j < k → a.getD j 0 = b.getD j 0) ∧ Hid (∃ n, wr = w.drewN n)) (fun i _ => M - (intOf i).toNat)
    case atStart => exact ⟨0, by omega, rfl, fun j hj => absurd hj (by omega), ⟨0, rfl⟩⟩
    case round =>
      obtain ⟨k, hk, rfl, HE, HW⟩ := hrel
      by_cases hlt : k < M
      · have HAr : Hid (Lies wr B A a) := by obtain ⟨n, hn⟩ := HW.out; show Lies _ _ _ _; rw [hn]; exact HA.out
        have HAr2 : Hid (Lies wr B A2 b) := by obtain ⟨n, hn⟩ := HW.out; show Lies _ _ _ _; rw [hn]; exact HA2.out
        obtain ⟨ad, rfl, _, hc1⟩ := HAr.out.at (k := k) (by have := HN.out; omega)
        obtain ⟨ad2, rfl, _, hc2⟩ := HAr2.out.at (k := k) (by have := HM.out; omega)
        have HS := Lib.hid (HAT.out k (by omega) (by omega) HE.out)
        have HX : Hid (a.getD k 0 = b.getD k 0 → ∀ j, j < k + 1 → a.getD j 0 = b.getD j 0) := fun h j hj => by
          rcases Nat.lt_or_ge j k with g | g
          · exact HE.out j g
          · rw [show j = k from by omega]; exact h
        generalize a.getD k 0 = x at *
        generalize b.getD k 0 = y at *
        have hji : (k : Int) < (N : Int) := by omega
        have hji2 : (k : Int) < (M : Int) := by omega
        have KC := Lib.hid (vec_compared x y)
        by_cases hxy : x = y
        · subst hxy
          rw [if_neg (by omega), if_neg (by omega)] at KC
          go_wp2
          go_quiet ((go_at_call 132; exact Calls.quiet_of_same (still_of (KC.out _))))
          go_wp2
          refine ⟨⟨k + 1, by omega, by go_num, HX.out trivial, (by obtain ⟨m, hm⟩ := HW.out; show ∃ _, _; rw [hm]; exact dre2' _ _ _)⟩, by first | (simp [intOf]; done) | (simp [intOf]; omega)⟩
        · have hcc : ∃ v : Int, (if x < y then (-1 : Int) else if y < x then 1 else 0) = v ∧ (v != 0) = true := by
            refine ⟨_, rfl, ?_⟩
            by_cases g : x < y
            · rw [if_pos g]; rfl
            · rw [if_neg g, if_pos (by omega)]; rfl
          obtain ⟨v, hv, hv0⟩ := hcc
          rw [hv] at KC
          have HR : Hid (R = v) := by
            show _ = _
            rw [HS.out, ← hv]
            by_cases g : x < y
            · rw [if_pos g, if_pos g]
            · rw [if_neg g, if_neg g, if_pos (by omega), if_pos (by omega)]
          clear hv
          go_wp2
          go_quiet ((go_at_call 132; exact Calls.quiet_of_same (still_of (KC.out _))))
          go_wp2
          go_ret
          exact ⟨ret1i HR.out.symm, (by obtain ⟨m, hm⟩ := HW.out; rw [hm]; exact dre2' _ _ _)⟩
      · obtain rfl : k = M := by omega
        have HR := Lib.hid (HEN.out (fun j h1 h2 => HE.out j (by omega)))
        have KC := Lib.hid (vec_compared N k)
        rw [← HR.out] at KC
        go_wp2_with fail
        refine (KC.out _).mono ?_
        rintro e w1 ⟨rfl, rfl⟩
        go_wp2
        go_ret
        exact ⟨rfl, HW.out⟩
  · go_enter Try.func106, Try.ntmps106
    go_wp2
    go_loopw [12] (fun i wr => ∃ k : Nat, k ≤ N ∧ i = .int .i64 k ∧ Hid (∀ j, j < k → a.getD j 0 = b.getD j 0) ∧ Hid (∃ n, wr = w.drewN n)) (fun i _ => N - (intOf i).toNat)
    case atStart => exact ⟨0, by omega, rfl, fun j hj => absurd hj (by omega), ⟨0, rfl⟩⟩
    case round =>
      obtain ⟨k, hk, rfl, HE, HW⟩ := hrel
      by_cases hlt : k < N
      · have HAr : Hid (Lies wr B A a) := by obtain ⟨n, hn⟩ := HW.out; show Lies _ _ _ _; rw [hn]; exact HA.out
        have HAr2 : Hid (Lies wr B A2 b) := by obtain ⟨n, hn⟩ := HW.out; show Lies _ _ _ _; rw [hn]; exact HA2.out
        obtain ⟨ad, rfl, _, hc1⟩ := HAr.out.at (k := k) (by have := HN.out; omega)
        obtain ⟨ad2, rfl, _, hc2⟩ := HAr2.out.at (k := k) (by have := HM.out; omega)
        have HS := Lib.hid (HAT.out k (by omega) (by omega) HE.out)
        have HX : Hid (a.getD k 0 = b.getD k 0 → ∀ j, j < k + 1 → a.getD j 0 = b.getD j 0) := fun h j hj => by
          rcases Nat.lt_or_ge j k with g | g
          · exact HE.out j g
          · rw [show j = k from by omega]; exact h
        generalize a.getD k 0 = x at *
        generalize b.getD k 0 = y at *
        have hji : (k : Int) < (N : Int) := by omega
        have hji2 : (k : Int) < (M : Int) := by omega
        have KC := Lib.hid (vec_compared x y)
        by_cases hxy : x = y
        · subst hxy
          rw [if_neg (by omega), if_neg (by omega)] at KC
          go_wp2
          go_quiet ((go_at_call 132; exact Calls.quiet_of_same (still_of (KC.out _))))
          go_wp2
          refine ⟨⟨k + 1, by omega, by go_num, HX.out trivial, (by obtain ⟨m, hm⟩ := HW.out; show ∃ _, _; rw [hm]; exact dre2' _ _ _)⟩, by first | (simp [intOf]; done) | (simp [intOf]; omega)⟩
        · have hcc : ∃ v : Int, (if x < y then (-1 : Int) else if y < x then 1 else 0) = v ∧ (v != 0) = true := by
            refine ⟨_, rfl, ?_⟩
            by_cases g : x < y
            · rw [if_pos g]; rfl
            · rw [if_neg g, if_pos (by omega)]; rfl
          obtain ⟨v, hv, hv0⟩ := hcc
          rw [hv] at KC
          have HR : Hid (R = v) := by
            show _ = _
            rw [HS.out, ← hv]
            by_cases g : x < y
            · rw [if_pos g, if_pos g]
            · rw [if_neg g, if_neg g, if_pos (by omega), if_pos (by omega)]
          clear hv
          go_wp2
          go_quiet ((go_at_call 132; exact Calls.quiet_of_same (still_of (KC.out _))))
          go_wp2
          go_ret
          exact ⟨ret1i HR.out.symm, (by obtain ⟨m, hm⟩ := HW.out; rw [hm]; exact dre2' _ _ _)⟩
      · obtain rfl : k = N := by omega
        have HR := Lib.hid (HEN.out (fun j h1 h2 => HE.out j (by omega)))
        have KC := Lib.hid (vec_compared k M)
        rw [← HR.out] at KC
        go_wp2_with fail
        refine (KC.out _).mono ?_
        rintro e w1 ⟨rfl, rfl⟩
        go_wp2
        go_ret
        exact ⟨rfl, HW.out⟩
end Go.Proofs.Ytehekdahlnpldaa
