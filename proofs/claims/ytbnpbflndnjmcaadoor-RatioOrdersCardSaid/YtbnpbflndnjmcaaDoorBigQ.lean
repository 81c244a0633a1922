/- Contracts of copseref01: Minus, Order. -/
import Derived.Test.YtbnpbflndnjmcaaDoorBigP
namespace Go.Proofs.YtbnpbflndnjmcaaDoor
open Go.RowKit

theorem minus_step (k : Nat) (l : List Int) (b x y X Y T r b' : Int) (hl : l.length = k) (h : val l - pw k * b + pw k * ((x + 65536 * X) - (y + 65536 * Y)) = T) (hr : x - y - b = r - 65536 * b') :
    val (l ++ [r]) - pw (k + 1) * b' + pw (k + 1) * (X - Y) = T := by
  rw [val_snoc, hl, pw_s, ← h]
  have e : r = x - y - b + 65536 * b' := by omega
  rw [e]
  grind
theorem minus_end (k : Nat) (l : List Int) (b Y T : Int) (hl : l.length = k) (hd : Dig l) (hb : 0 ≤ b) (hY : 0 ≤ Y) (hT : 0 ≤ T) (h : val l - pw k * b + pw k * (0 - Y) = T) : val l = T := by
  have h1 := val_lt hd
  rw [hl] at h1
  have hp := pw_pos k
  have h2 : pw k * (b + Y) < pw k * 1 := by
    rw [Int.mul_add, Int.mul_one]
    rw [Int.mul_sub, Int.mul_zero] at h
    omega
  have h3 : b + Y < 1 := by
    exact Int.lt_of_mul_lt_mul_left h2 (by omega)
  have h4 : b = 0 := by omega
  have h5 : Y = 0 := by omega
  rw [h4, h5] at h
  simpa using h

theorem owns_drewN {w : World} {b : Nat} {e : TypeId} {s : Nat} {v : Value} {n : Nat} {xs : List Value} (h : w.ownsRow b e s v n xs) (q : Nat) : (w.drewN q).ownsRow b e s v n xs := h
theorem below_drewN {B : Nat} {a w : World} (h : Below B a w) (n : Nat) : Below B a (w.drewN n) := ⟨h.os, h.tape, h.output, h.size, h.block⟩
theorem ref_minus (A A2 : Option Addr) (la lb : List Int) (ca cb : Nat) (w : World) (hA : Lies w w.heap.size A la) (hB : Lies w w.heap.size A2 lb) (da : Dig la) (db : Dig lb) (hl : la.length ≤ 100000000) (hle : val lb ≤ val la) :
    Calls Tryd.prog 58 #[.slice A la.length ca, .slice A2 lb.length cb] w (Gives (val la - val lb) w) := by
  have DA := Lib.hid da
  have DB := Lib.hid db
  have HLE := Lib.hid hle
  clear da db hle
  generalize hN : la.length = N at *
  have HN := Lib.hid hN
  clear hN
  generalize hM : lb.length = M at *
  have HM := Lib.hid hM
  clear hM
  go_enter Tryd.func58, Tryd.ntmps58
  go_wp2
  go_loopw [5, 6, 7] (fun v bv iv wr => ∃ (k : Nat) (l : List Int) (b : Int), iv = .int .i64 k ∧ bv = .int .i64 b ∧ 0 ≤ b ∧ b ≤ 1 ∧ k ≤ N ∧ Hid (l.length = k) ∧ Dig l ∧ Hid (val l - pw k * b + pw k * (val (la.drop k) - val (lb.drop k)) = val la - val lb) ∧ wr.ownsRow w.heap.size 3 1 v l.length (lits l) ∧ Below w.heap.size w wr)
    (fun _ _ iv _ => N - (intOf iv).toNat)
  case atStart => exact ⟨0, [], 0, rfl, rfl, by omega, by omega, by omega, rfl, (fun _ h => by cases h), (by show _ = _; simp [val, pw]), ⟨by simp [lits], .inl ⟨rfl, rfl⟩⟩, Below.refl _ _⟩
  case round =>
    obtain ⟨k, l, b, rfl, rfl, hb0, hb1, hkN, HL, HD, HV, hown, hb⟩ := hrel
    have hbs := hb.size
    have hlk : l.length ≤ 100000002 := by have := HL.out; omega
    by_cases hgo : k < N
    · have hx := dig_getD DA.out k
      have hy := dig_getD DB.out k
      have HS : Hid (∀ r b', la.getD k 0 - lb.getD k 0 - b = r - 65536 * b' → val (l ++ [r]) - pw (k + 1) * b' + pw (k + 1) * (val (la.drop (k + 1)) - val (lb.drop (k + 1))) = val la - val lb) := by
        intro r b' hr
        refine minus_step k l b _ _ _ _ _ r b' HL.out ?_ hr
        have e1 : val (la.drop k) = la.getD k 0 + 65536 * val (la.drop (k + 1)) := val_drop la k (by have := HN.out; omega)
        have e2 : val (lb.drop k) = lb.getD k 0 + 65536 * val (lb.drop (k + 1)) := by
          by_cases h : k < lb.length
          · exact val_drop lb k h
          · rw [val_drop_ge lb k (by omega), val_drop_ge lb (k + 1) (by omega), List.getD_eq_getElem?_getD, List.getElem?_eq_none (by omega)]; rfl
        rw [← e1, ← e2]; exact HV.out
      have H2 := Lib.hid (fun w' => ref_digit A2 lb cb k w.heap.size w')
      have HLb := Lib.hid (hB.below hb)
      obtain ⟨ad, rfl, hadb, hcell⟩ := lies_at (hA.below hb) (k := k) (by have := HN.out; omega)
      rw [HM.out] at H2
      clear hA hB
      generalize la.getD k 0 = x at *
      generalize lb.getD k 0 = y at *
      by_cases hneg : x - y - b < 0
      · have HL' : Hid ((l ++ [x - y - b + 65536]).length = k + 1) := by show _ = _; rw [List.length_append, HL.out]; rfl
        have HD' : Dig (l ++ [x - y - b + 65536]) := dig_snoc HD (by omega) (by omega)
        have HS' := Lib.hid (HS.out (x - y - b + 65536) 1 (by omega))
        clear HS
        go_wp2_with fail
        go_quiet ((go_at_call 72; exact Calls.quiet_of_same (still_of (H2.out _ HLb.out))))
        have hown2 := owns_drewN hown nq
        have hbs2 : w.heap.size ≤ (wr.drewN nq).heap.size := hbs
        go_wp2_with (at_builtin; refine app_one (wr := wr.drewN nq) rfl (.tmp 29) (.tmp 31) rfl _ l (x - y - b + 65536) rfl hown2 rfl hbs2 (by omega) ?_; intro v' w1 hown' hb1)
        exact ⟨⟨k + 1, _, _, by go_num, rfl, by omega, by omega, by omega, HL', HD', HS', hown', (below_drewN hb nq).trans hb1⟩, (by simp [intOf]; omega)⟩
      · have HL' : Hid ((l ++ [x - y - b]).length = k + 1) := by show _ = _; rw [List.length_append, HL.out]; rfl
        have HD' : Dig (l ++ [x - y - b]) := dig_snoc HD (by omega) (by omega)
        have HS' := Lib.hid (HS.out (x - y - b) 0 (by omega))
        clear HS
        go_wp2_with fail
        go_quiet ((go_at_call 72; exact Calls.quiet_of_same (still_of (H2.out _ HLb.out))))
        have hown2 := owns_drewN hown nq
        have hbs2 : w.heap.size ≤ (wr.drewN nq).heap.size := hbs
        go_wp2_with (at_builtin; refine app_one (wr := wr.drewN nq) rfl (.tmp 29) (.tmp 31) rfl _ l (x - y - b) rfl hown2 rfl hbs2 (by omega) ?_; intro v' w1 hown' hb1)
        exact ⟨⟨k + 1, _, _, by go_num, rfl, by omega, by omega, by omega, HL', HD', HS', hown', (below_drewN hb nq).trans hb1⟩, (by simp [intOf]; omega)⟩
    · have HE : Hid (val l = val la - val lb) := by
        have h := HV.out
        have hN := HN.out
        rw [val_drop_ge la k (by omega)] at h
        exact minus_end k l b _ _ HL.out HD hb0 (val_nonneg (dig_drop DB.out k)) (by have := HLE.out; omega) h
      obtain ⟨A', c', rfl, hc', hm', hL'⟩ := lies_own hown
      clear hA hB
      go_wp2_with (go_at_call 73; refine (ref_trim A' l c' wr.heap.size _ hL' HD (by omega) hc').mono ?_; rintro e w' ⟨A3, rfl, hc3, hL3, rfl⟩)
      go_ret
      rw [HE.out] at hc3 hL3 ⊢
      exact ⟨A3, c', rfl, hc3, hm', hL3, hb⟩

/-- below, equal, above -/
def cmpI (x y : Int) : Int := if x < y then -1 else if x = y then 0 else 1
theorem len_mono {x y : Int} (hx : 0 ≤ x) (h : (digs x).length < (digs y).length) : x < y := by
  rcases Int.lt_or_le x y with h1 | h1
  · exact h1
  · have h2 := val_lt (dig_digs x)
    rw [val_digs x hx] at h2
    have := digs_len y (digs x).length (by omega)
    omega
theorem top_split (l : List Int) (k : Nat) (h : k < l.length) : val l = val (l.take k) + pw k * (l.getD k 0) + pw (k + 1) * val (l.drop (k + 1)) := by
  have h1 : l = l.take (k + 1) ++ l.drop (k + 1) := (List.take_append_drop _ _).symm
  have h2 : val l = val (l.take (k + 1)) + pw (k + 1) * val (l.drop (k + 1)) := by
    conv => lhs; rw [h1]
    rw [val_append, List.length_take, Nat.min_eq_left (by omega)]
  rw [h2, val_take l k h]
theorem top_lt (la lb : List Int) (k : Nat) (ha : k < la.length) (hb : k < lb.length) (da : Dig la) (hd : Dig lb) (he : la.drop (k + 1) = lb.drop (k + 1)) (h : la.getD k 0 < lb.getD k 0) : val la < val lb := by
  rw [top_split la k ha, top_split lb k hb, he]
  have h1 := val_lt (dig_take da k)
  rw [List.length_take, Nat.min_eq_left (by omega)] at h1
  have h2 := val_nonneg (dig_take hd k)
  have h3 : pw k * (la.getD k 0 + 1) ≤ pw k * lb.getD k 0 := Int.mul_le_mul_of_nonneg_left (by omega) (by have := pw_pos k; omega)
  rw [Int.mul_add, Int.mul_one] at h3
  omega

def Cmps (x y : Int) (w : World) (e : Ending) (w' : World) : Prop := e = .returned (.int .i64 (cmpI x y)) ∧ ∃ n, w' = w.drewN n
theorem drews2 (w : World) (a b : Nat) : ∃ n, (w.drewN a).drewN b = w.drewN n := ⟨_, World.drewN_drewN _ _ _⟩
theorem drews3 (w : World) (a b c : Nat) : ∃ n, ((w.drewN a).drewN b).drewN c = w.drewN n := by
  rw [World.drewN_drewN, World.drewN_drewN]; exact ⟨_, rfl⟩
theorem ref_order (A A2 : Option Addr) (x y : Int) (ca cb B : Nat) (w : World) (hx : 0 ≤ x) (hy : 0 ≤ y) (hA : Lies w B A (digs x)) (hB : Lies w B A2 (digs y)) (hl : (digs x).length ≤ 100000000) :
    Calls Tryd.prog 57 #[.slice A (digs x).length ca, .slice A2 (digs y).length cb] w (Cmps x y w) := by
  by_cases hne : (digs x).length = (digs y).length
  · have HNE := Lib.hid hne
    have DA := dig_digs x
    have DB := dig_digs y
    have hvx := Lib.hid (val_digs x hx)
    have hvy := Lib.hid (val_digs y hy)
    generalize digs x = la at *
    generalize digs y = lb at *
    clear HNE
    generalize hN : la.length = N at *
    have HN := Lib.hid hN
    clear hN
    generalize hM : lb.length = M at *
    have HNE := Lib.hid hM
    clear hM
    obtain rfl := hne
    go_enter Tryd.func57, Tryd.ntmps57
    go_wp2
    go_loopw [5] (fun iv wr => ∃ (k : Nat) (v : Int), k ≤ N ∧ iv = .int .i64 v ∧ Hid (v = k - 1) ∧ Hid (la.drop k = lb.drop k) ∧ ∃ q, wr = w.drewN q) (fun iv _ => (intOf iv + 1).toNat)
    case atStart => exact ⟨N, _, by omega, rfl, rfl, by have h1 := HN.out; have h2 := HNE.out; show _ = _; rw [List.drop_eq_nil_of_le (by omega), List.drop_eq_nil_of_le (by omega)], 0, rfl⟩
    case round =>
      obtain ⟨k, v, hk, rfl, HV, HD, q, rfl⟩ := hrel
      rcases Nat.eq_zero_or_pos k with rfl | hk0
      · obtain rfl : v = -1 := HV.out
        go_wp2
        go_ret
        refine ⟨ret1i ?_, q, rfl⟩
        have h := HD.out
        rw [List.drop_zero, List.drop_zero] at h
        have h1 := hvx.out
        have h2 := hvy.out
        rw [h] at h1
        unfold cmpI
        rw [if_neg (by omega), if_pos (by omega)]
      · obtain ⟨j, rfl⟩ : ∃ j, k = j + 1 := ⟨k - 1, by omega⟩
        obtain rfl : v = (j : Int) := by have := HV.out; omega
        have hjb : j < lb.length := by have := HN.out; have := HNE.out; omega
        obtain ⟨ad, rfl, hb, hcell⟩ := lies_at hA (k := j) (by have := HN.out; omega)
        obtain ⟨ad2, rfl, hb2, hcell2⟩ := lies_at hB (k := j) hjb
        have hN := HN.out
        have HLT := Lib.hid (top_lt la lb j (by omega) hjb DA DB HD.out)
        have HGT := Lib.hid (top_lt lb la j hjb (by omega) DB DA HD.out.symm)
        have HDR : Hid (la.getD j 0 = lb.getD j 0 → la.drop j = lb.drop j) := by
          intro h
          have h1 := HD.out
          rw [List.getD_eq_getElem?_getD, List.getElem?_eq_getElem (by omega), List.getD_eq_getElem?_getD, List.getElem?_eq_getElem hjb] at h
          simp only [Option.getD_some] at h
          rw [List.drop_eq_getElem_cons (by omega), List.drop_eq_getElem_cons hjb, h1, h]
        rw [hvx.out, hvy.out] at HLT
        rw [hvx.out, hvy.out] at HGT
        clear hN HV HD hA hB
        generalize la.getD j 0 = a at *
        generalize lb.getD j 0 = b at *
        by_cases h1 : a < b
        · have hr : Hid (cmpI x y = -1) := by
            have := HLT.out h1
            show _ = _
            unfold cmpI; rw [if_pos this]
          clear HLT HGT HDR
          go_wp2_with fail
          go_quiet (fail)
          go_wp2
          go_ret
          exact ⟨ret1i hr.out.symm, _, World.drewN_drewN _ _ _⟩
        · by_cases h2 : b < a
          · have hr : Hid (cmpI x y = 1) := by
              have := HGT.out h2
              show _ = _
              unfold cmpI; rw [if_neg (by omega), if_neg (by omega)]
            clear HLT HGT HDR
            go_wp2_with fail
            go_quiet (fail)
            go_wp2_with fail
            go_quiet (fail)
            go_wp2
            go_ret
            exact ⟨ret1i hr.out.symm, (by first | exact drews3 _ _ _ _ | exact drews2 _ _ _ | exact ⟨_, rfl⟩)⟩
          · have hr := Lib.hid (HDR.out (by omega))
            clear HLT HGT HDR
            go_wp2_with fail
            go_quiet (fail)
            go_wp2_with fail
            go_quiet (fail)
            go_wp2
            exact ⟨⟨j, _, by omega, rfl, rfl, hr, (by first | exact drews3 _ _ _ _ | exact drews2 _ _ _ | exact ⟨_, rfl⟩)⟩, by simp [intOf]⟩
  · by_cases hlt : (digs x).length < (digs y).length
    · have hr : Hid (cmpI x y = -1) := by
        have := len_mono hx hlt
        show _ = _
        unfold cmpI; rw [if_pos this]
      have hn2 : (((digs x).length : Int) != (digs y).length) = true := by simp; omega
      clear hne
      generalize (digs x).length = N at *
      generalize (digs y).length = M at *
      clear hA hB
      go_enter Tryd.func57, Tryd.ntmps57
      go_wp2
      go_ret
      exact ⟨ret1i hr.out.symm, 0, rfl⟩
    · have hr : Hid (cmpI x y = 1) := by
        have := len_mono (x := y) (y := x) hy (by omega)
        show _ = _
        unfold cmpI; rw [if_neg (by omega), if_neg (by omega)]
      have hn2 : (((digs x).length : Int) != (digs y).length) = true := by simp; omega
      clear hne
      generalize (digs x).length = N at *
      generalize (digs y).length = M at *
      clear hA hB
      go_enter Tryd.func57, Tryd.ntmps57
      go_wp2
      go_ret
      exact ⟨ret1i hr.out.symm, 0, rfl⟩
end Go.Proofs.YtbnpbflndnjmcaaDoor
