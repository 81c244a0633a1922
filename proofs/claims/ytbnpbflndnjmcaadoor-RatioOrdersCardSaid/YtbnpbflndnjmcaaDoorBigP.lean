/- Contracts of copseref01: digit, trim, Plus. -/
import Derived.Test.YtbnpbflndnjmcaaDoorBigW
namespace Go.Proofs.YtbnpbflndnjmcaaDoor
open Go.RowKit

theorem ref_digit (A : Option Addr) (l : List Int) (c i B : Nat) (w : World) (hA : Lies w B A l) :
    Calls Tryd.prog 72 #[.slice A l.length c, .int .i64 i] w fun e w' => e = .returned (.int .i64 (l.getD i 0)) ∧ w = w' := by
  by_cases h : i < l.length
  · obtain ⟨ad, rfl, hb, hc⟩ := lies_at hA h
    clear hA
    generalize l.getD i 0 = x at *
    generalize l.length = n at *
    go_enter Tryd.func72, Tryd.ntmps72
    go_wp2
    go_ret
    exact ⟨rfl, rfl⟩
  · have h0 : Hid (l.getD i 0 = 0) := by
      show _ = _
      rw [List.getD_eq_getElem?_getD, List.getElem?_eq_none (by omega)]; rfl
    generalize l.length = n at *
    clear hA
    go_enter Tryd.func72, Tryd.ntmps72
    go_wp2
    go_ret
    exact ⟨ret1i h0.out.symm, rfl⟩

/-- the digits of what l says, in the front of where l lies -/
def Trims (l : List Int) (c B : Nat) (w : World) (e : Ending) (w' : World) : Prop :=
  ∃ A, e = .returned (.slice A (digs (val l)).length c) ∧ (digs (val l)).length ≤ c ∧ Lies w B A (digs (val l)) ∧ w = w'
theorem lies_take {w : World} {B : Nat} {A : Option Addr} {l : List Int} (h : Lies w B A l) (k : Nat) : Lies w B A (l.take k) := fun h0 => by
  rw [List.length_take] at h0
  obtain ⟨ad, e, hb, hc⟩ := h (by omega)
  refine ⟨ad, e, hb, fun j hj => ?_⟩
  rw [List.length_take] at hj
  rw [hc j (by omega), List.getD_eq_getElem?_getD, List.getD_eq_getElem?_getD, List.getElem?_take, if_pos (by omega)]
theorem trims_mk {A : Option Addr} {l : List Int} {c B k : Nat} {w : World} (hA : Lies w B A l) (hk : k ≤ l.length) (hd : Dig l) (hc : l.length ≤ c) (hv : val (l.take k) = val l) (ht : k = 0 ∨ l.getD (k - 1) 0 ≠ 0) :
    Trims l c B w (.returned (.slice A k c)) w := by
  have he : digs (val l) = l.take k := by
    rw [← hv]
    refine digs_val (dig_take hd k) ?_
    rcases ht with rfl | ht
    · exact .inl (List.take_zero)
    · rcases Nat.eq_zero_or_pos k with rfl | h0
      · exact .inl (List.take_zero)
      · refine .inr ?_
        rw [List.length_take, Nat.min_eq_left hk, List.getD_eq_getElem?_getD, List.getElem?_take, if_pos (by omega), ← List.getD_eq_getElem?_getD]
        exact ht
  have hl : (digs (val l)).length = k := by rw [he, List.length_take, Nat.min_eq_left hk]
  refine ⟨A, by rw [hl], by omega, by rw [he]; exact lies_take hA k, rfl⟩
theorem ref_trim (A : Option Addr) (l : List Int) (c B : Nat) (w : World) (hA : Lies w B A l) (hd : Dig l) (hl : l.length ≤ 1000000000) (hc : l.length ≤ c) :
    Calls Tryd.prog 73 #[.slice A l.length c] w (Trims l c B w) := by
  have HD := Lib.hid hd
  clear hd
  generalize hN : l.length = N at *
  have HN := Lib.hid hN
  clear hN
  go_enter Tryd.func73, Tryd.ntmps73
  go_wp2
  go_loop [3] (fun i => ∃ k : Nat, k ≤ N ∧ i = .int .i64 k ∧ Hid (val (l.take k) = val l)) (fun i => (intOf i).toNat)
  case atStart => exact ⟨N, by omega, rfl, by have := HN.out; show _ = _; rw [List.take_of_length_le (by omega)]⟩
  case round =>
    obtain ⟨k, hk, rfl, HV⟩ := hrel
    rcases Nat.eq_zero_or_pos k with rfl | hk0
    · go_wp2
      go_ret
      exact trims_mk hA (by omega) HD.out (by have := HN.out; omega) HV.out (.inl rfl)
    · obtain ⟨j, rfl⟩ : ∃ j, k = j + 1 := ⟨k - 1, by omega⟩
      obtain ⟨ad, rfl, hb, hcell⟩ := lies_at hA (k := j) (by have := HN.out; omega)
      by_cases hz : l.getD j 0 = 0
      · have HV' : Hid (val (l.take j) = val l) := by
          have := HV.out
          rw [val_take l j (by have := HN.out; omega), hz] at this
          show _ = _
          omega
        rw [hz] at hcell
        clear hz
        go_wp2
        exact ⟨⟨j, by omega, rfl, HV'⟩, by simp [intOf]⟩
      · have HZ := Lib.hid hz
        have hz2 : (l.getD j 0 == 0) = false := by simpa using hz
        clear hz
        generalize l.getD j 0 = x at hcell hz2
        go_wp2
        go_ret
        exact trims_mk (k := j + 1) hA (by have := HN.out; omega) HD.out (by have := HN.out; omega) HV.out (.inr (by simpa using HZ.out))

theorem plus_step (k : Nat) (l : List Int) (c x y X Y T : Int) (hl : l.length = k) (h : val l + pw k * (c + (x + 65536 * X) + (y + 65536 * Y)) = T) :
    val (l ++ [(x + y + c) % 65536]) + pw (k + 1) * ((x + y + c) / 65536 + X + Y) = T := by
  rw [val_snoc, hl, pw_s, ← h]
  have e : x + y + c = (x + y + c) / 65536 * 65536 + (x + y + c) % 65536 := by omega
  generalize (x + y + c) / 65536 = q at *
  generalize (x + y + c) % 65536 = r at *
  have : c + (x + 65536 * X) + (y + 65536 * Y) = (q * 65536 + r) + 65536 * X + 65536 * Y := by omega
  rw [this]
  grind

theorem ref_plus (A A2 : Option Addr) (la lb : List Int) (ca cb : Nat) (w : World) (hA : Lies w w.heap.size A la) (hB : Lies w w.heap.size A2 lb) (da : Dig la) (db : Dig lb) (hl : la.length + lb.length ≤ 100000000) :
    Calls Tryd.prog 56 #[.slice A la.length ca, .slice A2 lb.length cb] w (Gives (val la + val lb) w) := by
  have DA := Lib.hid da
  have DB := Lib.hid db
  clear da db
  generalize hN : la.length = N at *
  have HN := Lib.hid hN
  clear hN
  generalize hM : lb.length = M at *
  have HM := Lib.hid hM
  clear hM
  go_enter Tryd.func56, Tryd.ntmps56
  go_wp2
  go_loopw [5, 6, 7] (fun v cv iv wr => ∃ (k : Nat) (l : List Int) (c : Int), iv = .int .i64 k ∧ cv = .int .i64 c ∧ 0 ≤ c ∧ c ≤ 1 ∧ (k : Int) + c ≤ N + M + 1 ∧ Hid (l.length = k) ∧ Dig l ∧ Hid (val l + pw k * (c + val (la.drop k) + val (lb.drop k)) = val la + val lb) ∧ wr.ownsRow w.heap.size 3 1 v l.length (lits l) ∧ Below w.heap.size w wr)
    (fun _ cv iv _ => 2 * (N + M + 1 - (intOf iv).toNat) + (intOf cv).toNat)
  case atStart => exact ⟨0, [], 0, rfl, rfl, by omega, by omega, by omega, rfl, (fun _ h => by cases h), (by show _ = _; simp [val, pw]), ⟨by simp [lits], .inl ⟨rfl, rfl⟩⟩, Below.refl _ _⟩
  case round =>
    obtain ⟨k, l, c, rfl, rfl, hc0, hc1, hkc, HL, HD, HV, hown, hb⟩ := hrel
    have hbs := hb.size
    have hlk : l.length ≤ 100000002 := by have := HL.out; omega
    by_cases hgo : k < N ∨ k < M ∨ 0 < c
    · have hx := dig_getD DA.out k
      have hy := dig_getD DB.out k
      have HS : Hid (val (l ++ [(la.getD k 0 + lb.getD k 0 + c) % 65536]) + pw (k + 1) * ((la.getD k 0 + lb.getD k 0 + c) / 65536 + val (la.drop (k + 1)) + val (lb.drop (k + 1))) = val la + val lb) := by
        refine plus_step k l c _ _ _ _ _ HL.out ?_
        have e1 : val (la.drop k) = la.getD k 0 + 65536 * val (la.drop (k + 1)) := by
          by_cases h : k < la.length
          · exact val_drop la k h
          · rw [val_drop_ge la k (by omega), val_drop_ge la (k + 1) (by omega), List.getD_eq_getElem?_getD, List.getElem?_eq_none (by omega)]; rfl
        have e2 : val (lb.drop k) = lb.getD k 0 + 65536 * val (lb.drop (k + 1)) := by
          by_cases h : k < lb.length
          · exact val_drop lb k h
          · rw [val_drop_ge lb k (by omega), val_drop_ge lb (k + 1) (by omega), List.getD_eq_getElem?_getD, List.getElem?_eq_none (by omega)]; rfl
        rw [← e1, ← e2]; exact HV.out
      have H1 := Lib.hid (fun w' => ref_digit A la ca k w.heap.size w' )
      have H2 := Lib.hid (fun w' => ref_digit A2 lb cb k w.heap.size w' )
      have HLa := Lib.hid (hA.below hb)
      have HLb := Lib.hid (hB.below hb)
      have hN := HN.out
      have hM := HM.out
      rw [hN] at H1
      rw [hM] at H2
      have HX : Hid (la.getD k 0 = 0 ∨ k < N) := by
        show _ ∨ _
        by_cases h : k < N
        · exact .inr h
        · left; rw [List.getD_eq_getElem?_getD, List.getElem?_eq_none (by omega)]; rfl
      have HY : Hid (lb.getD k 0 = 0 ∨ k < M) := by
        show _ ∨ _
        by_cases h : k < M
        · exact .inr h
        · left; rw [List.getD_eq_getElem?_getD, List.getElem?_eq_none (by omega)]; rfl
      clear hA hB hN hM
      generalize la.getD k 0 = x at *
      generalize lb.getD k 0 = y at *
      have HL' : Hid ((l ++ [(x + y + c) % 65536]).length = k + 1) := by show _ = _; rw [List.length_append, HL.out]; rfl
      have HD' : Dig (l ++ [(x + y + c) % 65536]) := dig_snoc HD (by omega) (by omega)
      by_cases h1 : k < N
      · go_wp2_with (first | (go_at_call 72; ((with_reducible refine (H1.out _ HLa.out).mono ?_); rintro e w' ⟨rfl, rfl⟩)) | (go_at_call 72; ((with_reducible refine (H2.out _ HLb.out).mono ?_); rintro e w' ⟨rfl, rfl⟩)) | (at_builtin; refine app_one rfl (.tmp 34) (.tmp 37) rfl _ l ((x + y + c) % 65536) rfl hown rfl hbs (by omega) ?_; intro v' w1 hown' hb1))
        exact ⟨⟨k + 1, _, _, by go_num, rfl, by omega, by omega, (by have := HX.out; have := HY.out; omega), HL', HD', HS, hown', hb.trans hb1⟩, (by have := HX.out; have := HY.out; simp [intOf]; omega)⟩
      · by_cases h2 : k < M
        · go_wp2_with (first | (go_at_call 72; ((with_reducible refine (H1.out _ HLa.out).mono ?_); rintro e w' ⟨rfl, rfl⟩)) | (go_at_call 72; ((with_reducible refine (H2.out _ HLb.out).mono ?_); rintro e w' ⟨rfl, rfl⟩)) | (at_builtin; refine app_one rfl (.tmp 34) (.tmp 37) rfl _ l ((x + y + c) % 65536) rfl hown rfl hbs (by omega) ?_; intro v' w1 hown' hb1))
          exact ⟨⟨k + 1, _, _, by go_num, rfl, by omega, by omega, (by have := HX.out; have := HY.out; omega), HL', HD', HS, hown', hb.trans hb1⟩, (by have := HX.out; have := HY.out; simp [intOf]; omega)⟩
        · have h3 : 0 < c := by omega
          go_wp2_with (first | (go_at_call 72; ((with_reducible refine (H1.out _ HLa.out).mono ?_); rintro e w' ⟨rfl, rfl⟩)) | (go_at_call 72; ((with_reducible refine (H2.out _ HLb.out).mono ?_); rintro e w' ⟨rfl, rfl⟩)) | (at_builtin; refine app_one rfl (.tmp 34) (.tmp 37) rfl _ l ((x + y + c) % 65536) rfl hown rfl hbs (by omega) ?_; intro v' w1 hown' hb1))
          exact ⟨⟨k + 1, _, _, by go_num, rfl, by omega, by omega, (by have := HX.out; have := HY.out; omega), HL', HD', HS, hown', hb.trans hb1⟩, (by have := HX.out; have := HY.out; simp [intOf]; omega)⟩
    · have h1 : ¬ k < N := by omega
      have h2 : ¬ k < M := by omega
      have h3 : ¬ 0 < c := by omega
      have HE : Hid (val l = val la + val lb) := by
        have h := HV.out
        have hN := HN.out
        have hM := HM.out
        rw [val_drop_ge la k (by omega), val_drop_ge lb k (by omega), show c = 0 from by omega] at h
        show _ = _
        rw [← h]; simp
      obtain ⟨A', c', rfl, hc', hm', hL'⟩ := lies_own hown
      clear hA hB
      go_wp2_with (go_at_call 73; refine (ref_trim A' l c' wr.heap.size _ hL' HD (by omega) hc').mono ?_; rintro e w' ⟨A3, rfl, hc3, hL3, rfl⟩)
      go_ret
      rw [HE.out] at hc3 hL3 ⊢
      exact ⟨A3, c', rfl, hc3, hm', hL3, hb⟩
end Go.Proofs.YtbnpbflndnjmcaaDoor
