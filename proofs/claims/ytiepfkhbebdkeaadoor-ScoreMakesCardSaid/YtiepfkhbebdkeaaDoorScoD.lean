/- The reference's digits and Parse of layer 13. -/
import Derived.Test.YtiepfkhbebdkeaaDoorScoP
namespace Go.Proofs.YtiepfkhbebdkeaaDoor
open Go.RowKit
set_option linter.unusedVariables false
set_option linter.unusedSimpArgs false
set_option maxRecDepth 100000

def dgB (l : List UInt8) : Bool := !l.isEmpty && decide (l.length ≤ 13) && l.all digB
def dgN (l : List UInt8) : Int := if dgB l = true then dec l else -1
theorem dg_no {l : List UInt8} (h : dgB l = false) : Ending.returned (.int .i64 (-1)) = .returned (.int .i64 (dgN l)) := by
  unfold dgN; rw [h]; rfl
theorem dg_yes {l : List UInt8} (h : dgB l = true) : Ending.returned (.int .i64 (dec l)) = .returned (.int .i64 (dgN l)) := by
  unfold dgN; rw [h]; rfl
theorem dg_bad {s : ByteArray} (k : Nat) (hk : k < s.size) (h : ¬ (48 ≤ (s[k].toNat : Int) ∧ (s[k].toNat : Int) ≤ 57)) : dgB s.data.toList = false := by
  unfold dgB
  have : s.data.toList.all digB = false := by
    rw [List.all_eq_false]
    refine ⟨s[k], ?_, ?_⟩
    · exact List.getElem_mem (by simpa using hk)
    · unfold digB
      simpa using h
  rw [this]; simp
theorem ten_lt13 (s : ByteArray) {k : Nat} (h : (s.data.toList.take k).all digB = true) (hk : k ≤ s.size) : dec (s.data.toList.take k) < 10 ^ k := by
  have hz : s.data.toList.length = s.size := by simp
  have h1 := dec_lt ⟨(s.data.toList.take k).toArray⟩ (by simpa using h) k (by rw [bstr_size, List.length_take]; omega)
  have e : (⟨(s.data.toList.take k).toArray⟩ : ByteArray).data.toList.take k = s.data.toList.take k := by
    show (s.data.toList.take k).toArray.toList.take k = _
    rw [List.toList_toArray, List.take_take, Nat.min_self]
  rw [e] at h1
  exact h1
set_option maxHeartbeats 2000000 in
theorem ref13_digits (s : ByteArray) (hs : s.size ≤ maxLen) (w : World) :
    Calls Tryd.prog 38 #[.string s] w fun e w' => e = .returned (.int .i64 (dgN s.data.toList)) ∧ w' = w := by
  have HL : Hid (s.data.toList.length = s.size) := by show _ = _; simp
  unfold maxLen at hs
  by_cases h0 : s.size = 0
  · have e0 : s.toList = [] := by
      rw [← List.length_eq_zero_iff, ByteArray.toList_eq]; simpa using h0
    have e1 : s.toList.isEmpty = true := by rw [e0]; rfl
    have HR := Lib.hid (dg_no (l := s.data.toList) (by unfold dgB; rw [← ByteArray.toList_eq, e1]; rfl))
    clear h0
    go_enter Tryd.func38, Tryd.ntmps38
    go_wp2
    go_ret
    exact ⟨HR.out, rfl⟩
  have e0 : ¬ s.toList = [] := by
    rw [← List.length_eq_zero_iff, ByteArray.toList_eq]; simpa using h0
  have e1 : s.toList.isEmpty = false := by
    cases h : s.toList with
    | nil => exact absurd h e0
    | cons a b => rfl
  by_cases h10 : 13 < s.size
  · have HR := Lib.hid (dg_no (l := s.data.toList) (by unfold dgB; rw [decide_eq_false (by rw [HL.out]; omega)]; simp))
    go_enter Tryd.func38, Tryd.ntmps38
    go_wp2
    go_ret
    exact ⟨HR.out, rfl⟩
  go_enter Tryd.func38, Tryd.ntmps38
  go_wp2
  go_loopw [3, 4] (fun nv iv wr => ∃ (k : Nat) (n : Int), k ≤ s.size ∧ nv = .int .i64 n ∧ (0 ≤ n ∧ n ≤ 9999999999999) ∧ (k < 13 → n ≤ 999999999999) ∧ iv = .int .i64 k ∧ Hid (n = dec (s.data.toList.take k)) ∧ Hid ((s.data.toList.take k).all digB = true) ∧ wr = w) (fun _ iv _ => s.size - (intOf iv).toNat)
  case atStart => exact ⟨0, 0, Nat.zero_le _, rfl, by omega, by omega, rfl, rfl, rfl, rfl⟩
  case round =>
    obtain ⟨k, n, hk, rfl, ⟨hn0, hn1⟩, hn2, rfl, HE, hd, rfl⟩ := hrel
    by_cases hlt : k < s.size
    · have hn3 := hn2 (by omega)
      by_cases hdig : 48 ≤ (s[k].toNat : Int) ∧ (s[k].toNat : Int) ≤ 57
      · have HD := Lib.hid (digs_snoc s k hlt hd.out hdig)
        have HT := Lib.hid (dec_take s k hlt)
        obtain ⟨hd1, hd2⟩ := hdig
        clear hn2
        have HX : Hid (k + 1 < 13 → 10 * n + (s[k].toNat : Int) - 48 ≤ 999999999999) := fun hk9 => by
          have h1 := HT.out
          have h2 := ten_lt13 s HD.out (by omega)
          rw [h1, ← HE.out] at h2
          have h3 := ten_mono (show k + 1 ≤ 12 by omega)
          have h5 : (10 : Int) ^ 12 = 1000000000000 := by rfl
          omega
        go_wp2
        go_roundw
        case rel => exact ⟨k + 1, _, by omega, rfl, by omega, HX.out, by go_num, (by show _ = _; rw [HT.out, ← HE.out]; omega), HD, trivial⟩
        case measure => simp [intOf]; omega
      · have HR := Lib.hid (dg_no (l := s.data.toList) (dg_bad k hlt hdig))
        by_cases h48 : (s[k].toNat : Int) < 48
        · clear hdig hn2
          go_wp2
          go_ret
          exact ⟨HR.out, rfl⟩
        · have h57 : 57 < (s[k].toNat : Int) := by omega
          clear hdig hn2
          go_wp2
          go_ret
          exact ⟨HR.out, rfl⟩
    · obtain rfl : k = s.size := by omega
      have HF : Hid (n = dec s.data.toList) := by show _ = _; rw [HE.out, ← HL.out, List.take_length]
      have HB : Hid (dgB s.data.toList = true) := by
        have h1 := hd.out
        rw [← HL.out, List.take_length] at h1
        show _ = _
        unfold dgB
        rw [h1, ← ByteArray.toList_eq, e1, decide_eq_true (by rw [ByteArray.toList_eq, HL.out]; omega)]; rfl
      have HR := Lib.hid (dg_yes HB.out)
      rw [← HF.out] at HR
      clear hn2
      go_wp2
      go_ret
      exact ⟨HR.out, rfl⟩
theorem dgN_txt (n : Nat) (h : n < 10000000000000) : dgN (txt n) = n := by
  have hl := txt_len 12 n (by show _ < 10 ^ 13; omega)
  have hb : dgB (txt n) = true := by
    unfold dgB
    rw [txt_all, decide_eq_true (by omega)]
    cases h : txt n with
    | nil => exact absurd h (txt_ne n)
    | cons a b => rfl
  unfold dgN
  rw [if_pos hb, dec_txt]
theorem dec_lt13 {l : List UInt8} (h : dgB l = true) : dec l < 10000000000000 := by
  unfold dgB at h
  rw [Bool.and_eq_true, Bool.and_eq_true] at h
  obtain ⟨⟨-, h2⟩, h3⟩ := h
  have h2 := of_decide_eq_true h2
  have := dec_lt ⟨l.toArray⟩ (by simpa using h3) l.length (by rw [bstr_size]; omega)
  have e : (⟨l.toArray⟩ : ByteArray).data.toList.take l.length = l := by
    show l.toArray.toList.take l.length = _
    rw [List.toList_toArray, List.take_length]
  rw [e] at this
  have h4 := ten_mono (show l.length ≤ 13 by omega)
  have h5 : (10 : Int) ^ 13 = 10000000000000 := by rfl
  omega
theorem dec_pos_all {l : List UInt8} (h : l.all digB = true) : 0 ≤ dec l := by
  have := dec_nonneg ⟨l.toArray⟩ (by simpa using h) l.length (by rw [bstr_size]; omega)
  have e : (⟨l.toArray⟩ : ByteArray).data.toList.take l.length = l := by
    show l.toArray.toList.take l.length = _
    rw [List.toList_toArray, List.take_length]
  rwa [e] at this
theorem dgN_i64 (l : List UInt8) : I64 (dgN l) := by
  unfold dgN
  split
  · rename_i h
    have h1 := dec_lt13 h
    have h2 : 0 ≤ dec l := by
      unfold dgB at h
      rw [Bool.and_eq_true, Bool.and_eq_true] at h
      exact dec_pos_all h.2
    unfold I64; omega
  · unfold I64; omega
theorem spOk_dg {l : List UInt8} (h : spOk l) : ScoOk (dgN (cutA l)) (dgN (cutB l)) ∧ stx (dgN (cutA l)) (dgN (cutB l)) = l := by
  obtain ⟨h1, h2⟩ := h
  obtain ⟨a1, a2, -, -, -⟩ := stx_cut h1 h2
  obtain ⟨g1, g2, g3, g4, -⟩ := id h1
  have e1 : dgN (cutA l) = dec (cutA l) := by
    conv => lhs; rw [a1]
    rw [dgN_txt _ (by omega)]; omega
  have e2 : dgN (cutB l) = dec (cutB l) := by
    conv => lhs; rw [a2]
    rw [dgN_txt _ (by omega)]; omega
  rw [e1, e2]
  exact ⟨h1, h2⟩
/-- a text without a slash is no score's -/
theorem spOk_miss {l : List UInt8} (h : ∀ k : Nat, l[k]? ≠ some 47) : ¬ spOk l := by
  intro hs
  obtain ⟨h1, h2⟩ := hs
  obtain ⟨-, -, -, -, e⟩ := stx_cut h1 h2
  have := h (txt (dec (cutA l)).toNat).length
  generalize txt (dec (cutA l)).toNat = a at *
  generalize txt (dec (cutB l)).toNat = b at *
  rw [e] at this
  simp at this
theorem stx_no {p q : Int} (h : ¬ ScoOk p q) : stx p q = [] := by unfold stx; rw [if_neg h]
/-- what the reference reads, where the slash is found -/
theorem sp_hit {l : List UInt8} (hf : l ≠ []) (p q : Int) (hp : p = dgN (cutA l)) (hq : q = dgN (cutB l)) : (stx p q = l → Ending.returned (.tuple #[.agg #[.int .i64 p, .int .i64 q], .int .i64 0]) = .returned (spV l)) ∧ (stx p q ≠ l → Ending.returned (.tuple #[.agg #[.int .i64 0, .int .i64 0], .int .i64 20]) = .returned (spV l)) := by
  subst hp hq
  constructor
  · intro h
    by_cases hv : ScoOk (dgN (cutA l)) (dgN (cutB l))
    · exact spV_ok hv h
    · rw [stx_no hv] at h; exact absurd h.symm hf
  · intro h
    exact spV_no fun hs => h (spOk_dg hs).2
set_option maxHeartbeats 1000000 in
theorem ref13_parse (s : ByteArray) (hs : s.size ≤ 1000) (w : World) :
    Calls Tryd.prog 25 #[.string s] w fun e w' => e = .returned (spV s.data.toList) ∧ Below w.heap.size w w' := by
  have J0 := Lib.hid ((Keeps.start w).alloc #[.int .i64 0, .int .i64 0] 23)
  have hl : s.data.toList.length = s.size := by simp
  have HL := Lib.hid hl
  have HMISS := Lib.hid (fun h => spV_no (spOk_miss (l := s.data.toList) h))
  have HHIT := Lib.hid (fun hf p q hp hq => sp_hit (l := s.data.toList) hf p q hp hq)
  have HCUT := Lib.hid (fun i => cut_hit i s.data.toList)
  generalize spV s.data.toList = V at *
  go_enter Tryd.func25, Tryd.ntmps25
  go_wp2
  go_loopw [4] (fun i wr => ∃ k : Nat, k ≤ s.size ∧ i = .int .i64 k ∧ Hid (∀ j, j < k → s.data.toList[j]? ≠ some 47) ∧ wr = w.alloc (.cells #[.int .i64 0, .int .i64 0] 23)) (fun i _ => s.size - (intOf i).toNat)
  case atStart => exact ⟨0, by omega, rfl, fun j hj => absurd hj (by omega), rfl⟩
  case round =>
    obtain ⟨k, hk, rfl, HS, rfl⟩ := hrel
    by_cases hlt : k < s.size
    · have hk1 : (k : Int) < (s.size : Int) := by omega
      by_cases h47 : (s[k].toNat : Int) = 47
      · have hat : s.data.toList[k]? = some 47 := by
          rw [List.getElem?_eq_getElem (by omega)]
          have : s.data.toList[k]'(by omega) = s[k] := rfl
          rw [this]
          congr 1
          exact UInt8.toNat_inj.1 (by have : ((47 : UInt8).toNat : Int) = 47 := rfl; omega)
        obtain ⟨c1, c2, c3⟩ := HCUT.out k hat HS.out
        have c4 : cutB s.data.toList = s.data.toList.drop (k + 1) := by unfold cutB; rw [if_pos c3, c2]
        have e1 : (s.extract 0 k).data.toList = cutA s.data.toList := by rw [c1]; simp
        have e2 : (s.extract (k + 1) s.size).data.toList = cutB s.data.toList := by rw [c4]; simp [List.take_of_length_le]
        have KA := Lib.hid (fun W => ref13_digits (s.extract 0 k) (by have : (s.extract 0 k).size ≤ s.size := by rw [ByteArray.size_extract]; omega
                                                                      unfold maxLen; omega) W)
        have KB := Lib.hid (fun W => ref13_digits (s.extract (k + 1) s.size) (by have : (s.extract (k + 1) s.size).size ≤ s.size := by rw [ByteArray.size_extract]; omega
                                                                                 unfold maxLen; omega) W)
        rw [e1] at KA
        rw [e2] at KB
        have iP := dgN_i64 (cutA s.data.toList)
        have iQ := dgN_i64 (cutB s.data.toList)
        have HH := HHIT.out (by intro e; rw [e] at hat; simp at hat) _ _ rfl rfl
        generalize dgN (cutA s.data.toList) = P at *
        generalize dgN (cutB s.data.toList) = Q at *
        have KT := Lib.hid (fun W => ref13_text P Q iP iQ W)
        have hk2 : (0 : Int) ≤ (k : Int) := by omega
        have hk3 : (k : Int) ≤ (s.size : Int) := by omega
        have hk4 : (0 : Int) ≤ (k : Int) + 1 := by omega
        have hk5 : (k : Int) + 1 ≤ (s.size : Int) := by omega
        have hwk : IntKind.i64.wrap ((k : Int) + 1) = (k : Int) + 1 := by simp only [i64w]; omega
        have HH := Lib.hid HH
        clear c1 c2 c3 c4 e1 e2 iP iQ hat
        by_cases hx : stx P Q = s.data.toList
        · have HR := Lib.hid (HH.out.1 hx)
          have e : bstr (stx P Q) = s := by rw [hx]
          rw [e] at KT
          clear e hx HH
          go_wp2
          go_region_held3 (fun _ => True) (trivial) (first | (go_at_call 38; ((with_reducible refine (KA.out _).mono ?_); rintro e wa ⟨rfl, rfl⟩)) | (go_at_call 38; ((with_reducible refine (KB.out _).mono ?_); rintro e wa ⟨rfl, rfl⟩)))
          all_goals
            have J1 := Lib.hid ((J0.out.alloc #[.int .i64 P, .int .i64 Q] 23).drew)
            obtain ⟨x0, x1, x2, x3⟩ := J1.out.head.two
            simp only [alloc_size'] at x0 x1 x2 x3
            go_wp2_with fail
            refine (KT.out _).mono ?_
            rintro e w5 ⟨rfl, b5⟩
            have J5 := Lib.hid (J1.out.below b5)
            clear x0 x1 x2 x3
            obtain ⟨x0, x1, x2, x3⟩ := J5.out.head.two
            obtain ⟨y0, y1, y2, y3⟩ := J5.out.tail.head.two
            simp only [alloc_size'] at x0 x1 x2 x3
            clear b5
            go_wp2
            have Z := J5.out.tail.head.set2 (.int .i64 P) (.int .i64 Q)
            obtain ⟨k0, k1, _, _⟩ := Z.two
            refine bodyPost_ret (v := .tuple #[.agg #[.int .i64 P, .int .i64 Q], .int .i64 0]) ?_ rfl ⟨HR.out, ?_⟩
            · simp [results, Tryd.results25, go_sem, k0, k1]
            · exact ((J5.out.2.1).setCell (p := ⟨w.heap.size, 0, none⟩) (by simp) _).setCell (p := ⟨w.heap.size, 1, none⟩) (by simp) _
        · have HR := Lib.hid (HH.out.2 hx)
          have hn : bstr (stx P Q) ≠ s := fun e => hx (by rw [← e])
          have hn2 := toList_ne hn
          have hn3 : ((bstr (stx P Q)).toList == s.toList) = false := by simpa using hn2
          clear hn hx HH
          generalize bstr (stx P Q) = T at *
          go_wp2
          go_region_held3 (fun _ => True) (trivial) (first | (go_at_call 38; ((with_reducible refine (KA.out _).mono ?_); rintro e wa ⟨rfl, rfl⟩)) | (go_at_call 38; ((with_reducible refine (KB.out _).mono ?_); rintro e wa ⟨rfl, rfl⟩)))
          all_goals
            have J1 := Lib.hid ((J0.out.alloc #[.int .i64 P, .int .i64 Q] 23).drew)
            obtain ⟨x0, x1, x2, x3⟩ := J1.out.head.two
            simp only [alloc_size'] at x0 x1 x2 x3
            go_wp2_with fail
            refine (KT.out _).mono ?_
            rintro e w5 ⟨rfl, b5⟩
            have J5 := Lib.hid (J1.out.below b5)
            clear x0 x1 x2 x3
            obtain ⟨x0, x1, x2, x3⟩ := J5.out.head.two
            obtain ⟨y0, y1, y2, y3⟩ := J5.out.tail.head.two
            simp only [alloc_size'] at x0 x1 x2 x3
            clear b5
            go_wp2
            have Z := J5.out.tail.head.set2 (.int .i64 0) (.int .i64 0)
            obtain ⟨k0, k1, _, _⟩ := Z.two
            refine bodyPost_ret (v := .tuple #[.agg #[.int .i64 0, .int .i64 0], .int .i64 20]) ?_ rfl ⟨HR.out, ?_⟩
            · simp [results, Tryd.results25, go_sem, k0, k1]
            · exact ((J5.out.2.1).setCell (p := ⟨w.heap.size, 0, none⟩) (by simp) _).setCell (p := ⟨w.heap.size, 1, none⟩) (by simp) _
      · have HS2 : Hid (∀ j, j < k + 1 → s.data.toList[j]? ≠ some 47) := fun j hj => by
          rcases Nat.lt_or_ge j k with g | g
          · exact HS.out j g
          · obtain rfl : j = k := by omega
            rw [List.getElem?_eq_getElem (by have := HL.out; omega)]
            intro e
            have : s.data.toList[j]'(by have := HL.out; omega) = s[j] := rfl
            rw [this] at e
            have e2 : s[j] = 47 := Option.some.inj e
            rw [e2] at h47
            exact h47 rfl
        go_wp2
        go_roundw
        case rel => exact ⟨k + 1, by omega, by go_num, HS2, trivial⟩
        case measure => simp [intOf]; omega
    · obtain rfl : k = s.size := by omega
      have HR := Lib.hid (HMISS.out (fun j => by
        rcases Nat.lt_or_ge j s.size with g | g
        · exact HS.out j g
        · rw [List.getElem?_eq_none (by have := HL.out; omega)]; simp))
      go_wp2
      refine bodyPost_ret (v := .tuple #[.agg #[.int .i64 0, .int .i64 0], .int .i64 20]) ?_ rfl ⟨HR.out, J0.out.2.1⟩
      simp [results, Tryd.results25, go_sem]
end Go.Proofs.YtiepfkhbebdkeaaDoor
