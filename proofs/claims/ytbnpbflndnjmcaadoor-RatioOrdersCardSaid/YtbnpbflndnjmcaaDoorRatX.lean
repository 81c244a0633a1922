/- What is read of a ratio's text. And the contract of ratio.Parse. -/
import Derived.Test.YtbnpbflndnjmcaaDoorRatR
namespace Go.Proofs.YtbnpbflndnjmcaaDoor
open Go.RowKit

theorem txt_no (n : Nat) (c : UInt8) (hc : digB c = false) : ∀ x ∈ txt n, x ≠ c := by
  intro x hx he
  have := txt_all n
  rw [List.all_eq_true] at this
  rw [← he, this x hx] at hc
  cases hc
theorem good_txt (n : Nat) (h : n ≤ 1073741824) : Good (txt n) := ⟨txt_isText n, by rw [dec_txt]; omega⟩
theorem cut_txt (n : Nat) (r : List UInt8) : cutA (txt n ++ 47 :: r) = txt n ∧ cutB (txt n ++ 47 :: r) = r ∧ cutF (txt n ++ 47 :: r) = true := by
  have h := cut_hit (txt n).length (txt n ++ 47 :: r) (by rw [List.getElem?_append_right (Nat.le_refl _)]; simp) (by
    intro k hk he
    rw [List.getElem?_append_left hk] at he
    exact txt_no n 47 (by decide) 47 (List.mem_of_getElem? he) rfl)
  refine ⟨?_, ?_, h.2.2⟩
  · rw [h.1]; simp
  · unfold cutB
    rw [if_pos h.2.2, h.2.1, List.drop_append]
    simp
theorem cut_txt0 (n : Nat) : cutA (txt n) = txt n ∧ cutF (txt n) = false :=
  cut_miss fun k he => txt_no n 47 (by decide) 47 (List.mem_of_getElem? he) rfl
theorem pre_txt (n : Nat) (r : List UInt8) : negB (45 :: (txt n ++ r)) = true ∧ szL (45 :: (txt n ++ r)) = txt n ++ r := by
  have h : negB (45 :: (txt n ++ r)) = true := by
    unfold negB Lib.hasPrefix
    simp [List.isPrefixOf]
  refine ⟨h, ?_⟩
  unfold szL Lib.trimPrefix
  have h2 : Lib.hasPrefix (45 :: (txt n ++ r)) [45] = true := h
  rw [if_pos h2]; rfl
theorem pre_txt0 (n : Nat) (r : List UInt8) : negB (txt n ++ r) = false ∧ szL (txt n ++ r) = txt n ++ r := by
  have h : negB (txt n ++ r) = false := by
    unfold negB Lib.hasPrefix
    cases hd : txt n with
    | nil => exact absurd hd (txt_ne n)
    | cons a b =>
      have := txt_no n 45 (by decide) a (by rw [hd]; exact List.mem_cons_self)
      have h2 : ((45 : UInt8) == a) = false := by simpa using Ne.symm this
      simp [List.isPrefixOf, h2]
  refine ⟨h, ?_⟩
  unfold szL Lib.trimPrefix
  have h2 : Lib.hasPrefix (txt n ++ r) [45] = false := h
  rw [h2]; rfl
theorem txt_1 : txt 1 = [49] := txt_small (by decide)
theorem itxt_pos {q : Int} (h : 0 < q) : itxt q = txt q.toNat := by unfold itxt; rw [if_neg (by omega)]
/-- what is read of it -/
theorem rd_rtxt {p q : Int} (hv : Valid p q) : RdGood (rtxt p q) ∧ rdP (rtxt p q) = p ∧ dec (rdB (rtxt p q)) = q := by
  have hq := hv.1
  have hp := hv.2.1
  have key : ∀ r : List UInt8, cutA (txt p.natAbs ++ r) = txt p.natAbs → rtxt p q = itxt p ++ r → rdA (rtxt p q) = txt p.natAbs ∧ rdP (rtxt p q) = p ∧ szL (rtxt p q) = txt p.natAbs ++ r := by
    intro r hc hr
    rw [hr]
    unfold itxt
    by_cases hn : p < 0
    · rw [if_pos hn, List.cons_append]
      obtain ⟨h1, h2⟩ := pre_txt p.natAbs r
      have h3 : rdA (45 :: (txt p.natAbs ++ r)) = txt p.natAbs := by unfold rdA; rw [h2, hc]
      refine ⟨h3, ?_, h2⟩
      unfold rdP
      rw [if_pos h1, h3, dec_txt]; omega
    · rw [if_neg hn]
      have e : p.toNat = p.natAbs := by omega
      rw [e]
      obtain ⟨h1, h2⟩ := pre_txt0 p.natAbs r
      have h3 : rdA (txt p.natAbs ++ r) = txt p.natAbs := by unfold rdA; rw [h2, hc]
      refine ⟨h3, ?_, h2⟩
      unfold rdP
      rw [h1, h3, dec_txt]
      show (p.natAbs : Int) = p
      omega
  have gp := good_txt p.natAbs (by omega)
  have gq := good_txt q.toNat (by omega)
  by_cases h1 : q = 1
  · obtain ⟨c1, c2⟩ := cut_txt0 p.natAbs
    obtain ⟨k1, k2, k3⟩ := key [] (by rw [List.append_nil]; exact c1) (by unfold rtxt; rw [if_pos hv, if_pos h1, List.append_nil])
    have hB : rdB (rtxt p q) = txt 1 := by unfold rdB; rw [k3, List.append_nil, c2, txt_1]; rfl
    refine ⟨⟨by rw [k1]; exact gp, by rw [hB]; exact good_txt 1 (by decide)⟩, k2, ?_⟩
    rw [hB, dec_txt, h1]; rfl
  · obtain ⟨c1, c2, c3⟩ := cut_txt p.natAbs (itxt q)
    obtain ⟨k1, k2, k3⟩ := key (47 :: itxt q) c1 (by unfold rtxt; rw [if_pos hv, if_neg h1])
    have hB : rdB (rtxt p q) = txt q.toNat := by unfold rdB; rw [k3, c3, if_pos rfl, c2, itxt_pos (by omega)]
    refine ⟨⟨by rw [k1]; exact gp, by rw [hB]; exact gq⟩, k2, ?_⟩
    rw [hB, dec_txt]; omega
theorem rtxt_ne {p q : Int} (hv : Valid p q) : rtxt p q ≠ [] := by
  intro h
  obtain ⟨⟨h1, _⟩, _, _⟩ := rd_rtxt hv
  rw [h] at h1
  have : isTextB (rdA []) = true := h1.1
  exact absurd this (by decide)
/-- it is the text of a ratio: of this one -/
def PrOk (l : List UInt8) : Prop := RdGood l ∧ rtxt (rdP l) (dec (rdB l)) = l
theorem prOk_valid {l : List UInt8} (h : PrOk l) : Valid (rdP l) (dec (rdB l)) := by
  by_cases hv : Valid (rdP l) (dec (rdB l))
  · exact hv
  · exfalso
    obtain ⟨⟨h1, _⟩, h2⟩ := h
    unfold rtxt at h2
    rw [if_neg hv] at h2
    rw [← h2] at h1
    have : isTextB (rdA []) = true := h1.1
    exact absurd this (by decide)
theorem prOk_of {p q : Int} {l : List UInt8} (hv : Valid p q) (h : rtxt p q = l) : PrOk l ∧ rdP l = p ∧ dec (rdB l) = q := by
  obtain ⟨h1, h2, h3⟩ := rd_rtxt hv
  rw [h] at h1 h2 h3
  exact ⟨⟨h1, by rw [h2, h3, h]⟩, h2, h3⟩
theorem rdP_bd {l : List UInt8} (h : RdGood l) : (-1073741824 ≤ rdP l ∧ rdP l ≤ 1073741824) ∧ (0 ≤ dec (rdB l) ∧ dec (rdB l) ≤ 1073741824) := by
  have h1 := (good_dec h.1).1
  have h2 := (good_dec h.2).1
  have h3 := h.1.2
  have h4 := h.2.2
  unfold rdP
  refine ⟨?_, by omega, by omega⟩
  split <;> omega
instance (l : List UInt8) : Decidable (Good l) := by unfold Good; infer_instance
instance (l : List UInt8) : Decidable (RdGood l) := by unfold RdGood; infer_instance
instance (l : List UInt8) : Decidable (PrOk l) := by unfold PrOk; infer_instance
def prP (l : List UInt8) : Int := if PrOk l then rdP l else 0
def prQ (l : List UInt8) : Int := if PrOk l then dec (rdB l) else 0
def prE (l : List UInt8) : Int := if PrOk l then 0 else 30
abbrev prV (l : List UInt8) : Value := .tuple #[.agg #[.int .i64 (prP l), .int .i64 (prQ l)], .int .i64 (prE l)]
theorem prV_ok {l : List UInt8} (h : PrOk l) : prV l = .tuple #[.agg #[.int .i64 (rdP l), .int .i64 (dec (rdB l))], .int .i64 0] := by
  unfold prV prP prQ prE; rw [if_pos h, if_pos h, if_pos h]
theorem prV_no {l : List UInt8} (h : ¬ PrOk l) : prV l = .tuple #[.agg #[.int .i64 0, .int .i64 0], .int .i64 30] := by
  unfold prV prP prQ prE; rw [if_neg h, if_neg h, if_neg h]

set_option maxHeartbeats 4000000 in
theorem rat_parse (s : ByteArray) (hs : s.size ≤ maxLen) (w : World) (ht : Tab w) :
    Calls Tryd.prog 30 #[.string s] w fun e w' => e = .returned (prV s.data.toList) ∧ Below w.heap.size w w' := by
  have J0 := Lib.hid ((Keeps.start w).alloc #[.int .i64 0, .int .i64 0] 23)
  have T0 := Lib.hid (ht.alloc (.cells #[.int .i64 0, .int .i64 0] 23))
  by_cases hg : RdGood s.data.toList
  · have KR := Lib.hid (fun W => rat_read_good s hs hg W)
    obtain ⟨⟨p1, p2⟩, q1, q2⟩ := rdP_bd hg
    have KT := Lib.hid (fun W hT => rat_text (rdP s.data.toList) (dec (rdB s.data.toList)) (by unfold I64; omega) (by unfold I64; omega) W hT)
    by_cases he : rtxt (rdP s.data.toList) (dec (rdB s.data.toList)) = s.data.toList
    · have HV := Lib.hid (prV_ok (l := s.data.toList) ⟨hg, he⟩)
      have KT : Hid (∀ W, Tab W → Calls Tryd.prog 29 #[.agg #[.int .i64 (rdP s.data.toList), .int .i64 (dec (rdB s.data.toList))]] W fun e w' => e = .returned (.string s) ∧ Below W.heap.size W w') := by
        intro W hT
        have := KT.out W hT
        rw [he] at this
        exact this
      clear he hg p1 p2 q1 q2
      rw [HV.out]
      generalize rdP s.data.toList = p at *
      generalize dec (rdB s.data.toList) = q at *
      go_enter Tryd.func30, Tryd.ntmps30
      go_wp2_with fail
      refine (KR.out _).mono ?_
      rintro e w1 ⟨rfl, b1⟩
      have J1 := Lib.hid ((J0.out.below b1).alloc #[.int .i64 p, .int .i64 q] 23)
      have T1 := Lib.hid ((T0.out.below b1).alloc (.cells #[.int .i64 p, .int .i64 q] 23))
      clear b1
      go_wp2_with fail
      refine (KT.out _ T1.out).mono ?_
      rintro e w2 ⟨rfl, b2⟩
      have J2 := Lib.hid (J1.out.below b2)
      obtain ⟨x0, x1, _, _⟩ := J2.out.head.two
      obtain ⟨r0, r1, r2, r3⟩ := J2.out.tail.head.two
      clear b2
      go_wp2
      have Z := J2.out.tail.head.set2 (.int .i64 p) (.int .i64 q)
      obtain ⟨k0, k1, _, _⟩ := Z.two
      refine bodyPost_ret (v := .tuple #[.agg #[.int .i64 p, .int .i64 q], .int .i64 0]) ?_ rfl ⟨rfl, (J2.out.2.1.setCell (p := ⟨w.heap.size, 0, none⟩) (by simp) _).setCell (p := ⟨w.heap.size, 1, none⟩) (by simp) _⟩
      simp [results, Tryd.results30, go_sem, k0, k1]
    · have HV := Lib.hid (prV_no (l := s.data.toList) fun h => he h.2)
      have hne : bstr (rtxt (rdP s.data.toList) (dec (rdB s.data.toList))) ≠ s := fun h => he (by have := congrArg (fun b : ByteArray => b.data.toList) h; simpa using this)
      have hnb : ((bstr (rtxt (rdP s.data.toList) (dec (rdB s.data.toList)))).toList == s.toList) = false := by
        rw [ByteArray.toList_eq, ByteArray.toList_eq]
        simpa using he
      clear he hg p1 p2 q1 q2
      rw [HV.out]
      generalize bstr (rtxt (rdP s.data.toList) (dec (rdB s.data.toList))) = T at *
      generalize rdP s.data.toList = p at *
      generalize dec (rdB s.data.toList) = q at *
      go_enter Tryd.func30, Tryd.ntmps30
      go_wp2_with fail
      refine (KR.out _).mono ?_
      rintro e w1 ⟨rfl, b1⟩
      have J1 := Lib.hid ((J0.out.below b1).alloc #[.int .i64 p, .int .i64 q] 23)
      have T1 := Lib.hid ((T0.out.below b1).alloc (.cells #[.int .i64 p, .int .i64 q] 23))
      clear b1
      go_wp2_with fail
      refine (KT.out _ T1.out).mono ?_
      rintro e w2 ⟨rfl, b2⟩
      have J2 := Lib.hid (J1.out.below b2)
      obtain ⟨x0, x1, _, _⟩ := J2.out.head.two
      obtain ⟨r0, r1, r2, r3⟩ := J2.out.tail.head.two
      clear b2
      go_wp2
      have Z := J2.out.tail.head.set2 (.int .i64 0) (.int .i64 0)
      obtain ⟨k0, k1, _, _⟩ := Z.two
      refine bodyPost_ret (v := .tuple #[.agg #[.int .i64 0, .int .i64 0], .int .i64 30]) ?_ rfl ⟨rfl, (J2.out.2.1.setCell (p := ⟨w.heap.size, 0, none⟩) (by simp) _).setCell (p := ⟨w.heap.size, 1, none⟩) (by simp) _⟩
      simp [results, Tryd.results30, go_sem, k0, k1]
  · have HV := Lib.hid (prV_no (l := s.data.toList) fun h => hg h.1)
    have KR := Lib.hid (fun W => rat_read_bad s hs hg W)
    clear hg
    rw [HV.out]
    go_enter Tryd.func30, Tryd.ntmps30
    go_wp2_with fail
    refine (KR.out _).mono ?_
    rintro e w1 hh
    obtain ⟨c, hc, rfl, b1⟩ := hh
    have J1 := Lib.hid (J0.out.below b1)
    obtain ⟨r0, r1, r2, r3⟩ := J1.out.head.two
    have hs := J1.out.2.2
    have HC := Lib.hid hc
    have hlt : w.heap.size < w1.heap.size := J1.out.head.lt
    clear b1
    go_wp2
    have Z := (J1.out.head.set2 (.int .i64 0) (.int .i64 0)).alloc (.cells #[.int .i64 0, .int .i64 0] 23)
    obtain ⟨k0, k1, _, _⟩ := Z.two
    refine bodyPost_ret (v := .tuple #[.agg #[.int .i64 0, .int .i64 0], .int .i64 30]) ?_ rfl ⟨rfl, ((J1.out.2.1.setCell (p := ⟨w.heap.size, 0, none⟩) (by simp) _).setCell (p := ⟨w.heap.size, 1, none⟩) (by simp) _).alloc (by simp; omega) _⟩
    simp [results, Tryd.results30, go_sem, k0, k1]
end Go.Proofs.YtbnpbflndnjmcaaDoor
